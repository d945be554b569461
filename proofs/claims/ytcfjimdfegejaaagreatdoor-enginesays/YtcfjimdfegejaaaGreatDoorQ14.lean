import Derived.Test.YtcfjimdfegejaaaGreatDoorQ11
import Derived.Test.YtcfjimdfegejaaaGreatDoorQ05
set_option maxHeartbeats 8000000
set_option maxRecDepth 100000
namespace Go.Proofs.YtcfjimdfegejaaaGreatDoor
open Value renaming oneCell'→U1,slice→FZ
open World renaming frozen?_of_block→CZ,news_of_block→V2
open Go.Proofs.Tryz
open Obj renaming cells→o_
open World renaming cell?_of_block→b_
open Nat renaming le_refl→n_
open Go.Proofs.Tryz renaming prog→p_
open Go.Joins renaming below_alloc1→a_
section
open Go.RowKit Go.Joins
attribute [local go_sem ↓] Go.wp_at_zero Go.wp_at_succ
def tL (w w':World) (B rb:Nat) (ds:List (List ma)) (ah:List ma):Prop:=∃ dv av l,uj w' B rb dv av l ah/\l.map (·.ba)=ds/\Below B w w'
section
variable {w:World} {B rb:Nat} {dv av:Value} {ds:List Dd} {ah:List ma}
theorem zLd (d:BA) (hd:d.size<=300) (hp:gI d≠0) (w:World) (h:uj w B rb dv av ds ah) (h7:B<=w.heap.size):
  Calls p_ 257 #[.pointer (some ⟨rb,0,none⟩),.int .u8 111,.string d] w fun e w'=>e=.returned (.bool false)/\tL w w' B rb (ds.map (·.ba)) ah:=by
 have HP:=aa (zBN d hd w);rw[aP hp] at HP;have H:=aa h;clear h hp;generalize gY d=c at *;generalize gI d=pf at *;go_enter func257,ntmps257;go_wp2_with (go_at_call 282;refine HP.out.mono ?_;rintro e w1 ⟨rfl,Ba⟩;have zb:=aa Ba;clear Ba)
 go_ret;have RH:=aB zb.out (n_ _) (a_ w1 (FX c.key c.val c.gone));exact⟨rfl,dv,av,ds,H.out.on RH,rfl,RH.mono h7⟩
theorem zEB (d:BA) (hd:d.size<=300) (hp:gI d=0) (w:World) (h:uj w B rb dv av ds ah) (h7:B<=w.heap.size) (hah:ah.length<=1000):
  Calls p_ 257 #[.pointer (some ⟨rb,0,none⟩),.int .u8 111,.string d] w fun e w'=>e=.returned (.bool true)/\tL w w' B rb (ds.map (·.ba)) (ah++[gY d]):=by
 have HP:=aa (zBN d hd w);rw[hp,aR] at HP;have H:=aa h;have Yn:rb<w.heap.size:=h.lt (.inl rfl);have MN:some rb≠av.ownBlock:=fun e=>h.ap.2 rb e.symm rfl;clear h hp;generalize gY d=c at *;obtain⟨i0,Qb,Xb,Yc,te⟩:=info_parts qS;go_enter func257,ntmps257;go_wp2_with (go_at_call 282;refine HP.out.mono ?_;rintro e w1 ⟨rfl,Ba⟩;have zb:=aa Ba;clear Ba)
 have Cb:=aa (aB zb.out (n_ _) (a_ w1 (FX c.key c.val c.gone)));obtain⟨a0,a1,a2,-⟩:=Nf w1 (FX c.key c.val c.gone) rfl rfl;have H2:=aa (H.out.on Cb.out);have Lh:rb<(w1.alloc (FX c.key c.val c.gone)).heap.size:=H2.out.lt (.inl rfl);have c1:=H2.out.c1;have f1:=H2.out.soft 1;have Qi:B<=(w1.alloc (FX c.key c.val c.gone)).heap.size:=Nat.le_trans h7 Cb.out.size;generalize VN:w1.heap.size=cb at *;generalize w1.alloc (FX c.key c.val c.gone)=W at *;have Od:Hid (∀ j u,(bN c)[j]?=some u->(W.alloc (o_ (bN c).toArray 99)).drew.cell? ((⟨W.heap.size,0,none⟩:Addr).add j)=some u):=
  V2 (cs:=(bN c).toArray) (t:=99) (fr:=(0,0)) (heap_alloc_new W _)
 clear VN;have d1:=aA (a_ W (o_ (bN c).toArray 99)).drew c1
 go_region_law ((refine step_append_lies _ (by rfl) _ _ _ (by rfl) B 99 i0 _ 3 40 underlying36 Qb Xb Yc te rfl (by omega) av ah.length (cG ah) (by rfl) ((H2.out.oa.alloc _).drew) ⟨W.heap.size,0,none⟩ 1 1 (bN c) (by rfl) (by rfl) Od.out (by simp[bN,U1]) (by omega) (by unfold maxLen;omega) (by omega) (by simp;omega) (W.heap.size+1) (by simp) ?_;intro g5 Dc w5 Xi Ti qg om;have e5:w5.heap[rb]?=W.heap[rb]?:=(Ti.block rb (by simp;omega) MN).trans ((a_ W _).drew.block rb Lh);have d5:=(b_ (a:=⟨rb,1,none⟩) e5).trans c1;have g5':=(CZ (a:=⟨rb,1,none⟩) e5).trans f1))
 all_goals
  obtain⟨Qa,se⟩:=H2.out.push (c:=c) Qi Xi Ti qg;have Kb:=aa Qa;have Cg:=aa se;clear Qa se e5 d5 g5' Xi Ti qg om;go_wp2;go_ret;exact⟨rfl,_,_,ds,Kb.out,rfl,(Cb.out.mono h7).trans Cg.out⟩
theorem zFm {w:World} {B:Nat} {v:Value} {l:List ma} (h:bO w B v l):∃ ao cap,v=.slice ao l.length cap:=by
 rcases h.2 with⟨e,e2⟩|⟨g,cap,cur,e,_⟩
 ·exact⟨none,0,by rw[e,e2]⟩
 ·exact⟨_,cap,e⟩
theorem zGh (d:BA) (hp:(d.toList==(dM ah.length).toList)=false) (w:World) (h:uj w B rb dv av ds ah) (h7:B<=w.heap.size) (hah:ah.length<=1000):
  Calls p_ 257 #[.pointer (some ⟨rb,0,none⟩),.int .u8 99,.string d] w fun e w'=>e=.returned (.bool false)/\tL w w' B rb (ds.map (·.ba)) ah:=by
 have HF:=aa (nK ah.length (by omega) w);have H:=aa h;obtain⟨ao,cap,rfl⟩:=zFm h.oa;have c1:=h.c1;clear h;generalize dM ah.length=ff at *;go_enter func257,ntmps257;go_wp2_with (go_at_call 245;refine HF.out.mono ?_;rintro e w1 ⟨rfl,Ba⟩;have zb:=aa Ba;clear Ba)
 go_ret;exact⟨rfl,dv,_,ds,H.out.on zb.out,rfl,zb.out.mono h7⟩
theorem zGj (d:BA) (hp:(d.toList==(dM ah.length).toList)=true) (w:World) (h:uj w B rb dv av ds ah) (h7:B<=w.heap.size) (hah:ah.length<=1000) (jl:ds.length<=1000):
  Calls p_ 257 #[.pointer (some ⟨rb,0,none⟩),.int .u8 99,.string d] w fun e w'=>e=.returned (.bool true)/\tL w w' B rb (ds.map (·.ba)++[ah]) []:=by
 have HF:=aa (nK ah.length (by omega) w);have H:=aa h;obtain⟨ao,cap,rfl⟩:=zFm h.oa;have c1:=h.c1;have Bq:some rb≠dv.ownBlock:=fun e=>(h.ap.1 rb e.symm).1 rfl;clear h;generalize dM ah.length=ff at *;obtain⟨i0,Qb,Xb,Yc,te⟩:=info_parts zIo;go_enter func257,ntmps257;go_wp2_with (go_at_call 245;refine HF.out.mono ?_;rintro e W ⟨rfl,Ba⟩;have zb:=aa Ba;clear Ba)
 have H2:=aa (H.out.on zb.out);replace c1:=H2.out.c1;have c0:=H2.out.c0;have f0:=H2.out.soft 0;have Lh:rb<W.heap.size:=H2.out.lt (.inl rfl);have Qi:B<=W.heap.size:=Nat.le_trans h7 zb.out.size;have Od:Hid (∀ j u,[FZ ao ah.length cap][j]?=some u->(W.alloc (o_ #[.slice ao ah.length cap] 36)).drew.cell? ((⟨W.heap.size,0,none⟩:Addr).add j)=some u):=
  V2 (cs:=#[FZ ao ah.length cap]) (t:=36) (fr:=(0,0)) (heap_alloc_new W _)
 have d0:=aA (a_ W (o_ #[.slice ao ah.length cap] 36)).drew c0;have d1:=aA (a_ W (o_ #[.slice ao ah.length cap] 36)).drew c1
 go_region_law ((refine step_append_lies _ (by rfl) _ _ _ (by rfl) B 36 i0 _ 1 24 underlying184 Qb Xb Yc te rfl (by omega) dv ds.length (ds.map Ip) (by rfl) ((H2.out.od.alloc _).drew) ⟨W.heap.size,0,none⟩ 1 1 [FZ ao ah.length cap] (by rfl) (by rfl) Od.out (by simp[U1]) (by omega) (by unfold maxLen;omega) (by omega) (by simp;omega) (W.heap.size+1) (by simp) ?_;intro g5 Dc w5 Xi Ti qg om;have e5:w5.heap[rb]?=W.heap[rb]?:=(Ti.block rb (by simp;omega) Bq).trans ((a_ W _).drew.block rb Lh);have d5:=(b_ (a:=⟨rb,0,none⟩) e5).trans c0;have d6:=(b_ (a:=⟨rb,1,none⟩) e5).trans c1;have g5':=(CZ (a:=⟨rb,0,none⟩) e5).trans f0;have g6':=(CZ (a:=⟨rb,1,none⟩) e5).trans (H2.out.soft 1)))
 all_goals
  obtain⟨Qa,se⟩:=H2.out.close Qi Xi Ti qg;have Kb:=aa Qa;have Cg:=aa se;clear Qa se e5 Xi Ti qg om;go_wp2;go_ret;exact⟨rfl,_,_,_,Kb.out,by simp,(zb.out.mono h7).trans Cg.out⟩
end
end
end Go.Proofs.YtcfjimdfegejaaaGreatDoor
