import Derived.Test.YtcfjimdfegejaaaGreatDoorQ19
import Derived.Test.YtcfjimdfegejaaaGreatDoorQ22
import Derived.Test.YtcfjimdfegejaaaGreatDoorQ21
import Derived.Test.YtcfjimdfegejaaaGreatDoorQ24
set_option maxHeartbeats 8000000
set_option maxRecDepth 100000
namespace Go.Proofs.YtcfjimdfegejaaaGreatDoor
open List renaming length_take_le→D6
open Go.Proofs.Tryz
open World renaming ownsRow.lt→l_
open Go.RowKit.Below renaming refl→r_
open Go.Proofs.Tryz renaming prog→p_
open Value renaming string→v_,int→i_
open Go.Joins renaming below_alloc1→a_
variable {w:World} {B:Nat} {v:Value} {l:List Xg}
section
open Go.RowKit Go.Joins Go.Shelf
attribute [local go_sem ↓] Go.wp_at_zero Go.wp_at_succ
theorem oN (ao Nj:Option Addr) (cap pd:Nat) (w:World):
  Calls p_ 69 #[.slice ao 0 cap,.slice Nj 0 pd] w fun e w'=>e=.returned (.bool true)/\Below w.heap.size w w':=by
 go_enter func69,ntmps69;go_wp2;refine wp_loop_rounds 1 ?_;rw[rounds_succ];go_wp2;go_ret;exact⟨rfl,r_ _ _⟩
theorem zGI (h:Uf w B v l):∃ a n c,v=.slice a n c:=by
 rcases h.2 with⟨e,_⟩|⟨g,cap,cur,e,_⟩
 ·exact⟨_,_,_,e⟩
 ·exact⟨_,_,_,e⟩
theorem zOo {w':World} (h:Uf w B v l) (hk:∀ k,v.ownBlock=some k->w'.heap[k]?=w.heap[k]?):Uf w' B v l:=by
 refine⟨h.1,?_⟩;rcases h.2 with e|⟨g,cap,cur,rfl,hB,hg,h3⟩
 ·exact .inl e
 ·exact .inr ⟨g,cap,cur,rfl,hB,(hk g rfl).trans hg,h3⟩
theorem zNw (l:List Xg) {B1 B2:Nat} {v1 v2:Value} (w:World) (h1:Uf w B1 v1 l) (h2:Uf w B2 v2 l) (hn:l.length<=1000):
  Calls p_ 69 #[v1,v2] w fun e w'=>e=.returned (.bool true)/\Below w.heap.size w w':=by
 rcases h1.2 with⟨e,e0⟩|⟨g,cap,cur,e,_⟩
 ·rcases h2.2 with⟨f,_⟩|⟨g2,pd,JM,f,_⟩
  ·subst e f;exact oN _ _ _ _ _
  ·subst e f;rw[e0];exact oN _ _ _ _ _
 ·rcases h2.2 with⟨f,f0⟩|⟨g2,pd,JM,f,_⟩
  ·subst e f;rw[f0];exact oN _ _ _ _ _
  ·subst e f;exact zLP l w h1 h2 hn
theorem zGz (P:ta) (ba:List ma) (ga:ta) (name:BA) (h:Zk P ba ga):(cY P ba ga name).2.1.length<=1000:=by
 unfold cY;split
 ·split
  ·split
   ·show(jQ _).length<=1000;have h1:=(jN h (aZ name,Jb name)).1;rw[show ∀ l:ta,(jQ l).length=l.length from fun l=>by unfold jQ;rw[List.length_map]];have h2:=D6 53 (aF P ba (aZ name,Jb name));omega
   ·exact Nat.zero_le _
  ·exact Nat.zero_le _
 ·exact Nat.zero_le _
abbrev Fh (a b c:Int) (d:BA):Obj:=EX a b c d
abbrev xj (a b:Int) (d:BA):Obj:=CX a b d
abbrev Dp (a b:BA):Obj:=GX a b
abbrev Ze (x:Vd):Obj:=LX x.kind x.a x.b x.c x.k x.s x.t x.ca x.ba.length x.cc x.sa x.Zh.length x.sc
theorem zO9 (x:Vd) {wb rb:Nat} {S G:Nat->Prop} {P:ta} {since:Sn} {ba:List ma} {ga:ta} (w:World) (h:TB w B wb rb S G P since ba ga ba ga) (hl:fT x) (Mk:bY w x.sa x.Zh):
  Calls p_ 21 #[.pointer (some ⟨wb,0,none⟩),.pointer (some ⟨rb,0,none⟩),.agg #[v_ x.kind,i_ .i64 x.a,i_ .i64 x.b,i_ .i64 x.c,i_ .u64 x.k,v_ x.s,v_ x.t,Value.slice x.ca x.ba.length x.cc,Value.slice x.sa x.Zh.length x.sc]] w fun e w'=>e=.returned (.bool true)/\zPt w w' B wb rb S P since:=by
 have hs:=hl.1;have ht:=hl.2.1;have xt:=hl.2.2.1;have Hh:=hl.2.2.2;obtain⟨y0,y1,y2,y3,-,y5,y6,-,y8,-⟩:=nw9 w (Ze x) rfl rfl;have vd:Hid (¬S w.heap.size):=fun e=>by have:=h.qv.pv.lt e;omega
 have Xd:Hid (w.heap.size≠rb):=fun e=>by have:=h.qr.rw.ug;omega
 have Ph:Hid (Fr w (w.alloc (Ze x)) B rb S S):=.on h.qr.lo (a_ _ _);have HB:=aa (h.on (a_ w (Ze x)));have Mb:(w.alloc (Ze x)).heap.size=w.heap.size+1:=by simp
 have Xq:=aa h.qr.rl;clear h;cases k0:(x.kind.toList==[99,114,101,97,116,101])
 case true=>
  clear Mk
  as_aux_lemma=>
   clear y2 y3 y8;have Ki:=fun W=>aa (eI ((fD P ba ga x.s x.a x.t).1) _ W (gF _));go_enter func21,ntmps21;go_wp2_with fail;generalize w.alloc (Ze x)=wx at *;have Qg:=HB.out.on (r_ _ wx).drew;have kf:Fr wx wx.drew B rb S S:=.on HB.out.qr.lo (r_ _ wx).drew
   go_region_held3 (fun w'=>w'.cell? ⟨w.heap.size,5,none⟩=some (.string x.s)/\w'.cell? ⟨w.heap.size,1,none⟩=some (.int .i64 x.a)/\w'.cell? ⟨w.heap.size,6,none⟩=some (.string x.t))
    (first
     | go_keep
     | exact⟨(Bd.out).cell y5 vd.out Xd.out,(Bd.out).cell y1 vd.out Xd.out,(Bd.out).cell y6 vd.out Xd.out⟩
     | exact⟨(kf.trans oj).cell y5 vd.out Xd.out,(kf.trans oj).cell y1 vd.out Xd.out,(kf.trans oj).cell y6 vd.out Xd.out⟩
     | exact⟨(kf.trans nj).cell y5 vd.out Xd.out,(kf.trans nj).cell y1 vd.out Xd.out,(kf.trans nj).cell y6 vd.out Xd.out⟩)
    (first
     | (go_at_call 50;refine(zEK x.s x.a x.t _ To.qv (by omega) (by omega)).mono ?_;rintro e w1 ⟨rfl,ha⟩;obtain⟨S1,ph,lh⟩:=To.view ha;have Tc:=aa ph;have Bd:=aa ((kf.trans nj).trans lh);clear ph lh ha)
     | (go_at_call 50;refine(zEK x.s x.a x.t _ Qg.qv (by omega) (by omega)).mono ?_;rintro e w1 ⟨rfl,ha⟩;obtain⟨S1,Uo,oj⟩:=Qg.view ha;clear ha)
     | (go_at_call 51;refine(zD6 x.s x.a x.t _ Uo.qr (by omega) (by omega)).mono ?_;rintro e w2 ⟨rfl,hr⟩;obtain⟨G2,ph,lh⟩:=Uo.ref hr;have Tc:=aa ph;have Bd:=aa ((kf.trans oj).trans lh);clear ph lh hr)
     | (go_at_call 51;refine(zD6 x.s x.a x.t _ Qg.qr (by omega) (by omega)).mono ?_;rintro e w2 ⟨rfl,hr⟩;obtain⟨G2,To,nj⟩:=Qg.ref hr;clear hr)
     | (go_at_call 8;refine(Ki _).out.mono ?_;rintro e w3 ⟨rfl,rfl⟩)
     | fail)
   all_goals
    have Pm:=aa (Ph.out.trans Bd.out);go_wp2;go_ret;exact⟨rfl,_,_,_,_,Tc.out,Pm.out⟩
 case false=>
 cases k1:(x.kind.toList==[115,101,110,100])
 case true=>
  clear Mk
  as_aux_lemma=>
   clear y2 y3 y8;have HP:=aa (fun (W:World) (hW:QV W B wb S P since ba ga)=>zIc x.s x.t x.a W hW (by omega));have HR:=aa (fun (G1:Nat->Prop) (W:World) (hW:QR W B rb G1 P since ba ga)=>zOy x.s x.t x.a W hW (by omega));have Ki:=fun W=>aa (eI (fN P ba ga x.s x.t x.a).2.1 _ W (gF _));generalize fN P ba ga x.s x.t x.a=r at *;go_enter func21,ntmps21;go_wp2_with fail;generalize w.alloc (Ze x)=wx at *;go_wp2_with (first
    | (go_at_call 52;refine(HP.out _ HB.out.qv).mono ?_;rintro e w1 ⟨rfl,ha⟩;obtain⟨S1,Be,Qc⟩:=HB.out.view ha;have Dg:=aa Be;have wi:=aa (Ph.out.trans Qc);replace y5:=Qc.cell y5 vd.out Xd.out;replace y6:=Qc.cell y6 vd.out Xd.out;replace y1:=Qc.cell y1 vd.out Xd.out;clear Be Qc ha)
    | (go_at_call 53;refine(HR.out _ _ Dg.out.qr).mono ?_;rintro e w2 ⟨rfl,hr⟩;obtain⟨G2,Jg,Ld⟩:=Dg.out.ref hr;have Qf:=aa Jg;have Zf:=aa (wi.out.trans Ld);clear Jg Ld hr)
    | (go_at_call 8;refine(Ki _).out.mono ?_;rintro e w3 ⟨rfl,rfl⟩))
   go_ret;exact⟨rfl,_,_,_,_,Qf.out,Zf.out⟩
 case false=>
 cases k2:(x.kind.toList==[114,101,99,101,105,118,101])
 case true=>
  clear Mk
  as_aux_lemma=>
   clear y3 y6 y8;have HP:=aa (fun (W:World) (hW:QV W B wb S P since ba ga)=>zCy x.s x.a x.b W hW (by omega));have HR:=aa (fun (G1:Nat->Prop) (W:World) (hW:QR W B rb G1 P since ba ga)=>zIF x.s x.a x.b W hW (by omega) (fun name qx tries Ca now long G ba ga w h1 h2 h3 h4 h5=>zNu name qx tries Ca now long w h1 h2 h3 h4 h5));have Ki:=fun W=>aa (eI (dK P ba ga x.s x.a x.b).1.2.2.2.2 _ W (gF _));generalize dK P ba ga x.s x.a x.b=r at *;obtain⟨⟨m0,m1,m2,m3,me⟩,c9,r9⟩:=r;dsimp only at *;go_enter func21,ntmps21;go_wp2_with fail;generalize w.alloc (Ze x)=wx at *;refine(HP.out _ HB.out.qv).mono ?_;rintro e w1 ⟨rfl,ha⟩;obtain⟨S1,Be,Qc⟩:=HB.out.view ha;have Dg:=aa (Be.on (a_ w1 (Fh m0 m1 m2 m3)));have wi:=aa ((Ph.out.trans Qc).trans (Fr.on (rb:=rb) (S:=S1) Be.qr.lo (a_ w1 (Fh m0 m1 m2 m3))));have Yc:rb<w1.heap.size:=Be.qr.rw.ug;have Tq:Hid (¬S1 w1.heap.size):=fun e=>by have:=Be.qv.pv.lt e;omega
   replace y5:=aA (a_ w1 (Fh m0 m1 m2 m3)) (Qc.cell y5 vd.out Xd.out);replace y1:=aA (a_ w1 (Fh m0 m1 m2 m3)) (Qc.cell y1 vd.out Xd.out);replace y2:=aA (a_ w1 (Fh m0 m1 m2 m3)) (Qc.cell y2 vd.out Xd.out);obtain⟨z0,z1,z2,z3,-⟩:=kn w1 (Fh m0 m1 m2 m3) rfl rfl;clear Be Qc ha;go_wp2_with fail;generalize w1.alloc (Fh m0 m1 m2 m3)=wy at *;refine(HR.out _ _ Dg.out.qr).mono ?_;rintro e w2 ⟨rfl,hr⟩;obtain⟨G2,Jg,Ld⟩:=Dg.out.ref hr;have Qf:=aa (Jg.on (a_ w2 (Fh m0 m1 m2 m3)));have Zf:=aa ((wi.out.trans Ld).trans (Fr.on (rb:=rb) (S:=S1) Jg.qr.lo (a_ w2 (Fh m0 m1 m2 m3))));replace z0:=aA (a_ w2 (Fh m0 m1 m2 m3)) (Ld.cell z0 Tq.out (by show w1.heap.size≠rb;omega));replace z1:=aA (a_ w2 (Fh m0 m1 m2 m3)) (Ld.cell z1 Tq.out (by show w1.heap.size≠rb;omega));replace z2:=aA (a_ w2 (Fh m0 m1 m2 m3)) (Ld.cell z2 Tq.out (by show w1.heap.size≠rb;omega));replace z3:=aA (a_ w2 (Fh m0 m1 m2 m3)) (Ld.cell z3 Tq.out (by show w1.heap.size≠rb;omega));have AX:(m3.toList==m3.toList)=true:=by simp
   clear Jg Ld hr;go_wp2_with (first
    | (go_at_call 8;refine(Ki _).out.mono ?_;rintro e w3 ⟨rfl,rfl⟩))
   go_ret;exact⟨rfl,_,_,_,_,Qf.out,Zf.out⟩
 case false=>
 cases k3:(x.kind.toList==[97,99,107])
 case true=>
  clear Mk
  as_aux_lemma=>
   clear y3 y6 y8;have Ki:=fun W=>aa (eI ((pk P ba ga x.s x.a x.b).1) _ W (gF _));go_enter func21,ntmps21;go_wp2_with fail;generalize w.alloc (Ze x)=wx at *;have Qg:=HB.out.on (r_ _ wx).drew;have kf:Fr wx wx.drew B rb S S:=.on HB.out.qr.lo (r_ _ wx).drew
   go_region_held3 (fun w'=>w'.cell? ⟨w.heap.size,5,none⟩=some (.string x.s)/\w'.cell? ⟨w.heap.size,1,none⟩=some (.int .i64 x.a)/\w'.cell? ⟨w.heap.size,2,none⟩=some (.int .i64 x.b))
    (first
     | go_keep
     | exact⟨(Bd.out).cell y5 vd.out Xd.out,(Bd.out).cell y1 vd.out Xd.out,(Bd.out).cell y2 vd.out Xd.out⟩
     | exact⟨(kf.trans oj).cell y5 vd.out Xd.out,(kf.trans oj).cell y1 vd.out Xd.out,(kf.trans oj).cell y2 vd.out Xd.out⟩
     | exact⟨(kf.trans nj).cell y5 vd.out Xd.out,(kf.trans nj).cell y1 vd.out Xd.out,(kf.trans nj).cell y2 vd.out Xd.out⟩)
    (first
     | (go_at_call 56;refine(zKS x.s x.a x.b _ To.qv (by omega) xt Hh).mono ?_;rintro e w1 ⟨rfl,ha⟩;obtain⟨S1,ph,lh⟩:=To.view ha;have Tc:=aa ph;have Bd:=aa ((kf.trans nj).trans lh);clear ph lh ha)
     | (go_at_call 56;refine(zKS x.s x.a x.b _ Qg.qv (by omega) xt Hh).mono ?_;rintro e w1 ⟨rfl,ha⟩;obtain⟨S1,Uo,oj⟩:=Qg.view ha;clear ha)
     | (go_at_call 57;refine(zNo x.s x.a x.b _ Uo.qr (by omega) Hh).mono ?_;rintro e w2 ⟨rfl,hr⟩;obtain⟨G2,ph,lh⟩:=Uo.ref hr;have Tc:=aa ph;have Bd:=aa ((kf.trans oj).trans lh);clear ph lh hr)
     | (go_at_call 57;refine(zNo x.s x.a x.b _ Qg.qr (by omega) Hh).mono ?_;rintro e w2 ⟨rfl,hr⟩;obtain⟨G2,To,nj⟩:=Qg.ref hr;clear hr)
     | (go_at_call 8;refine(Ki _).out.mono ?_;rintro e w3 ⟨rfl,rfl⟩)
     | fail)
   all_goals
    have Pm:=aa (Ph.out.trans Bd.out);go_wp2;go_ret;exact⟨rfl,_,_,_,_,Tc.out,Pm.out⟩
 case false=>
 cases k4:(x.kind.toList==[119,97,105,116])
 case true=>
  clear Mk
  as_aux_lemma=>
   clear y6 y8;have Ki:=fun W=>aa (eI ((iZ P ba ga x.s x.a x.b x.c).1) _ W (gF _));go_enter func21,ntmps21;go_wp2_with fail;generalize w.alloc (Ze x)=wx at *;have Qg:=HB.out.on (r_ _ wx).drew;have kf:Fr wx wx.drew B rb S S:=.on HB.out.qr.lo (r_ _ wx).drew
   go_region_held3 (fun w'=>w'.cell? ⟨w.heap.size,5,none⟩=some (.string x.s)/\w'.cell? ⟨w.heap.size,1,none⟩=some (.int .i64 x.a)/\w'.cell? ⟨w.heap.size,2,none⟩=some (.int .i64 x.b)/\w'.cell? ⟨w.heap.size,3,none⟩=some (.int .i64 x.c))
    (first
     | go_keep
     | exact⟨(Bd.out).cell y5 vd.out Xd.out,(Bd.out).cell y1 vd.out Xd.out,(Bd.out).cell y2 vd.out Xd.out,(Bd.out).cell y3 vd.out Xd.out⟩
     | exact⟨(kf.trans oj).cell y5 vd.out Xd.out,(kf.trans oj).cell y1 vd.out Xd.out,(kf.trans oj).cell y2 vd.out Xd.out,(kf.trans oj).cell y3 vd.out Xd.out⟩
     | exact⟨(kf.trans nj).cell y5 vd.out Xd.out,(kf.trans nj).cell y1 vd.out Xd.out,(kf.trans nj).cell y2 vd.out Xd.out,(kf.trans nj).cell y3 vd.out Xd.out⟩)
    (first
     | (go_at_call 58;refine(zJo x.s x.a x.b x.c _ To.qv (by omega) xt Hh).mono ?_;rintro e w1 ⟨rfl,ha⟩;obtain⟨S1,ph,lh⟩:=To.view ha;have Tc:=aa ph;have Bd:=aa ((kf.trans nj).trans lh);clear ph lh ha)
     | (go_at_call 58;refine(zJo x.s x.a x.b x.c _ Qg.qv (by omega) xt Hh).mono ?_;rintro e w1 ⟨rfl,ha⟩;obtain⟨S1,Uo,oj⟩:=Qg.view ha;clear ha)
     | (go_at_call 59;refine(zKE x.s x.a x.b x.c _ Uo.qr (by omega) Hh).mono ?_;rintro e w2 ⟨rfl,hr⟩;obtain⟨G2,ph,lh⟩:=Uo.ref hr;have Tc:=aa ph;have Bd:=aa ((kf.trans oj).trans lh);clear ph lh hr)
     | (go_at_call 59;refine(zKE x.s x.a x.b x.c _ Qg.qr (by omega) Hh).mono ?_;rintro e w2 ⟨rfl,hr⟩;obtain⟨G2,To,nj⟩:=Qg.ref hr;clear hr)
     | (go_at_call 8;refine(Ki _).out.mono ?_;rintro e w3 ⟨rfl,rfl⟩)
     | fail)
   all_goals
    have Pm:=aa (Ph.out.trans Bd.out);go_wp2;go_ret;exact⟨rfl,_,_,_,_,Tc.out,Pm.out⟩
 case false=>
 cases k5:(x.kind.toList==[102,105,110,100])
 case true=>
  clear Mk
  as_aux_lemma=>
   clear y1 y2 y3 y6 y8;have HP:=aa (fun (W:World) (hW:QV W B wb S P since ba ga)=>kK x.s W hW (by omega));have HR:=aa (fun (G1:Nat->Prop) (W:World) (hW:QR W B rb G1 P since ba ga)=>gZ x.s W hW (by omega));have Ki:=fun W=>aa (eI (aN P ba ga x.s).2.2.2 _ W (gF _));generalize aN P ba ga x.s=r at *;obtain⟨m0,m1,m2,me⟩:=r;dsimp only at *;go_enter func21,ntmps21;go_wp2_with fail;generalize w.alloc (Ze x)=wx at *;refine(HP.out _ HB.out.qv).mono ?_;rintro e w1 ⟨rfl,ha⟩;obtain⟨S1,Be,Qc⟩:=HB.out.view ha;have Dg:=aa (Be.on (a_ w1 (xj m0 m1 m2)));have wi:=aa ((Ph.out.trans Qc).trans (Fr.on (rb:=rb) (S:=S1) Be.qr.lo (a_ w1 (xj m0 m1 m2))));have Yc:rb<w1.heap.size:=Be.qr.rw.ug;have Tq:Hid (¬S1 w1.heap.size):=fun e=>by have:=Be.qv.pv.lt e;omega
   replace y5:=aA (a_ w1 (xj m0 m1 m2)) (Qc.cell y5 vd.out Xd.out);obtain⟨z0,z1,z2,-⟩:=Nf w1 (xj m0 m1 m2) rfl rfl;clear Be Qc ha;go_wp2_with fail;generalize w1.alloc (xj m0 m1 m2)=wy at *;refine(HR.out _ _ Dg.out.qr).mono ?_;rintro e w2 ⟨rfl,hr⟩;obtain⟨G2,Jg,Ld⟩:=Dg.out.ref hr;have Qf:=aa (Jg.on (a_ w2 (xj m0 m1 m2)));have Zf:=aa ((wi.out.trans Ld).trans (Fr.on (rb:=rb) (S:=S1) Jg.qr.lo (a_ w2 (xj m0 m1 m2))));replace z0:=aA (a_ w2 (xj m0 m1 m2)) (Ld.cell z0 Tq.out (by show w1.heap.size≠rb;omega));replace z1:=aA (a_ w2 (xj m0 m1 m2)) (Ld.cell z1 Tq.out (by show w1.heap.size≠rb;omega));replace z2:=aA (a_ w2 (xj m0 m1 m2)) (Ld.cell z2 Tq.out (by show w1.heap.size≠rb;omega));have AX:(m2.toList==m2.toList)=true:=by simp
   clear Jg Ld hr;go_wp2_with (first
    | (go_at_call 8;refine(Ki _).out.mono ?_;rintro e w3 ⟨rfl,rfl⟩))
   go_ret;exact⟨rfl,_,_,_,_,Qf.out,Zf.out⟩
 case false=>
 cases k6:(x.kind.toList==[112,117,116])
 case true=>
  clear Mk
  as_aux_lemma=>
   clear y1 y2 y3 y8;have Ki:=fun W=>aa (eI (cH ba ⟨x.s,x.t,false⟩) _ W (gF _));go_enter func21,ntmps21;go_wp2_with fail;generalize w.alloc (Ze x)=wx at *;have Qg:=HB.out.on (r_ _ wx).drew;have kf:Fr wx wx.drew B rb S S:=.on HB.out.qr.lo (r_ _ wx).drew
   go_region_held3 (fun w'=>w'.cell? ⟨w.heap.size,5,none⟩=some (.string x.s)/\w'.cell? ⟨w.heap.size,6,none⟩=some (.string x.t))
    (first
     | go_keep
     | exact⟨(Bd.out).cell y5 vd.out Xd.out,(Bd.out).cell y6 vd.out Xd.out⟩
     | exact⟨(kf.trans oj).cell y5 vd.out Xd.out,(kf.trans oj).cell y6 vd.out Xd.out⟩
     | exact⟨(kf.trans nj).cell y5 vd.out Xd.out,(kf.trans nj).cell y6 vd.out Xd.out⟩)
    (first
     | (go_at_call 28;refine(KJ x.s x.t _ To.qv (by unfold maxLen;omega)).mono ?_;rintro e w1 ⟨rfl,ha⟩;obtain⟨S1,ph,lh⟩:=To.view ha;have Tc:=aa ph;have Bd:=aa ((kf.trans nj).trans lh);clear ph lh ha)
     | (go_at_call 28;refine(KJ x.s x.t _ Qg.qv (by unfold maxLen;omega)).mono ?_;rintro e w1 ⟨rfl,ha⟩;obtain⟨S1,Uo,oj⟩:=Qg.view ha;clear ha)
     | (go_at_call 62;refine(lO ⟨x.s,x.t,false⟩ _ Uo.qr (by show x.s.size<=1000;omega)).mono ?_;rintro e w2 ⟨rfl,hr⟩;obtain⟨G2,ph,lh⟩:=Uo.ref hr;have Tc:=aa ph;have Bd:=aa ((kf.trans oj).trans lh);clear ph lh hr)
     | (go_at_call 62;refine(lO ⟨x.s,x.t,false⟩ _ Qg.qr (by show x.s.size<=1000;omega)).mono ?_;rintro e w2 ⟨rfl,hr⟩;obtain⟨G2,To,nj⟩:=Qg.ref hr;clear hr)
     | (go_at_call 8;refine(Ki _).out.mono ?_;rintro e w3 ⟨rfl,rfl⟩)
     | fail)
   all_goals
    have Pm:=aa (Ph.out.trans Bd.out);go_wp2;go_ret;exact⟨rfl,_,_,_,_,Tc.out,Pm.out⟩
 case false=>
 cases k7:(x.kind.toList==[100,101,108,101,116,101])
 case true=>
  clear Mk
  as_aux_lemma=>
   clear y1 y2 y3 y6 y8;have Ki:=fun W=>aa (eI (cH ba ⟨x.s,⟨#[]⟩,true⟩) _ W (gF _));go_enter func21,ntmps21;go_wp2_with fail;generalize w.alloc (Ze x)=wx at *;have Qg:=HB.out.on (r_ _ wx).drew;have kf:Fr wx wx.drew B rb S S:=.on HB.out.qr.lo (r_ _ wx).drew
   go_region_held3 (fun w'=>w'.cell? ⟨w.heap.size,5,none⟩=some (.string x.s))
    (first
     | go_keep
     | exact(Bd.out).cell y5 vd.out Xd.out
     | exact(kf.trans oj).cell y5 vd.out Xd.out
     | exact(kf.trans nj).cell y5 vd.out Xd.out)
    (first
     | (go_at_call 63;refine(uA x.s _ To.qv (by unfold maxLen;omega)).mono ?_;rintro e w1 ⟨rfl,ha⟩;obtain⟨S1,ph,lh⟩:=To.view ha;have Tc:=aa ph;have Bd:=aa ((kf.trans nj).trans lh);clear ph lh ha)
     | (go_at_call 63;refine(uA x.s _ Qg.qv (by unfold maxLen;omega)).mono ?_;rintro e w1 ⟨rfl,ha⟩;obtain⟨S1,Uo,oj⟩:=Qg.view ha;clear ha)
     | (go_at_call 62;refine(lO ⟨x.s,⟨#[]⟩,true⟩ _ Uo.qr (by show x.s.size<=1000;omega)).mono ?_;rintro e w2 ⟨rfl,hr⟩;obtain⟨G2,ph,lh⟩:=Uo.ref hr;have Tc:=aa ph;have Bd:=aa ((kf.trans oj).trans lh);clear ph lh hr)
     | (go_at_call 62;refine(lO ⟨x.s,⟨#[]⟩,true⟩ _ Qg.qr (by show x.s.size<=1000;omega)).mono ?_;rintro e w2 ⟨rfl,hr⟩;obtain⟨G2,To,nj⟩:=Qg.ref hr;clear hr)
     | (go_at_call 8;refine(Ki _).out.mono ?_;rintro e w3 ⟨rfl,rfl⟩)
     | fail)
   all_goals
    have Pm:=aa (Ph.out.trans Bd.out);go_wp2;go_ret;exact⟨rfl,_,_,_,_,Tc.out,Pm.out⟩
 case false=>
 cases k8:(x.kind.toList==[103,101,116])
 case true=>
  clear Mk
  as_aux_lemma=>
   clear y1 y2 y3 y6 y8;have HP:=aa (fun (W:World) (hW:QV W B wb S P since ba ga)=>QS x.s W hW (by unfold maxLen;omega));have HR:=aa (fun (G1:Nat->Prop) (W:World) (hW:QR W B rb G1 P since ba ga)=>PT x.s W hW (by omega));have Ki:=fun W=>aa (eI (Rb ba ga P x.s).2.2 _ W (gF _));generalize Rb ba ga P x.s=r at *;go_enter func21,ntmps21;go_wp2_with fail;generalize w.alloc (Ze x)=wx at *;go_wp2_with (first
    | (go_at_call 27;refine(HP.out _ HB.out.qv).mono ?_;rintro e w1 ⟨rfl,ha⟩;obtain⟨S1,Be,Qc⟩:=HB.out.view ha;have Dg:=aa Be;have wi:=aa (Ph.out.trans Qc);replace y5:=Qc.cell y5 vd.out Xd.out;clear Be Qc ha)
    | (go_at_call 64;refine(HR.out _ _ Dg.out.qr).mono ?_;rintro e w2 ⟨rfl,hr⟩;obtain⟨G2,Jg,Ld⟩:=Dg.out.ref hr;have Qf:=aa Jg;have Zf:=aa (wi.out.trans Ld);clear Jg Ld hr)
    | (go_at_call 8;refine(Ki _).out.mono ?_;rintro e w3 ⟨rfl,rfl⟩))
   go_ret;exact⟨rfl,_,_,_,_,Qf.out,Zf.out⟩
 case false=>
 cases k9:(x.kind.toList==[115,99,97,110])
 case true=>
  by_cases hn:0<x.Zh.length
  ·rcases Mk with e|⟨b,off,si,dj⟩
   ·rw[e] at hn;simp at hn
   ·obtain⟨s0,s1⟩:=dj 0 hn;simp only[Nat.zero_mul,Nat.add_zero] at s0 s1;clear dj;generalize x.Zh[0]=sp at s0 s1
    as_aux_lemma=>
     clear y2 y3 y5 y6;have YP:(0:Int)<(x.Zh.length:Int):=by omega
     have s0':=aA (a_ (w.alloc (Ze x)) (Dp ⟨#[]⟩ ⟨#[]⟩)) (aA (a_ w (Ze x)) s0);have s1':=aA (a_ (w.alloc (Ze x)) (Dp ⟨#[]⟩ ⟨#[]⟩)) (aA (a_ w (Ze x)) s1);clear s0 s1;unfold Ze at HB Ph Mb y0 y1 y8 s0' s1';rw[si] at HB Ph Mb y0 y1 y8 s0' s1' ⊢;clear si;go_enter func21,ntmps21;go_wp2_with fail;obtain⟨z0,z1,yq,-⟩:=Fl (w.alloc (LX x.kind x.a x.b x.c x.k x.s x.t x.ca x.ba.length x.cc (some ⟨b,off,none⟩) x.Zh.length x.sc)) (Dp sp.1 sp.2) (n:=w.heap.size+1) (by simp) rfl;have vp:Hid (¬S (w.heap.size+1)):=fun e=>by have:=HB.out.qv.pv.lt e;omega
     have Yj:Hid (w.heap.size+1≠rb):=fun e=>by have:=HB.out.qr.rw.ug;omega
     replace Ph:=aa (Ph.out.trans (Fr.on (rb:=rb) (S:=S) HB.out.qr.lo yq));replace HB:=aa (HB.out.on yq);replace y1:=aA yq y1;clear yq Mb y0 y8;generalize (w.alloc (LX x.kind x.a x.b x.c x.k x.s x.t x.ca x.ba.length x.cc (some ⟨b,off,none⟩) x.Zh.length x.sc)).alloc (Dp sp.1 sp.2)=wx at *;refine(vM sp x.a _ HB.out.qv.pv Hh).mono ?_;rintro e w1 ⟨Ek,cg⟩;have EE:=HB.out.qr.rw.ug;by_cases hf:dL (aF P ba sp) ga sp x.a=0
     ·obtain⟨ao,cap,rfl,_,BD,S9,Al,Na,xd⟩:=Ek hf;obtain⟨Be,Qc⟩:=HB.out.Yo Al HB.out.qv.ok Na;have Sw:=aa Al.ok;have Dg:=aa Be;have wi:=aa (Ph.out.trans Qc);have Mw:=aa BD;have Od:=aa xd;have Yq:=aa hf;have sj:=aa (lH sp x.a _ Be.qr.rw Be.qr.lo Be.qr.rl HB.out.qv.pv.ok Hh);replace z0:=Qc.cell z0 vp.out Yj.out;replace z1:=Qc.cell z1 vp.out Yj.out;replace y1:=Qc.cell y1 vd.out Xd.out;have Dv:Hid (((aF P ba sp).take x.a.toNat).length<=9223372036854775807):=aa (by have h1:=D6 x.a.toNat (aF P ba sp);have h2:=(jN HB.out.qv.pv.ok sp).1;generalize (aF P ba sp).take x.a.toNat=q at h1 ⊢;omega);have HQ:=aa HB.out.qv.ok;clear Ek cg Be Qc Al Na xd BD hf;generalize RB:(aF P ba sp).take x.a.toNat=T at *;have VL:=aa RB;clear RB;go_wp2_with (first
       | (go_at_call 66;refine sj.out.mono ?_;rintro e w2 ⟨tm,_⟩;obtain⟨Nj,pd,rfl,Er,G9,Lh,Ub,_⟩:=tm Yq.out;obtain⟨Jg,Ld⟩:=Dg.out.Tu Lh Sw.out HQ.out Ub;have Qf:=aa Jg;have Zf:=aa (wi.out.trans Ld);rw[VL.out] at Er ⊢;have Vk:=aa Er;have wv:Hid (bY w2 ao T):=dP Mw.out (fun _ k e=>by obtain⟨off,rfl⟩:=e;obtain⟨q1,q2,_⟩:=Od.out k off rfl;exact Ub.Ma k q2 (by omega));clear tm Jg Ld Lh Ub Er)
       | (go_at_call 8;refine(LJ 0 _).mono ?_;rintro e w3 ⟨rfl,rfl⟩)
       | (go_at_call 25;refine(rP T ao Nj cap pd _ wv.out Vk.out Dv.out).mono ?_;rintro e w4 ⟨rfl,Eb⟩;replace Zf:=aa (Zf.out.trans (Fr.on (rb:=rb) Qf.out.qr.lo Eb));replace Qf:=aa (Qf.out.on Eb);clear Eb))
      go_ret;exact⟨rfl,_,_,_,_,Qf.out,Zf.out⟩
     ·obtain⟨rfl,S9,Al,Na⟩:=cg hf;obtain⟨Be,Qc⟩:=HB.out.Yo Al HB.out.qv.ok Na;have Sw:=aa Al.ok;have Dg:=aa Be;have wi:=aa (Ph.out.trans Qc);have Yq:=aa hf;have sj:=aa (lH sp x.a _ Be.qr.rw Be.qr.lo Be.qr.rl HB.out.qv.pv.ok Hh);replace z0:=Qc.cell z0 vp.out Yj.out;replace z1:=Qc.cell z1 vp.out Yj.out;replace y1:=Qc.cell y1 vd.out Xd.out;have Ki:=fun W=>aa (eI (dL (aF P ba sp) ga sp x.a) _ W (gF _));have HQ:=aa HB.out.qv.ok;clear Ek cg Be Qc Al Na hf;go_wp2_with (first
       | (go_at_call 66;refine sj.out.mono ?_;rintro e w2 ⟨_,Uh⟩;obtain⟨rfl,G9,Lh,Ub⟩:=Uh Yq.out;obtain⟨Jg,Ld⟩:=Dg.out.Tu Lh Sw.out HQ.out Ub;have Qf:=aa Jg;have Zf:=aa (wi.out.trans Ld);clear Uh Jg Ld Lh Ub)
       | (go_at_call 8;refine(Ki _).out.mono ?_;rintro e w3 ⟨rfl,rfl⟩)
       | (go_at_call 25;refine(pE _ _ _ _ _).mono ?_;rintro e w4 ⟨rfl,Eb⟩;replace Zf:=aa (Zf.out.trans (Fr.on (rb:=rb) Qf.out.qr.lo Eb));replace Qf:=aa (Qf.out.on Eb);clear Eb))
      go_ret;exact⟨rfl,_,_,_,_,Qf.out,Zf.out⟩
  ·clear Mk
   as_aux_lemma=>
    clear y2 y3 y5 y6;have YP:¬(0:Int)<(x.Zh.length:Int):=by omega
    clear hn;go_enter func21,ntmps21;go_wp2_with fail;obtain⟨z0,z1,yq,-⟩:=Fl (w.alloc (Ze x)) (Dp ⟨#[]⟩ ⟨#[]⟩) (n:=w.heap.size+1) (by simp) rfl;have vp:Hid (¬S (w.heap.size+1)):=fun e=>by have:=HB.out.qv.pv.lt e;omega
    have Yj:Hid (w.heap.size+1≠rb):=fun e=>by have:=HB.out.qr.rw.ug;omega
    replace Ph:=aa (Ph.out.trans (Fr.on (rb:=rb) (S:=S) HB.out.qr.lo yq));replace HB:=aa (HB.out.on yq);replace y1:=aA yq y1;clear yq Mb y0 y8;generalize (w.alloc (Ze x)).alloc (Dp ⟨#[]⟩ ⟨#[]⟩)=wx at *;refine(vM (⟨#[]⟩,⟨#[]⟩) x.a _ HB.out.qv.pv Hh).mono ?_;rintro e w1 ⟨Ek,cg⟩;have EE:=HB.out.qr.rw.ug;by_cases hf:dL (aF P ba (⟨#[]⟩,⟨#[]⟩)) ga (⟨#[]⟩,⟨#[]⟩) x.a=0
    ·obtain⟨ao,cap,rfl,_,BD,S9,Al,Na,xd⟩:=Ek hf;obtain⟨Be,Qc⟩:=HB.out.Yo Al HB.out.qv.ok Na;have Sw:=aa Al.ok;have Dg:=aa Be;have wi:=aa (Ph.out.trans Qc);have Mw:=aa BD;have Od:=aa xd;have Yq:=aa hf;have sj:=aa (lH (⟨#[]⟩,⟨#[]⟩) x.a _ Be.qr.rw Be.qr.lo Be.qr.rl HB.out.qv.pv.ok Hh);replace z0:=Qc.cell z0 vp.out Yj.out;replace z1:=Qc.cell z1 vp.out Yj.out;replace y1:=Qc.cell y1 vd.out Xd.out;have Dv:Hid (((aF P ba (⟨#[]⟩,⟨#[]⟩)).take x.a.toNat).length<=9223372036854775807):=aa (by have h1:=D6 x.a.toNat (aF P ba (⟨#[]⟩,⟨#[]⟩));have h2:=(jN HB.out.qv.pv.ok (⟨#[]⟩,⟨#[]⟩)).1;generalize (aF P ba (⟨#[]⟩,⟨#[]⟩)).take x.a.toNat=q at h1 ⊢;omega);have HQ:=aa HB.out.qv.ok;clear Ek cg Be Qc Al Na xd BD hf;generalize RB:(aF P ba (⟨#[]⟩,⟨#[]⟩)).take x.a.toNat=T at *;have VL:=aa RB;clear RB;go_wp2_with (first
      | (go_at_call 66;refine sj.out.mono ?_;rintro e w2 ⟨tm,_⟩;obtain⟨Nj,pd,rfl,Er,G9,Lh,Ub,_⟩:=tm Yq.out;obtain⟨Jg,Ld⟩:=Dg.out.Tu Lh Sw.out HQ.out Ub;have Qf:=aa Jg;have Zf:=aa (wi.out.trans Ld);rw[VL.out] at Er ⊢;have Vk:=aa Er;have wv:Hid (bY w2 ao T):=dP Mw.out (fun _ k e=>by obtain⟨off,rfl⟩:=e;obtain⟨q1,q2,_⟩:=Od.out k off rfl;exact Ub.Ma k q2 (by omega));clear tm Jg Ld Lh Ub Er)
      | (go_at_call 8;refine(LJ 0 _).mono ?_;rintro e w3 ⟨rfl,rfl⟩)
      | (go_at_call 25;refine(rP T ao Nj cap pd _ wv.out Vk.out Dv.out).mono ?_;rintro e w4 ⟨rfl,Eb⟩;replace Zf:=aa (Zf.out.trans (Fr.on (rb:=rb) Qf.out.qr.lo Eb));replace Qf:=aa (Qf.out.on Eb);clear Eb))
     go_ret;exact⟨rfl,_,_,_,_,Qf.out,Zf.out⟩
    ·obtain⟨rfl,S9,Al,Na⟩:=cg hf;obtain⟨Be,Qc⟩:=HB.out.Yo Al HB.out.qv.ok Na;have Sw:=aa Al.ok;have Dg:=aa Be;have wi:=aa (Ph.out.trans Qc);have Yq:=aa hf;have sj:=aa (lH (⟨#[]⟩,⟨#[]⟩) x.a _ Be.qr.rw Be.qr.lo Be.qr.rl HB.out.qv.pv.ok Hh);replace z0:=Qc.cell z0 vp.out Yj.out;replace z1:=Qc.cell z1 vp.out Yj.out;replace y1:=Qc.cell y1 vd.out Xd.out;have Ki:=fun W=>aa (eI (dL (aF P ba (⟨#[]⟩,⟨#[]⟩)) ga (⟨#[]⟩,⟨#[]⟩) x.a) _ W (gF _));have HQ:=aa HB.out.qv.ok;clear Ek cg Be Qc Al Na hf;go_wp2_with (first
      | (go_at_call 66;refine sj.out.mono ?_;rintro e w2 ⟨_,Uh⟩;obtain⟨rfl,G9,Lh,Ub⟩:=Uh Yq.out;obtain⟨Jg,Ld⟩:=Dg.out.Tu Lh Sw.out HQ.out Ub;have Qf:=aa Jg;have Zf:=aa (wi.out.trans Ld);clear Uh Jg Ld Lh Ub)
      | (go_at_call 8;refine(Ki _).out.mono ?_;rintro e w3 ⟨rfl,rfl⟩)
      | (go_at_call 25;refine(pE _ _ _ _ _).mono ?_;rintro e w4 ⟨rfl,Eb⟩;replace Zf:=aa (Zf.out.trans (Fr.on (rb:=rb) Qf.out.qr.lo Eb));replace Qf:=aa (Qf.out.on Eb);clear Eb))
     go_ret;exact⟨rfl,_,_,_,_,Qf.out,Zf.out⟩
 case false=>
 clear Mk;clear y1 y2 y3 y6 y8;have HP:=aa (zCk x.s _ HB.out.qv (by omega));have HR:=aa (fun (G1:Nat->Prop) (W:World) (hW:QR W B rb G1 P since ba ga)=>zLF x.s W hW (by omega));have Zt:=aa (zGz P ba ga x.s HB.out.qv.pv.ok);generalize cY P ba ga x.s=r at *;obtain⟨f,l,a0T⟩:=r;go_enter func21,ntmps21;go_wp2_with fail;generalize w.alloc (Ze x)=wx at *;by_cases hf:f=0
 ·subst hf;refine HP.out.mono ?_;rintro e w1 ⟨Ek,_⟩;obtain⟨v1,rfl,S1,mc,Qa,Na,Lu⟩:=Ek rfl;obtain⟨Be,Qc⟩:=HB.out.Im Qa Na;have Dg:=aa Be;have wi:=aa (Ph.out.trans Qc);have Pd:=aa mc;have Tq:=aa Lu;replace y5:=Qc.cell y5 vd.out Xd.out;obtain⟨a1,n1,c1,hv⟩:=zGI mc;subst hv;have DE:=Be.qr.rw.ug;have EE:=HB.out.qr.rw.ug;clear Ek Be Qc mc Qa Na Lu HP;go_wp2_with fail;refine(HR.out _ _ Dg.out.qr).mono ?_;rintro e w2 ⟨tm,_⟩;obtain⟨v2,rfl,G2,qc,se,Ub⟩:=tm rfl;obtain⟨Jg,Ld⟩:=Dg.out.Qs se Ub;have Qf:=aa Jg;have Zf:=aa (wi.out.trans Ld);have Cf:Hid (Uf w2 wx.heap.size (.slice a1 n1 c1) l):=zOo Pd.out fun k e=>Ub.Ma k (l_ Pd.out k e).2 (by have:=(l_ Pd.out k e).1;omega);have Kc:=aa qc;obtain⟨a2,n2,c2,hv⟩:=zGI qc;subst hv;clear tm Jg Ld qc se Ub;go_wp2_with (first
   | (go_at_call 69;refine(zNw l _ Cf.out Kc.out (Zt.out)).mono ?_;rintro e w4 ⟨rfl,Eb⟩;replace Zf:=aa (Zf.out.trans (Fr.on (rb:=rb) Qf.out.qr.lo Eb));replace Qf:=aa (Qf.out.on Eb);clear Eb)
   | (go_at_call 8;refine(LJ 0 _).mono ?_;rintro e w3 ⟨rfl,rfl⟩))
  go_ret;exact⟨rfl,_,_,_,_,Qf.out,Zf.out⟩
 ·have Ki:=fun W=>aa (eI f _ W (gF _));refine HP.out.mono ?_;rintro e w1 ⟨_,cg⟩;obtain⟨rfl,ha⟩:=cg hf;obtain⟨S1,Be,Qc⟩:=HB.out.view ha;have Dg:=aa Be;have wi:=aa (Ph.out.trans Qc);replace y5:=Qc.cell y5 vd.out Xd.out;have HNF:=aa hf;clear cg Be Qc ha HP hf;go_wp2_with (first
   | (go_at_call 68;refine(HR.out _ _ Dg.out.qr).mono ?_;rintro e w2 ⟨_,Uh⟩;obtain⟨rfl,hr⟩:=Uh HNF.out;obtain⟨G2,Jg,Ld⟩:=Dg.out.ref hr;have Qf:=aa Jg;have Zf:=aa (wi.out.trans Ld);clear Uh Jg Ld hr)
   | (go_at_call 69;refine(oN _ _ _ _ _).mono ?_;rintro e w4 ⟨rfl,Eb⟩;replace Zf:=aa (Zf.out.trans (Fr.on (rb:=rb) Qf.out.qr.lo Eb));replace Qf:=aa (Qf.out.on Eb);clear Eb)
   | (go_at_call 8;refine(Ki _).out.mono ?_;rintro e w3 ⟨rfl,rfl⟩))
  go_ret;exact⟨rfl,_,_,_,_,Qf.out,Zf.out⟩
end
end Go.Proofs.YtcfjimdfegejaaaGreatDoor
