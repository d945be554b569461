import Derived.Test.YtcfjimdfegejaaaGreatDoorQ13
import Derived.Test.YtcfjimdfegejaaaGreatDoorQ12
set_option maxHeartbeats 8000000
set_option maxRecDepth 100000
namespace Go.Proofs.YtcfjimdfegejaaaGreatDoor
open Bool renaming and_eq_true→E1
open Int renaming natCast_nonneg→P1
open IntKind renaming i64→G0,wrap_i64→YZ
open Lib renaming maxS→T3
open List renaming drop_succ_cons→A4,flatMap_cons→J5,getElem?_eq_getElem→VY,getElem_mem→MZ,length_take→XY
open Nat renaming le_succ→I4,le_trans→BZ,lt_of_lt_of_le→UY,zero_add→TZ,zero_le→OZ
open World renaming frozen?_of_block→CZ,frozen?_setCell→EZ
open Go.Proofs.Tryz
open World renaming cell?_of_block→b_,cell?_setCell_other→t_,cell?_setCell_same→u_,ownsRow.lt→l_
open Go.RowKit.Below renaming heap_setCell→h_,refl→r_
open Nat renaming le_refl→n_
open Go.Proofs.Tryz renaming prog→p_
open Value renaming string→v_,int→i_
open Go.Joins renaming below_alloc1→a_
variable {B2 B wb n f k rb i cap b b0 b1 b2:Nat} {S G G6 S':Nat->Prop} {P ga Wa L l r2:ta} {since:Sn} {ba Sa c2:List ma} {a0 a1 a2 a3 a4 v ev:Value} {name at_ key Ca Mt:BA} {s:BA×BA} {w T w6 W W' w' w1:World} {e:Ending} {m qx tries:Int} {ao:Option Addr}
section
open Go.RowKit Go.Joins Go.Shelf
attribute [local go_sem ↓] Go.wp_at_zero Go.wp_at_succ
theorem zFb {mv:Value} {mk:List ma} (w:World) (h:QV w B wb S P since ba ga) (hm:bO w B2 mv mk) (hn:mk.length<=12) (hk:∀ c∈mk,c.key.size<=60) (hr:Pc mk) (ho:Rl P mk):
  Calls p_ 182 #[.pointer (some ⟨wb,0,none⟩),mv] w fun e w'=>e=.returned (.tuple #[])/\Hb w w' B wb S P since mk ga:=
 (zLZ w h.pv hm hn hk hr).mono fun _ _ ⟨he,ha⟩=>⟨he,h.act ho ha⟩
theorem zET {n:Int} (w:World) (h:QV w B wb S P since ba ga)
  (hc:∀ W,Below w.heap.size w W->Calls p_ 106 #[a0,a1,a2,a3,a4] W fun e w'=>e=.returned (.tuple #[.int .i64 n,pa f])/\Hb W w' B wb S P since Sa Wa):
  Calls p_ 105 #[.pointer (some ⟨wb,0,none⟩),.func (.func 106) #[] #[a0,a1,a2,a3,a4]] w fun e w'=>e=.returned (.tuple #[.int .i64 (if f=0 then n else 0),pa f])/\Hb w w' B wb S P since (if f=0 then Sa else ba) Wa:=by
 have n1:=bM 77;have HQ:=aa h;have HC:=aa hc;have Zz:=aa (zFs w h.pv);clear h hc;by_cases hf:f=0
 ·subst hf;rw[if_pos rfl,if_pos rfl];go_enter func105,ntmps105;go_wp2_with (first
   | (go_at_call 181;refine Zz.out.mono ?_;rintro e w1 ⟨mv,rfl,ho,Ba⟩;obtain⟨VQ,WQ,Xh,_,_⟩:=qP ho;subst Xh;have zb:=aa Ba;clear ho Ba)
   | (go_at_call 106;refine(HC.out _ zb.out).mono ?_;rintro e w2 ⟨rfl,ha⟩;have HA:=aa (HQ.out.pre zb.out ha);clear ha;rw[bX])
   | fail)
  go_ret2;exact⟨rfl,HA.out⟩
 ·rw[if_neg hf,if_neg hf];have HE:=aa (bJ hf);clear hf;go_enter func105,ntmps105;go_wp2_with (first
   | (go_at_call 181;refine Zz.out.mono ?_;rintro e w1 ⟨mv,rfl,ho,Ba⟩;obtain⟨VQ,WQ,Xh,_,_⟩:=qP ho;subst Xh;have zb:=aa Ba;have HO:=aa ho;clear ho Ba)
   | (go_at_call 106;refine(HC.out _ zb.out).mono ?_;rintro e w2 ⟨rfl,ha⟩;obtain⟨S2,se,Ub⟩:=ha;have Kc:=aa (aI HO.out fun k e=>(HQ.out.new Ub (l_ HO.out k e).1 (l_ HO.out k e).2).1);have Cg:=aa se;have yf:=aa Ub;clear se Ub;rw[HE.out])
   | (go_at_call 182;refine(zFb _ Cg.out Kc.out HQ.out.pv.ok.cn HQ.out.pv.ok.ck HQ.out.pv.ok.cr HQ.out.ok).mono ?_;rintro e w3 ⟨rfl,ha⟩;have HA:=aa (HQ.out.pre zb.out (Hb.after yf.out ha));clear ha)
   | fail)
  go_ret2;exact⟨HE.out▸rfl,HA.out⟩
theorem xJ (h:(aN P ba ga name).2.2.2=0):0<=(aN P ba ga name).1/\(aN P ba ga name).1<=999999/\(aN P ba ga name).2.2.1.size<=6/\0<=(aN P ba ga name).2.1/\(aN P ba ga name).2.1<=9:=by
 unfold aN at h ⊢;split at h
 ·split at h
  ·split at h
   ·rename_i h1 h2 h3;rw[if_pos h1,if_pos h2,if_pos h3];rcases vE (Rb ba ga P (Hc name)).1 with⟨n,t,d,e,hq,_⟩|⟨e,_⟩
    ·rw[e];have:=hq.1;have:=hq.2.2.1;exact⟨by dsimp only;omega,by dsimp only;omega,zDD hq,by dsimp only;omega,by dsimp only;omega⟩
    ·rw[e] at h;cases h
   ·cases h
  ·rename_i h2;exact absurd h h2
 ·cases h
theorem zEZ (pb nb qb bb ub:Nat) (name:BA) (x y:Int) (d body:BA) (na:Int) (w:World) (h:QV w B wb S P since ba ga) (hn:name.size<=1000) (hd:d.size<=1000) (jo:0<=x) (dh:x<=999999)
  (c0:w.cell? ⟨pb,0,none⟩=some (.pointer (some ⟨wb,0,none⟩))) (c1:w.cell? ⟨nb,0,none⟩=some (.string name)) (c2:w.cell? ⟨qb,0,none⟩=some (.int .i64 x)) (c3:w.cell? ⟨qb,1,none⟩=some (.int .i64 y)) (c4:w.cell? ⟨qb,2,none⟩=some (.string d)) (c5:w.cell? ⟨bb,0,none⟩=some (.string body)) (c6:w.cell? ⟨ub,0,none⟩=some (.int .i64 na)):
  Calls p_ 106 #[.pointer (some ⟨pb,0,none⟩),.pointer (some ⟨nb,0,none⟩),.pointer (some ⟨qb,0,none⟩),.pointer (some ⟨bb,0,none⟩),.pointer (some ⟨ub,0,none⟩)] w fun e w'=>e=.returned (.tuple #[.int .i64 (Me ba name x y d body na).1,pa (Me ba name x y d body na).2.1])/\Hb w w' B wb S P since (Me ba name x y d body na).2.2 ga:=by
 have HA:=aa (zDU name x y d body na w h hn hd jo dh);clear h;generalize Me ba name x y d body na=r at *;go_enter func106,ntmps106;go_wp2_with (first
  | (go_at_call 107;refine HA.out.mono ?_;rintro e w1 ⟨rfl,ha⟩;have HB:=aa ha;clear ha)
  | fail)
 go_ret2;exact⟨rfl,HB.out⟩
def fN (P:ta) (ba:List ma) (ga:ta) (name body:BA) (na:Int):Int×Nat×List ma×ta:=
 if (aN P ba ga name).2.2.2=0 then
  if fC na=true then
   if (Me ba name (aN P ba ga name).1 (aN P ba ga name).2.1 (aN P ba ga name).2.2.1 body na).2.1=0 then ((Me ba name (aN P ba ga name).1 (aN P ba ga name).2.1 (aN P ba ga name).2.2.1 body na).1,0,(Me ba name (aN P ba ga name).1 (aN P ba ga name).2.1 (aN P ba ga name).2.2.1 body na).2.2,bC ba ga name)
   else (0,(Me ba name (aN P ba ga name).1 (aN P ba ga name).2.1 (aN P ba ga name).2.2.1 body na).2.1,ba,bC ba ga name)
  else (0,1,ba,bC ba ga name)
 else (0,(aN P ba ga name).2.2.2,ba,bC ba ga name)
theorem zIc (name body:BA) (na:Int) (w:World) (h:QV w B wb S P since ba ga) (hn:name.size<=1000):
  Calls p_ 52 #[.pointer (some ⟨wb,0,none⟩),.string name,.string body,.int .i64 na] w fun e w'=>e=.returned (.tuple #[.int .i64 (fN P ba ga name body na).1,pa (fN P ba ga name body na).2.1])/\Hb w w' B wb S P since (fN P ba ga name body na).2.2.1 (fN P ba ga name body na).2.2.2:=by
 have n1:=bM 77;have hmf:∀ (fn:Fn) (first cap:Array Value) (w:World),(Instr.makeFunc fn first cap).run p_ w=.ok (.func fn first cap) w:=fun _ _ _ _=>rfl;have Kf:=aa (fun h=>xJ (P:=P) (ba:=ba) (ga:=ga) (name:=name) h);have Ba:=a_ w (VX (some ⟨wb,0,none⟩));have za:=a_ (w.alloc (VX (some ⟨wb,0,none⟩))) (PX name);have Ra:=a_ ((w.alloc (VX (some ⟨wb,0,none⟩))).alloc (PX name)) (PX body);have Eb:=a_ (((w.alloc (VX (some ⟨wb,0,none⟩))).alloc (PX name)).alloc (PX body)) (BY na);have Ja:=aB (aB (aB Ba (n_ _) za) (n_ _) Ra) (n_ _) Eb;have Mb:((((w.alloc (VX (some ⟨wb,0,none⟩))).alloc (PX name)).alloc (PX body)).alloc (BY na)).heap.size=w.heap.size+4:=by simp
 have c0:((((w.alloc (VX (some ⟨wb,0,none⟩))).alloc (PX name)).alloc (PX body)).alloc (BY na)).cell? ⟨w.heap.size,0,none⟩=some (.pointer (some ⟨wb,0,none⟩)):=aA Eb (aA Ra (aA za (aC w _ _ 0)));have c1:((((w.alloc (VX (some ⟨wb,0,none⟩))).alloc (PX name)).alloc (PX body)).alloc (BY na)).cell? ⟨w.heap.size+1,0,none⟩=some (.string name):=aA Eb (aA Ra (by simp));have z2:((w.alloc (VX (some ⟨wb,0,none⟩))).alloc (PX name)).heap.size=w.heap.size+1+1:=by simp
 have z3:(((w.alloc (VX (some ⟨wb,0,none⟩))).alloc (PX name)).alloc (PX body)).heap.size=w.heap.size+1+1+1:=by simp
 have c5:((((w.alloc (VX (some ⟨wb,0,none⟩))).alloc (PX name)).alloc (PX body)).alloc (BY na)).cell? ⟨w.heap.size+1+1,0,none⟩=some (.string body):=aA Eb (by rw[<-z2];exact aC _ _ _ 0);have c6:((((w.alloc (VX (some ⟨wb,0,none⟩))).alloc (PX name)).alloc (PX body)).alloc (BY na)).cell? ⟨w.heap.size+1+1+1,0,none⟩=some (.int .i64 na):=by rw[<-z3];exact aC _ _ _ 0
 have HF:=aa (kK name _ (h.on Ja) hn);have HQ:=aa h;have Pq:=aa Ja;unfold fN;clear h Ba za Ra Eb Ja z2 z3;generalize aN P ba ga name=q at *;generalize bC ba ga name=Ua at *;obtain⟨qx,qy,qd,er⟩:=q;dsimp only at HF Kf ⊢;by_cases h1:er=0
 ·subst h1;rw[if_pos rfl];obtain⟨jo,dh,MC,_,_⟩:=Kf.out rfl;have Tc:=aa bX;clear Kf
  cases Rj:fC na with
  | false=>
   rw[if_neg (by simp)];have Yk:=aa Rj;clear Rj;go_enter func52,ntmps52;go_wp2_with (first
    | (go_at_call 60;refine HF.out.mono ?_;rintro e w1 ⟨rfl,ha⟩;obtain⟨S1,Qa,Na⟩:=ha;have Wc:=a_ w1 (CX qx qy qd);have Ep:=(b_ (HQ.out.new Na (k:=w.heap.size) (by omega) (by rw[Mb];omega)).1).trans c0;replace Ep:=aA Wc Ep;have En:=(b_ (HQ.out.new Na (k:=w.heap.size+1) (by omega) (by rw[Mb];omega)).1).trans c1;replace En:=aA Wc En;have Fp:=(b_ (HQ.out.new Na (k:=w.heap.size+1+1) (by omega) (by rw[Mb];omega)).1).trans c5;replace Fp:=aA Wc Fp;have Gp:=(b_ (HQ.out.new Na (k:=w.heap.size+1+1+1) (by omega) (by rw[Mb];omega)).1).trans c6;replace Gp:=aA Wc Gp;have Kb:=aa (Qa.on Wc);have tc:=aa ((aG.on HQ.out.pv.lo Pq.out).trans (Na.trans (.on Qa.pv.lo Wc)));have Gl:Hid (Hb w (w1.alloc (CX qx qy qd)) B wb S P since ba Ua):=⟨S1,Kb.out,tc.out⟩;clear Qa Na Wc;rw[Tc.out])
    | (go_at_call 104;refine(fI na _).mono ?_;rintro e w2 ⟨rfl,rfl⟩;rw[Yk.out])
    | fail)
   go_ret2;exact⟨rfl,Gl.out⟩
  | true=>
   rw[if_pos rfl];have Yk:=aa Rj;clear Rj;have HW:=aa (fun (W W0:World) (S1:Nat->Prop) (hQ:QV W0 B wb S1 P since ba Ua) (hb:Below W0.heap.size W0 W) (qb:Nat) (e0:W0.cell? ⟨w.heap.size,0,none⟩=some (.pointer (some ⟨wb,0,none⟩))) (e1:W0.cell? ⟨w.heap.size+1,0,none⟩=some (.string name)) (e2:W0.cell? ⟨qb,0,none⟩=some (.int .i64 qx)) (e3:W0.cell? ⟨qb,1,none⟩=some (.int .i64 qy)) (e4:W0.cell? ⟨qb,2,none⟩=some (.string qd)) (e5:W0.cell? ⟨w.heap.size+1+1,0,none⟩=some (.string body)) (e6:W0.cell? ⟨w.heap.size+1+1+1,0,none⟩=some (.int .i64 na))=>zEZ w.heap.size (w.heap.size+1) qb (w.heap.size+1+1) (w.heap.size+1+1+1) name qx qy qd body na W (hQ.on hb) hn (by omega) jo dh (aA hb e0) (aA hb e1) (aA hb e2) (aA hb e3) (aA hb e4) (aA hb e5) (aA hb e6));generalize Me ba name qx qy qd body na=r at *;have iu:=aa (fun (W0:World) (S1:Nat->Prop) (hQ:QV W0 B wb S1 P since ba Ua) (qb:Nat) (e0:W0.cell? ⟨w.heap.size,0,none⟩=some (.pointer (some ⟨wb,0,none⟩))) (e1:W0.cell? ⟨w.heap.size+1,0,none⟩=some (.string name)) (e2:W0.cell? ⟨qb,0,none⟩=some (.int .i64 qx)) (e3:W0.cell? ⟨qb,1,none⟩=some (.int .i64 qy)) (e4:W0.cell? ⟨qb,2,none⟩=some (.string qd)) (e5:W0.cell? ⟨w.heap.size+1+1,0,none⟩=some (.string body)) (e6:W0.cell? ⟨w.heap.size+1+1+1,0,none⟩=some (.int .i64 na))=>zET W0 hQ (fun W hb=>HW.out W W0 S1 hQ hb qb e0 e1 e2 e3 e4 e5 e6));clear HW;by_cases hz:r.2.1=0
   ·rw[if_pos hz];simp only[if_pos hz] at iu;have HZ:=aa hz;clear hz;go_enter func52,ntmps52;go_wp2_with (first
     | (go_at_call 60;refine HF.out.mono ?_;rintro e w1 ⟨rfl,ha⟩;obtain⟨S1,Qa,Na⟩:=ha;have Wc:=a_ w1 (CX qx qy qd);have Ep:=(b_ (HQ.out.new Na (k:=w.heap.size) (by omega) (by rw[Mb];omega)).1).trans c0;replace Ep:=aA Wc Ep;have En:=(b_ (HQ.out.new Na (k:=w.heap.size+1) (by omega) (by rw[Mb];omega)).1).trans c1;replace En:=aA Wc En;have Fp:=(b_ (HQ.out.new Na (k:=w.heap.size+1+1) (by omega) (by rw[Mb];omega)).1).trans c5;replace Fp:=aA Wc Fp;have Gp:=(b_ (HQ.out.new Na (k:=w.heap.size+1+1+1) (by omega) (by rw[Mb];omega)).1).trans c6;replace Gp:=aA Wc Gp;have Kb:=aa (Qa.on Wc);have tc:=aa ((aG.on HQ.out.pv.lo Pq.out).trans (Na.trans (.on Qa.pv.lo Wc)));have Gl:Hid (Hb w (w1.alloc (CX qx qy qd)) B wb S P since ba Ua):=⟨S1,Kb.out,tc.out⟩;clear Qa Na Wc;rw[Tc.out])
     | (go_at_call 104;refine(fI na _).mono ?_;rintro e w2 ⟨rfl,rfl⟩;rw[Yk.out])
     | (go_at_call 105;refine(iu.out _ S1 Kb.out w1.heap.size Ep En (aC w1 _ _ 0) (aC w1 _ _ 1) (aC w1 _ _ 2) Fp Gp).mono ?_;rintro e w3 ⟨rfl,ha⟩;have qo:=aa (Hb.after tc.out ha);clear ha)
     | fail)
    go_ret2;exact⟨by rw[HZ.out];rfl,qo.out⟩
   ·rw[if_neg hz];simp only[if_neg hz] at iu;clear hz;go_enter func52,ntmps52;go_wp2_with (first
     | (go_at_call 60;refine HF.out.mono ?_;rintro e w1 ⟨rfl,ha⟩;obtain⟨S1,Qa,Na⟩:=ha;have Wc:=a_ w1 (CX qx qy qd);have Ep:=(b_ (HQ.out.new Na (k:=w.heap.size) (by omega) (by rw[Mb];omega)).1).trans c0;replace Ep:=aA Wc Ep;have En:=(b_ (HQ.out.new Na (k:=w.heap.size+1) (by omega) (by rw[Mb];omega)).1).trans c1;replace En:=aA Wc En;have Fp:=(b_ (HQ.out.new Na (k:=w.heap.size+1+1) (by omega) (by rw[Mb];omega)).1).trans c5;replace Fp:=aA Wc Fp;have Gp:=(b_ (HQ.out.new Na (k:=w.heap.size+1+1+1) (by omega) (by rw[Mb];omega)).1).trans c6;replace Gp:=aA Wc Gp;have Kb:=aa (Qa.on Wc);have tc:=aa ((aG.on HQ.out.pv.lo Pq.out).trans (Na.trans (.on Qa.pv.lo Wc)));have Gl:Hid (Hb w (w1.alloc (CX qx qy qd)) B wb S P since ba Ua):=⟨S1,Kb.out,tc.out⟩;clear Qa Na Wc;rw[Tc.out])
     | (go_at_call 104;refine(fI na _).mono ?_;rintro e w2 ⟨rfl,rfl⟩;rw[Yk.out])
     | (go_at_call 105;refine(iu.out _ S1 Kb.out w1.heap.size Ep En (aC w1 _ _ 0) (aC w1 _ _ 1) (aC w1 _ _ 2) Fp Gp).mono ?_;rintro e w3 ⟨rfl,ha⟩;have qo:=aa (Hb.after tc.out ha);clear ha)
     | fail)
    go_ret2;exact⟨rfl,qo.out⟩
 ·rw[if_neg h1];have Tc:=aa (bJ h1);clear h1 Kf;go_enter func52,ntmps52;go_wp2_with (first
   | (go_at_call 60;refine HF.out.mono ?_;rintro e w1 ⟨rfl,ha⟩;obtain⟨S1,Qa,Na⟩:=ha;have Wc:=a_ w1 (CX qx qy qd);have Ep:=(b_ (HQ.out.new Na (k:=w.heap.size) (by omega) (by rw[Mb];omega)).1).trans c0;replace Ep:=aA Wc Ep;have En:=(b_ (HQ.out.new Na (k:=w.heap.size+1) (by omega) (by rw[Mb];omega)).1).trans c1;replace En:=aA Wc En;have Fp:=(b_ (HQ.out.new Na (k:=w.heap.size+1+1) (by omega) (by rw[Mb];omega)).1).trans c5;replace Fp:=aA Wc Fp;have Gp:=(b_ (HQ.out.new Na (k:=w.heap.size+1+1+1) (by omega) (by rw[Mb];omega)).1).trans c6;replace Gp:=aA Wc Gp;have Kb:=aa (Qa.on Wc);have tc:=aa ((aG.on HQ.out.pv.lo Pq.out).trans (Na.trans (.on Qa.pv.lo Wc)));have Gl:Hid (Hb w (w1.alloc (CX qx qy qd)) B wb S P since ba Ua):=⟨S1,Kb.out,tc.out⟩;clear Qa Na Wc;rw[Tc.out])
   | fail)
  go_ret2;exact⟨Tc.out▸rfl,Gl.out⟩
end
section
open Go.RowKit Go.Joins
def gd (k:BA):Int:=(Lib.atoi (k.data.toList.drop (k.size-6))).getD 0
theorem SJ (q:BA) (hn:n<=999999):gd (Ta q n)=n:=by
 have ql:q.data.toList.length=q.size:=by rw[Array.length_toList];rfl
 unfold gd;rw[pS,mN,show q.size+9-6=q.size+3 by omega,<-ql];have d:(109::47::(q.data.toList++47::Ge n)).drop (q.data.toList.length+3)=Ge n:=by
  rw[A4,A4,List.drop_append];simp
 rw[d,zDN n hn];rfl
def kT (L ga:ta) (s:BA×BA):Nat:=if cZ ga (Ud L s 1)=0 then (match L with|[]=>12|_::_=>0) else cZ ga (Ud L s 1)
def eE (L ga:ta) (s:BA×BA):BA×BA:=if cZ ga (Ud L s 1)=0 then (match L with|[]=>(⟨#[]⟩,⟨#[]⟩)|r::_=>r) else (⟨#[]⟩,⟨#[]⟩)
def rR (L ga:ta) (s:BA×BA):ta:=gX ga (Ud L s 1)
theorem zKK (h:kT L ga s=0):eE L ga s∈L:=by
 unfold kT at h;unfold eE;split at h
 ·rename_i h0;rw[if_pos h0]
  cases L with
  | nil=>cases h
  | cons r L=>exact List.mem_cons_self ..
 ·rename_i h0;exact absurd h h0
def iH (P:ta) (ba:List ma) (ga:ta) (key Ca body:BA):Nat×List ma×ta:=
 if cH ba ⟨key,⟨#[]⟩,true⟩=0 then
  if Gf Ca=true then (0,bG ba ⟨key,⟨#[]⟩,true⟩,ga)
  else if (aN P (bG ba ⟨key,⟨#[]⟩,true⟩) ga Ca).2.2.2=0 then
   ((Me (bG ba ⟨key,⟨#[]⟩,true⟩) Ca (aN P (bG ba ⟨key,⟨#[]⟩,true⟩) ga Ca).1 (aN P (bG ba ⟨key,⟨#[]⟩,true⟩) ga Ca).2.1 (aN P (bG ba ⟨key,⟨#[]⟩,true⟩) ga Ca).2.2.1 body 0).2.1,
   (Me (bG ba ⟨key,⟨#[]⟩,true⟩) Ca (aN P (bG ba ⟨key,⟨#[]⟩,true⟩) ga Ca).1 (aN P (bG ba ⟨key,⟨#[]⟩,true⟩) ga Ca).2.1 (aN P (bG ba ⟨key,⟨#[]⟩,true⟩) ga Ca).2.2.1 body 0).2.2,
   bC (bG ba ⟨key,⟨#[]⟩,true⟩) ga Ca)
  else ((aN P (bG ba ⟨key,⟨#[]⟩,true⟩) ga Ca).2.2.2,bG ba ⟨key,⟨#[]⟩,true⟩,bC (bG ba ⟨key,⟨#[]⟩,true⟩) ga Ca)
 else (cH ba ⟨key,⟨#[]⟩,true⟩,bG ba ⟨key,⟨#[]⟩,true⟩,ga)
def eO (P:ta) (name:BA) (tries:Int) (Ca:BA) (now na:Int):Nat->List ma->ta->BA->Xg×List ma×ta
 | 0,ba,ga,_=>(Xe 0,ba,ga)
 | k+1,ba,ga,at_=>
  let L:=aF P ba (at_,Jb name)
  let Ua:=rR L ga (at_,Jb name)
  if kT L ga (at_,Jb name)=0 then
   let r:=eE L ga (at_,Jb name)
   let m:=ud r.2 (gd r.1)
   if m.2.2.2.2=0 then
    if now<m.2.2.1 then eO P name tries Ca now na k ba Ua (cX r.1)
    else if m.2.1<tries then ((m.1,m.2.1+1,na,m.2.2.2.1,mK ba name m.1 (m.2.1+1) na m.2.2.2.1),nA ba name m.1 (m.2.1+1) na m.2.2.2.1,Ua)
    else if (iH P ba Ua r.1 Ca m.2.2.2.1).1=0 then eO P name tries Ca now na k (iH P ba Ua r.1 Ca m.2.2.2.1).2.1 (iH P ba Ua r.1 Ca m.2.2.2.1).2.2 (cX r.1)
    else (Xe (iH P ba Ua r.1 Ca m.2.2.2.1).1,(iH P ba Ua r.1 Ca m.2.2.2.1).2.1,(iH P ba Ua r.1 Ca m.2.2.2.1).2.2)
   else (Xe m.2.2.2.2,ba,Ua)
  else (Xe (kT L ga (at_,Jb name)),ba,Ua)
def Mq (name:BA) (k:Nat) (at_:BA):Prop:=(at_=aZ name/\1000001<=k)∨∃ n,n<=999999/\at_=cX (Ta name n)/\1000000-n<=k
theorem NR {f t k:BA} (h:Fb f t k=true):ng f k=true:=by unfold Fb at h;rw[E1] at h;exact h.1
theorem zDy (a b:BA):ng (cX a) b=jb a b:=by rw[mA,zLn,mA,Bool.not_not]
theorem Mq.pos (h:Mq name k at_):0<k:=by
 rcases h with⟨_,h⟩|⟨n,hn,_,h⟩<;>omega
theorem zKO (hq:bK name.data.toList=true) (n:Nat):Fb (aZ name) (Jb name) (Ta name n)=true:=by rw[zKW hq hq,xB]
theorem zID {a b c:BA} (h:ng a b=true) (k:ng b c=true):ng a c=true:=by
 rw[jM] at *;rcases h with h|rfl
 ·rcases k with k|rfl
  ·exact .inl (cL h k)
  ·exact .inl h
 ·exact k
theorem Mq.span (h:Mq name k at_) (hq:bK name.data.toList=true) (hs:Fb at_ (Jb name) key=true):Fb (aZ name) (Jb name) key=true:=by
 rcases h with⟨rfl,_⟩|⟨n,hn,rfl,_⟩
 ·exact hs
 ·have h1:=NR hs;rw[zDy] at h1;have h2:=NR (zKO hq n);unfold Fb at hs ⊢;rw[E1] at hs ⊢;exact⟨zID h2 ((jM _ _).2 (.inl h1)),hs.2⟩
theorem Mq.next (h:Mq name (k+1) at_) (hq:bK name.data.toList=true) (hk:Fc key.data.toList=true) (hs:Fb at_ (Jb name) key=true):∃ n,n<=999999/\key=Ta name n/\Mq name k (cX key):=by
 obtain⟨n,hn,rfl⟩:=IT hq hk (h.span hq hs);refine⟨n,hn,rfl,.inr ⟨n,hn,rfl,?_⟩⟩;rcases h with⟨_,h⟩|⟨m,hm,rfl,h⟩
 ·omega
 ·have h1:=NR hs;rw[zDy,zM1 name hm hn,decide_eq_true_eq] at h1;omega
def dK (P:ta) (ba:List ma) (ga:ta) (name:BA) (now long:Int):Xg×List ma×ta:=
 if (aN P ba ga name).2.2.2=0 then
  if fC now=true/\fC long=true then
   if (eO P name (aN P ba ga name).2.1 (aN P ba ga name).2.2.1 now (now+long) 1000001 ba (bC ba ga name) (aZ name)).1.2.2.2.2=0 then eO P name (aN P ba ga name).2.1 (aN P ba ga name).2.2.1 now (now+long) 1000001 ba (bC ba ga name) (aZ name)
   else (Xe (eO P name (aN P ba ga name).2.1 (aN P ba ga name).2.2.1 now (now+long) 1000001 ba (bC ba ga name) (aZ name)).1.2.2.2.2,ba,(eO P name (aN P ba ga name).2.1 (aN P ba ga name).2.2.1 now (now+long) 1000001 ba (bC ba ga name) (aZ name)).2.2)
  else (Xe 1,ba,bC ba ga name)
 else (Xe (aN P ba ga name).2.2.2,ba,bC ba ga name)
def eN:ta->Nat
 | []=>0
 | r::l=>if (ud r.2 (gd r.1)).2.2.2.2=0 then eN l else (ud r.2 (gd r.1)).2.2.2.2
def jQ (l:ta):List Xg:=l.map fun r=>ud r.2 (gd r.1)
def cY (P:ta) (ba:List ma) (ga:ta) (name:BA):Nat×List Xg×ta:=
 if (aN P ba ga name).2.2.2=0 then
  if dL (aF P ba (aZ name,Jb name)) (bC ba ga name) (aZ name,Jb name) 53=0 then
   if eN ((aF P ba (aZ name,Jb name)).take 53)=0 then (0,jQ ((aF P ba (aZ name,Jb name)).take 53),eP (aF P ba (aZ name,Jb name)) (bC ba ga name) (aZ name,Jb name) 53)
   else (eN ((aF P ba (aZ name,Jb name)).take 53),[],eP (aF P ba (aZ name,Jb name)) (bC ba ga name) (aZ name,Jb name) 53)
  else (dL (aF P ba (aZ name,Jb name)) (bC ba ga name) (aZ name,Jb name) 53,[],eP (aF P ba (aZ name,Jb name)) (bC ba ga name) (aZ name,Jb name) 53)
 else ((aN P ba ga name).2.2.2,[],bC ba ga name)
end
section
open Go.RowKit Go.Joins Go.Shelf Go.WideShapes
attribute [local go_sem ↓] Go.wp_at_zero Go.wp_at_succ
theorem zOx (l:List ma) (ao:Option Addr) (cap:Nat) (c:ma) (w:World) (hl:bW w ao l) (hr:Pc l) (hn:l.length<=1000):
  Calls p_ 125 #[.slice ao l.length cap,.agg #[.string c.key,.string c.val,.bool c.gone]] w fun e w'=>∃ v,e=.returned v/\bO w' w.heap.size v (Db l c)/\Below w.heap.size w w':=by
 rcases hl with rfl|⟨b,off,rfl,h⟩
 ·exact zOw ao cap c w
 ·refine(zO2 l b off cap c w h hn).mono ?_;rintro e w' ⟨v,rfl,ho,hb⟩;rw[zOV c l [] hr,List.nil_append] at ho;exact⟨v,rfl,ho,hb⟩
theorem zOA (c:ma) (w:World) (h:RW w rb G P since ba ga) (hB:B<=w.heap.size) (lg:B<=rb) (hn:ba.length<=12) (hr:Pc ba) (hk:c.key.size<=1000):
  Calls p_ 62 #[.pointer (some ⟨rb,0,none⟩),.agg #[.string c.key,.string c.val,.bool c.gone]] w fun e w'=>e=.returned (.int .i64 (cH ba c:Nat))/\Tj w w' B rb G P since (bG ba c) ga:=by
 have HW:=aa h;obtain⟨ra,rc,ca,cc,sa,sc,h1,rfl,h2,h3,h4⟩:=h;have HX:=aa h1;have H2:=aa h2;have H4:=aa h4;obtain⟨a0,a1,a2,Nc,-⟩:=Nf w (FX c.key c.val c.gone) rfl rfl;have c2:=aA Nc h1.c2;have iw:=h1.lt (k:=rb) (.inl rfl);have ie:=aa Nc;have LV:=fun W (hb:Below w.heap.size w W)=>aa (zOx ba ca cc c W (eA hb h1.hC) hr (by omega));clear h1 h2 h3 h4 Nc;by_cases hf:aD c=0
 ·have HF:=aa hf;have hlen:=yP ba c;have gl:cH ba c=if 12<(Db ba c).length then 2 else 0:=if_pos hf;clear hf;by_cases sr:12<(Db ba c).length
  ·have Jn:(12:Int)<((Db ba c).length:Int):=by omega
   rw[if_pos sr] at gl;have Iz:=aa gl;have Oq:Hid (bG ba c=ba):=by unfold Hid bG;rw[gl];rfl
   clear gl;go_enter func62,ntmps62;go_wp2_with (first
    | (go_at_call 92;refine(vK c _ hk).mono ?_;rintro e w1 ⟨rfl,Ba⟩;rw[HF.out];have zb:=aa (aB ie.out (n_ _) Ba);replace ⟨a0,a1,a2,c2⟩:=Ij Ba a0 a1 a2 c2;clear Ba))
   go_region_held3 (fun w'=>w'.cell? ⟨w.heap.size,0,none⟩=some (.string c.key)/\w'.cell? ⟨w.heap.size,1,none⟩=some (.string c.val)/\w'.cell? ⟨w.heap.size,2,none⟩=some (.bool c.gone)/\w'.cell? ⟨rb,2,none⟩=some (.slice ca ba.length cc))
    (first|go_keep|exact⟨aA za a0,aA za a1,aA za a2,aA za c2⟩) (first|(go_at_call 125;refine(LV _ zb.out.drew).out.mono ?_;rintro e w2 ⟨v,rfl,ho,Vc⟩;have za:=aB (r_ _ w1).drew (n_ _) Vc;clear Vc;dsimp only)|fail)
   all_goals
    obtain⟨va,vc,hv,_,_⟩:=qP ho;subst hv;have Cb:=aa (aB zb.out (n_ _) za);clear ho za;go_wp2;go_ret;exact⟨by rw[Iz.out];rfl,by rw[Oq.out];exact lU HW.out hB Cb.out⟩
  ·have Jn:¬(12:Int)<((Db ba c).length:Int):=by omega
   rw[if_neg sr] at gl;have Iz:=aa gl;have Oq:Hid (bG ba c=Db ba c):=by unfold Hid bG;rw[gl];rfl
   clear gl;go_enter func62,ntmps62;go_wp2_with (first
    | (go_at_call 92;refine(vK c _ hk).mono ?_;rintro e w1 ⟨rfl,Ba⟩;rw[HF.out];have zb:=aa (aB ie.out (n_ _) Ba);replace ⟨a0,a1,a2,c2⟩:=Ij Ba a0 a1 a2 c2;clear Ba))
   go_region_held3 (fun w'=>w'.cell? ⟨w.heap.size,0,none⟩=some (.string c.key)/\w'.cell? ⟨w.heap.size,1,none⟩=some (.string c.val)/\w'.cell? ⟨w.heap.size,2,none⟩=some (.bool c.gone)/\w'.cell? ⟨rb,2,none⟩=some (.slice ca ba.length cc))
    (first|go_keep|exact⟨aA za a0,aA za a1,aA za a2,aA za c2⟩) (first|(go_at_call 125;refine(LV _ zb.out.drew).out.mono ?_;rintro e w2 ⟨v,rfl,ho,Vc⟩;have za:=aB (r_ _ w1).drew (n_ _) Vc;clear Vc;dsimp only)|fail)
   all_goals
    obtain⟨va,vc,hv,hh,Bh⟩:=qP ho;subst hv;have Cb:=aa (aB zb.out (n_ _) za);have Na:=zb.out.size;have HA:=aa (zOD HX.out H2.out H4.out hB lg Cb.out (JH:=vc) hh (fun k e _=>by have:=Bh k e;simp at this;omega));have k2:=aA za c2;have f2:=aE Cb.out iw (HX.out.soft 2);clear ho za hh Bh;go_wp2;go_ret;exact⟨by rw[Iz.out];rfl,by rw[Oq.out];exact HA.out⟩
 ·have gl:cH ba c=aD c:=if_neg hf;have Iz:=aa gl;have Oq:Hid (bG ba c=ba):=by unfold Hid bG;rw[gl,if_neg hf]
  have Qc:(0:Int)<(aD c:Int):=by omega
  have vv:=fun W=>aa (vK c W hk);clear gl hf;generalize aD c=f at *;go_enter func62,ntmps62;go_wp2_with (first
   | (go_at_call 92;refine(vv _).out.mono ?_;rintro e w1 ⟨rfl,Ba⟩;have zb:=aa (aB ie.out (n_ _) Ba);clear Ba))
  go_ret;exact⟨by rw[Iz.out];rfl,by rw[Oq.out];exact lU HW.out hB zb.out⟩
theorem zOK {l:List ma} (h:Pc l) (hi:i<l.length) {key:ByteArray} (he:bc l[i].key key=true):qB l key=some l[i]:=by
 obtain⟨h1,h2⟩:=zOh h i hi key ((eV _ _).1 he);unfold qB;rw[h2,if_pos rfl,h1,VY hi]
theorem zOL {l:List ma} {key:ByteArray} (h:∀ i (hi:i<l.length),bc l[i].key key=false):qB l key=none:=by
 unfold qB;rw[zOi h];rfl
theorem zOz (key:ByteArray) (w:World) (h:RW w rb G P since ba ga) (hB:B<=w.heap.size) (lg:B<=rb) (hn:ba.length<=12) (hr:Pc ba) (uz:ga.length<=40) (Mo:P.length<=1000) (hk:key.size<=1000):
  Calls p_ 64 #[.pointer (some ⟨rb,0,none⟩),.string key] w fun e w'=>e=.returned (.tuple #[.string (Rb ba ga P key).1,.bool (Rb ba ga P key).2.1,.int .i64 ((Rb ba ga P key).2.2:Nat)])/\Tj w w' B rb G P since ba (Oe ba ga key):=by
 have HW:=aa h;obtain⟨ra,rc,ca,cc,sa,sc,h1,hG,h2,h3,h4⟩:=h;have HX:=aa h1;have zi:=aa hr;clear h1 h2 h3 h4 hG hr;have zb:=aa (r_ w.heap.size w)
 cases Ej:Fc key.data.toList with
 | false=>
  have XK:Hid (dH key.data.toList=3):=by unfold Hid dH;rw[Ej];rfl
  have HP:Hid (Rb ba ga P key=(⟨#[]⟩,false,3)):=by unfold Hid Rb;rw[Ej];rfl
  have HL:Hid (Oe ba ga key=ga):=by unfold Hid Oe;rw[Ej];rfl
  go_enter func64,ntmps64;go_wp2_with (first
   | (go_at_call 126;refine(xE key _ hk).mono ?_;rintro e w1 ⟨rfl,rfl⟩;rw[XK.out]))
  go_ret3;exact⟨by rw[HP.out];rfl,by rw[HL.out];exact lU HW.out hB zb.out⟩
 | true=>
  have XK:Hid (dH key.data.toList=0):=by unfold Hid dH;rw[Ej];rfl
  go_enter func64,ntmps64;go_wp2_with (first
   | (go_at_call 126;refine(xE key _ hk).mono ?_;rintro e w1 ⟨rfl,rfl⟩;rw[XK.out]))
  have HW1:=aa (HW.out.on zb.out);have kg:=aa (HX.out.kept fun k hk=>zb.out.block k (HX.out.lt hk))
  go_loopw [8] (fun i wr=>∃ k:Nat,k<=ba.length/\i=.int .i64 k/\(∀ i (hi:i<ba.length),i<k->bc ba[i].key key=false)/\wr=w1) (fun i _=>ba.length-(intOf i).toNat)
  case atStart=>exact⟨0,OZ _,rfl,fun i _ h=>absurd h (Nat.not_lt_zero _),rfl⟩
  case round=>
   obtain⟨k,hk,rfl,xe,rfl⟩:=hrel;have Rg:=aa xe;have c2:=kg.out.c2;have c0:=kg.out.c0;clear xe;by_cases Ju:k<ba.length
   ·have fy:(k:Int)<(ba.length:Int):=by omega
    have Ih:(0:Int)<=(k:Int):=P1 _;rcases kg.out.hC with e|⟨b,off,KM,Bf⟩
    ·rw[e] at Ju;simp at Ju
    subst KM;obtain⟨d0,d1,d2⟩:=Bf k Ju;clear Bf
    cases hq:(ba[k].key.toList==key.toList) with
    | true=>
     have vv:=aa (zOK zi.out Ju (show bc ba[k].key key=true from hq));have HP:Hid (Rb ba ga P key=(ba[k].val,!ba[k].gone,0)):=by unfold Hid Rb;rw[Ej,vv.out];rfl
     have HL:Hid (Oe ba ga key=ga):=by unfold Hid Oe;rw[Ej,vv.out];rfl
     go_wp2;go_quiet (fail);go_wp2;go_ret3;exact⟨by rw[HP.out];rfl,by rw[HL.out];exact lU HW.out hB (zb.out.trans (below_draws _ _ _))⟩
    | false=>
     have zv:Hid (∀ i (hi:i<ba.length),i<k+1->bc ba[i].key key=false):=fun i hi ED=>by
      rcases Nat.eq_or_lt_of_le (Nat.le_of_lt_succ ED) with e|e
      ·subst e;exact hq
      ·exact Rg.out i hi e
     go_wp2;exact⟨⟨k+1,by omega,by go_num,zv.out,by trivial⟩,by simp[intOf];omega⟩
   ·have ek:k=ba.length:=by omega
    subst ek;have fy:¬(ba.length:Int)<(ba.length:Int):=by omega
    have vv:Hid (qB ba key=none):=zOL fun i hi=>Rg.out i hi hi;have HL:Hid (Oe ba ga key=gX ga (key,cX key)):=by unfold Hid Oe;rw[Ej,vv.out];rfl
    have Na:=zb.out.size;have sj:=aa (SS (key,cX key) _ HW1.out (BZ hB Na) lg uz);by_cases nf:cZ ga (key,cX key)=0
    ·have HP:Hid (Rb ba ga P key=((Ib P key).1,(Ib P key).2,0)):=by unfold Hid Rb;rw[Ej,vv.out];simp only[if_pos nf];rfl
     rw[nf] at sj;go_wp2_with (first
      | (go_at_call 127;refine sj.out.mono ?_;rintro e w2 ⟨rfl,G2,Lh,Ub⟩;have Ll:=aa Lh;have yf:=aa Ub;obtain⟨ra2,rc2,EM,QW,sa2,sc2,Qe,_⟩:=Lh;replace c0:=Qe.c0;have Zj:=aa Qe.hP;clear Ub Qe)
      | (go_at_call 128;refine(zN6 P ra2 rc2 key _ Zj.out (by omega)).mono ?_;rintro e w3 ⟨rfl,Ra⟩;have Zc:=aa Ra;clear Ra))
     go_ret3;refine⟨by rw[HP.out];rfl,?_⟩;rw[HL.out];exact⟨G2,Ll.out.on Zc.out,(dV.on hB zb.out).trans (yf.out.trans (.on (BZ hB (BZ Na yf.out.Ia.size)) Zc.out))⟩
    ·have HP:Hid (Rb ba ga P key=(⟨#[]⟩,false,cZ ga (key,cX key))):=by unfold Hid Rb;rw[Ej,vv.out];simp only[if_neg nf];rfl
     have FE:(0:Int)<(cZ ga (key,cX key):Int):=by omega
     generalize cZ ga (key,cX key)=f at *;go_wp2_with (first
      | (go_at_call 127;refine sj.out.mono ?_;rintro e w2 ⟨rfl,G2,Lh,Ub⟩;have Ll:=aa Lh;have yf:=aa Ub;clear Ub Lh))
     go_ret3;refine⟨by rw[HP.out];rfl,?_⟩;rw[HL.out];exact⟨G2,Ll.out,(dV.on hB zb.out).trans yf.out⟩
theorem zO6 (h:bV P) (ba:List ma) (s:BA×BA):Kg (iB P ba) s=aF P ba s:=(AT ba h s).symm
def Ly (w w':World) (e:Ending) (B rb:Nat) (G:Nat->Prop) (P:ta) (since:Sn) (ba:List ma) (ga:ta) (s:BA×BA) (m:Int) (L:ta):Prop:=
 (dL L ga s m=0->∃ ao cap,e=.returned (.tuple #[.slice ao (L.take m.toNat).length cap,.int .i64 0])/\bY w' ao (L.take m.toNat)/\∃ G',RW w' rb G' P since ba (eP L ga s m)/\dV w w' B rb G G'/\∀ k,yh ao k->L.take m.toNat≠[]->w.heap.size<=k)/\
 (dL L ga s m≠0->e=.returned (.tuple #[.slice none 0 0,.int .i64 (dL L ga s m:Nat)])/\Tj w w' B rb G P since ba (eP L ga s m))
theorem zKJ (hm:¬m<1) (hB:B<=w.heap.size) (hb:Below w.heap.size w T) (Wn:RW w6 rb G6 P since ba (gX ga (Ud L s m.toNat))) (Gk:dV T w6 B rb G G6)
  (hh:bY T ao (L.take m.toNat)) (xd:∀ k,yh ao k->L.take m.toNat≠[]->k≠rb/\k<T.heap.size/\w.heap.size<=k) (h0:cZ ga (Ud L s m.toNat)=0) (he:e=.returned (.tuple #[.slice ao (L.take m.toNat).length cap,.int .i64 0])):Ly w w6 e B rb G P since ba ga s m L:=by
 have e1:dL L ga s m=cZ ga (Ud L s m.toNat):=if_neg hm;have e2:eP L ga s m=gX ga (Ud L s m.toNat):=if_neg hm;unfold Ly;rw[e1,e2];refine⟨fun _=>⟨ao,cap,he,dP hh fun La k e=>Gk.Ma k (xd k e La).2.1 (xd k e La).1,G6,Wn,(dV.on hB hb).trans Gk,fun k e La=>(xd k e La).2.2⟩,fun hz=>absurd h0 hz⟩
theorem zKI (hm:¬m<1) (hB:B<=w.heap.size) (hb:Below w.heap.size w T) (Wn:RW w6 rb G6 P since ba (gX ga (Ud L s m.toNat))) (Gk:dV T w6 B rb G G6)
  (h0:cZ ga (Ud L s m.toNat)≠0) (he:e=.returned (.tuple #[.slice none 0 0,.int .i64 (cZ ga (Ud L s m.toNat):Nat)])):Ly w w6 e B rb G P since ba ga s m L:=by
 have e1:dL L ga s m=cZ ga (Ud L s m.toNat):=if_neg hm;have e2:eP L ga s m=gX ga (Ud L s m.toNat):=if_neg hm;unfold Ly;rw[e1,e2];exact⟨fun hz=>absurd hz h0,fun _=>⟨he,G6,Wn,(dV.on hB hb).trans Gk⟩⟩
theorem zN7 (s:BA×BA) (m:Int) (w:World) (h:RW w rb G P since ba ga) (hB:B<=w.heap.size) (hm:m<1):
  Calls p_ 66 #[.pointer (some ⟨rb,0,none⟩),.agg #[.string s.1,.string s.2],.int .i64 m] w fun e w'=>Ly w w' e B rb G P since ba ga s m L:=by
 have Nc:=a_ w (GX s.1 s.2);have HW:=aa h;clear h;go_enter func66,ntmps66;go_wp2;go_ret2;have e1:dL L ga s m=1:=if_pos hm;have e2:eP L ga s m=ga:=if_pos hm;unfold Ly;rw[e1,e2];exact⟨(fun e=>by cases e),fun _=>⟨rfl,lU HW.out hB Nc⟩⟩
theorem lH (s:BA×BA) (m:Int) (w:World) (h:RW w rb G P since ba ga) (hB:B<=w.heap.size) (lg:B<=rb) (ok:Zk P ba ga) (hm:m<=9223372036854775807):
  Calls p_ 66 #[.pointer (some ⟨rb,0,none⟩),.agg #[.string s.1,.string s.2],.int .i64 m] w fun e w'=>Ly w w' e B rb G P since ba ga s m (aF P ba s):=by
 by_cases vl:m<1
 ·exact zN7 s m w h hB vl
 have HW:=aa h;obtain⟨ra,rc,ca,cc,sa,sc,h1,hG,h2,h3,h4⟩:=h;have HX:=aa h1;have Sy:Hid (rb<w.heap.size):=h1.lt (.inl rfl);obtain⟨M,hM⟩:∃ M:Nat,m=(M:Int):=⟨m.toNat,by omega⟩;subst hM;have hM1:1<=M:=by omega
 have hM2:M<=9223372036854775807:=by omega
 have eT:((M:Int)).toNat=M:=by omega
 have HL:=aa (jN ok s);have HE:=aa (zO6 ok.Gm ba s);have Mo:=ok.len;have Ee:=ok.cn;have Yn:=ok.rn;clear h1 h2 h3 h4 hG ok;obtain⟨a0,a1,Nc,-⟩:=Fl w (GX s.1 s.2) rfl rfl;have af:∀ j,(w.alloc (GX s.1 s.2)).frozen? ⟨w.heap.size,j,none⟩=false:=fun j=>aQ _ _ _ j;have c0:=aA Nc HX.out.c0;have c2:=aA Nc HX.out.c2;have ie:=aa Nc;have hz:w.heap.size<(w.alloc (GX s.1 s.2)).heap.size:=by simp
 have Zu:=fun W (hb:Below w.heap.size w W)=>aa (zCV P ra rc ba ca cc W (lX hb HX.out.hP) HX.out.nP (eA hb HX.out.hC) (by omega) (by omega));clear Nc;go_enter func66,ntmps66;go_wp2;generalize (w.alloc (GX s.1 s.2))=W0 at *
 go_region_held3 (fun w'=>w'.cell? ⟨w.heap.size,0,none⟩=some (.string s.1)/\w'.cell? ⟨w.heap.size,1,none⟩=some (.string s.2)/\w'.cell? ⟨rb,0,none⟩=some (.slice ra P.length rc)/\w'.cell? ⟨rb,2,none⟩=some (.slice ca ba.length cc))
  (first
   | go_keep
   | exact⟨aA Ra a0,aA Ra a1,aA Ra c0,aA Ra c2⟩
   | exact⟨aA za a0,aA za a1,aA za c0,aA za c2⟩)
  (first
   | (go_at_call 93;refine(Zu _ ie.out.drew).out.mono ?_;rintro e w2 ⟨v2,rfl,qc,Vc⟩;have za:Below W0.heap.size W0 w2:=aB (r_ _ _).drew (n_ _) Vc;obtain⟨fa,fc,rfl,Ld⟩:=lV qc;clear Vc qc)
   | (go_at_call 133;refine(zPj (iB P ba) fa fc s _ Ld (by have:=vS ba P;omega)).mono ?_;rintro e w3 ⟨v3,rfl,Ae,CC⟩;have Ra:Below W0.heap.size W0 w3:=aB za (n_ _) CC;rw[HE.out] at Ae;have ON:=za.size;clear CC)
   | fail)
 all_goals
  obtain⟨la,lc,hlv,hh3⟩:=lV Ae;subst hlv;have Cf:=aa Ae;have wv:=aa hh3;have Zc:=aa (aB ie.out (n_ _) Ra);have Tf:=Zc.out.size;have Kq:w.heap.size<w3.heap.size:=by have:=Ra.size;omega
  have t0:=aA Ra a0;have t1:=aA Ra a1;have tf:∀ j,w3.frozen? ⟨w.heap.size,j,none⟩=false:=fun j=>aE Ra hz (af j);have Ga:Hid (∀ k,(Value.slice la (aF P ba s).length lc).ownBlock=some k->w.heap.size<k):=fun k e=>by
   have:=(l_ Cf.out k e).1;omega
  clear Ae hh3 Ra za Ld a0 a1 c0 c2 af ON;generalize hLE:aF P ba s=L at *;have mq:=aa hLE;clear hLE;have cz:=HL.out.1;by_cases hML:M<=L.length
  ·have hMI:(M:Int)<=(L.length:Int):=by omega
   rcases aX Cf.out with⟨_,h0⟩|⟨g,Pb,e,Co,Hg,il,Aj⟩
   ·omega
   cases e;have hcI:(M:Int)<=(lc:Int):=by omega
   have Nv:lc<=9223372036854775807:=by unfold maxLen at Aj;omega
   have k1:(M:Int)-1=((M-1:Nat):Int):=by omega
   have k2:((M-1:Nat):Int)<(M:Int):=by omega
   have Tn:M-1<L.length:=by omega
   have cK:w3.cell? ⟨g,(M-1)*2,none⟩=some (.string L[M-1].1):=(dU gQ Cf.out (M-1) 0 Tn (by omega)).1;have Wh:=HL.out.2 _ (MZ Tn);have zt:w.heap.size<g:=Ga.out g rfl;have zi:Hid (Ud L s M=(T3 s.1 ⟨#[]⟩,pe s.2 (cX L[M-1].1))):=by
    unfold Hid Ud;rw[if_pos hML,VY Tn];rfl
   have Xk:Hid ((L.take M).length=M/\iO w3 g 0 (L.take M)):=by
    refine⟨by rw[XY];omega,fun i hi=>?_⟩;have Vm:i<L.length:=by rw[XY] at hi;omega
    have e1:=(dU gQ Cf.out i 0 Vm (by omega)).1;have e2:=(dU gQ Cf.out i 1 Vm (by omega)).1;rw[List.getElem_take,TZ];exact⟨e1,e2⟩
   have k3:G0.wrap ((M:Int)-1)=((M-1:Nat):Int):=by rw[k1,YZ];omega
   have k4:(0:Int)<=((M-1:Nat):Int):=P1 _;have k5:G0.wrap ((M-1:Nat):Int)=((M-1:Nat):Int):=by rw[YZ];omega
   have k6:(0:Int)<=(M:Int):=by omega
   generalize L[M-1].1=k0 at *;generalize M-1=j0 at *;go_wp2
   go_region_with (first
    | (go_at_call 134;refine(zOu s.1 s.2 ⟨#[]⟩ (cX k0) _).mono ?_;rintro e w5 ⟨rfl,EC⟩;have qe:Below w3.heap.size w3 w5:=aB (r_ _ _).drew (n_ _) EC;have XF:=aA qe t0;have t15:=aA qe t1;have DR:=fun j=>aE qe Kq (tf j);clear EC)
    | fail)
   all_goals
    have ID:∀ k,k≠w.heap.size->((w5.setCell ⟨w.heap.size,0,none⟩ (.string (T3 s.1 ⟨#[]⟩))).setCell ⟨w.heap.size,1,none⟩ (.string (pe s.2 (cX k0)))).heap[k]?=w5.heap[k]?:=fun k h=>(h_ _ _ _ _ h).trans (h_ _ _ _ _ h);have u0:((w5.setCell ⟨w.heap.size,0,none⟩ (.string (T3 s.1 ⟨#[]⟩))).setCell ⟨w.heap.size,1,none⟩ (.string (pe s.2 (cX k0)))).cell? ⟨w.heap.size,0,none⟩=some (.string (Ud L s M).1):=by
     rw[zi.out];exact(t_ _ _ _ _ (by simp)).trans (u_ _ _ _ XF)
    have u1:((w5.setCell ⟨w.heap.size,0,none⟩ (.string (T3 s.1 ⟨#[]⟩))).setCell ⟨w.heap.size,1,none⟩ (.string (pe s.2 (cX k0)))).cell? ⟨w.heap.size,1,none⟩=some (.string (Ud L s M).2):=by
     rw[zi.out];exact u_ _ _ _ ((t_ _ _ _ _ (by simp)).trans t15)
    have Cb:Hid (Below w.heap.size w ((w5.setCell ⟨w.heap.size,0,none⟩ (.string (T3 s.1 ⟨#[]⟩))).setCell ⟨w.heap.size,1,none⟩ (.string (pe s.2 (cX k0))))):=((aB Zc.out (n_ _) qe).setCell (p:=⟨w.heap.size,0,none⟩) (n_ _) _).setCell (p:=⟨w.heap.size,1,none⟩) (n_ _) _;have Wj:Hid (g<((w5.setCell ⟨w.heap.size,0,none⟩ (.string (T3 s.1 ⟨#[]⟩))).setCell ⟨w.heap.size,1,none⟩ (.string (pe s.2 (cX k0)))).heap.size):=aa (by have:=qe.size;simp only[World.size_setCell];omega);have HH:Hid (bY ((w5.setCell ⟨w.heap.size,0,none⟩ (.string (T3 s.1 ⟨#[]⟩))).setCell ⟨w.heap.size,1,none⟩ (.string (pe s.2 (cX k0)))) (some ⟨g,0,none⟩) (L.take M)):=.inr ⟨g,0,rfl,fun i hi=>by
     obtain⟨e1,e2⟩:=Xk.out.2 i hi;have eb:=(ID g (by omega)).trans (qe.block g Hg);exact⟨(b_ eb).trans e1,(b_ eb).trans e2⟩⟩
    generalize (w5.setCell ⟨w.heap.size,0,none⟩ (.string (T3 s.1 ⟨#[]⟩))).setCell ⟨w.heap.size,1,none⟩ (.string (pe s.2 (cX k0)))=T2 at u0 u1 Cb Wj HH ⊢;clear ID XF t15 DR qe t0 t1 cK;have sj:=aa (SS (Ud L s M) T2 (HW.out.on Cb.out) (BZ hB Cb.out.size) lg Yn);have Od:Hid (∀ k,yh (some ⟨g,0,none⟩) k->L.take M≠[]->k≠rb/\k<T2.heap.size/\w.heap.size<=k):=fun k e _=>by
     obtain⟨_,e⟩:=e;cases e;exact⟨by have:=Sy.out;omega,Wj.out,by omega⟩
    generalize Yv:Ud L s M=r at *;have Xf:=aa Yv;clear Yv;by_cases nf:cZ ga r=0
    ·have Rh:=aa nf;rw[nf] at sj;clear nf;go_wp2_with (first
      | (go_at_call 127;refine sj.out.mono ?_;rintro e w6 ⟨rfl,G6,Wn,Gk⟩;have fk:=aa Wn;have cu:=aa Gk;clear Wn Gk))
     go_ret2;rw[mq.out];exact zKJ (by omega) hB Cb.out (by rw[eT,Xf.out];exact fk.out) cu.out (by rw[eT];exact HH.out) (by rw[eT];exact Od.out) (by rw[eT,Xf.out];exact Rh.out) (by rw[eT,Xk.out.1];rfl)
    ·have Rh:=aa nf;have FE:(0:Int)<(cZ ga r:Int):=by omega
     clear nf;generalize Gu:cZ ga r=f at *;have Vj:=aa Gu;clear Gu;go_wp2_with (first
      | (go_at_call 127;refine sj.out.mono ?_;rintro e w6 ⟨rfl,G6,Wn,Gk⟩;have fk:=aa Wn;have cu:=aa Gk;clear Wn Gk))
     go_ret2;rw[mq.out];exact zKI (by omega) hB Cb.out (by rw[eT,Xf.out];exact fk.out) cu.out (by rw[eT,Xf.out,Vj.out];exact Rh.out) (by rw[eT,Xf.out,Vj.out];rfl)
  ·have hMI:¬(M:Int)<=(L.length:Int):=by omega
   have lx:Hid (L.take M=L):=List.take_of_length_le (by omega);have zi:Hid (Ud L s M=s):=if_neg hML;have sj:=aa (SS s w3 (HW.out.on Zc.out) (BZ hB Zc.out.size) lg Yn);have Od:Hid (∀ k,yh la k->L≠[]->k≠rb/\k<w3.heap.size/\w.heap.size<=k):=fun k e La=>by
    obtain⟨off,rfl⟩:=e;have e2:(Value.slice (some ⟨k,off,none⟩) L.length lc).ownBlock=some k:=rfl;exact⟨by have a:=Sy.out;have b:=Ga.out k e2;omega,(l_ Cf.out k e2).2,by have b:=Ga.out k e2;omega⟩
   by_cases nf:cZ ga s=0
   ·have Rh:=aa nf;rw[nf] at sj;clear nf;go_wp2_with (first
     | (go_at_call 127;refine sj.out.mono ?_;rintro e w6 ⟨rfl,G6,Wn,Gk⟩;have fk:=aa Wn;have cu:=aa Gk;clear Wn Gk))
    go_ret2;rw[mq.out];exact zKJ (by omega) hB Zc.out (by rw[eT,zi.out];exact fk.out) cu.out (by rw[eT,lx.out];exact wv.out) (by rw[eT,lx.out];exact Od.out) (by rw[eT,zi.out];exact Rh.out) (by rw[eT,lx.out];rfl)
   ·have Rh:=aa nf;have FE:(0:Int)<(cZ ga s:Int):=by omega
    clear nf;generalize Gu:cZ ga s=f at *;have Vj:=aa Gu;clear Gu;go_wp2_with (first
     | (go_at_call 127;refine sj.out.mono ?_;rintro e w6 ⟨rfl,G6,Wn,Gk⟩;have fk:=aa Wn;have cu:=aa Gk;clear Wn Gk))
    go_ret2;rw[mq.out];exact zKI (by omega) hB Zc.out (by rw[eT,zi.out];exact fk.out) cu.out (by rw[eT,zi.out,Vj.out];exact Rh.out) (by rw[eT,zi.out,Vj.out];rfl)
end
section
open Go.RowKit Go.Joins Go.Shelf
structure QR (w:World) (B rb:Nat) (G:Nat->Prop) (P:ta) (since:Sn) (ba:List ma) (ga:ta):Prop where
 rw:RW w rb G P since ba ga
 ov:Zk P ba ga
 ok:Rl P ba
 lo:B<=w.heap.size
 rl:B<=rb
def Jc (w w':World) (B rb:Nat) (G:Nat->Prop) (P:ta) (since:Sn) (ba:List ma) (ga:ta):Prop:=∃ G',QR w' B rb G' P since ba ga/\dV w w' B rb G G'
structure nd (w W:World) (B rb:Nat) (O G G':Nat->Prop) (P:ta) (since:Sn) (ba:List ma) (ga:ta):Prop where
 qr:QR W B rb G' P since ba ga
 st:dV w W B rb G G'
 ow:∀ b,O b->¬G' b/\w.heap.size<=b/\b<W.heap.size/\∀ j,W.frozen? ⟨b,j,none⟩=false
 rh:rb<w.heap.size
section
variable {w w1 w2:World} {B rb:Nat} {O O' G G' G2:Nat->Prop} {P:ta} {since:Sn} {ba Sa:List ma} {ga Wa:ta}
theorem RW.ug (h:RW w rb G P since ba ga):rb<w.heap.size:=by
 obtain⟨ra,rc,ca,cc,sa,sc,h1,rfl,_⟩:=h;exact h1.lt (.inl rfl)
theorem QR.on (h:QR w B rb G P since ba ga) (hb:Below w.heap.size w w1):QR w1 B rb G P since ba ga:=⟨h.rw.on hb,h.ov,h.ok,BZ h.lo hb.size,h.rl⟩
theorem QR.act (h:QR w B rb G P since ba ga) (hv:Zk P Sa Wa) (hk:Rl P Sa) (ha:Tj w w1 B rb G P since Sa Wa):Jc w w1 B rb G P since Sa Wa:=by
 obtain⟨G',hr,hs⟩:=ha;exact⟨G',⟨hr,hv,hk,BZ h.lo hs.Ia.size,h.rl⟩,hs⟩
theorem Jc.after (hs:dV w w1 B rb G G') (ha:Jc w1 w2 B rb G' P since ba ga):Jc w w2 B rb G P since ba ga:=by
 obtain⟨G2,hq,h2⟩:=ha;exact⟨G2,hq,hs.trans h2⟩
theorem nd.start (h:QR w B rb G P since ba ga):nd w w B rb (fun _=>False) G G P since ba ga:=⟨h,.on h.lo (r_ _ _),fun _ h=>h.elim,h.rw.ug⟩
theorem nd.on (h:nd w w1 B rb O G G' P since ba ga) (hb:Below w1.heap.size w1 w2):nd w w2 B rb O G G' P since ba ga:=
 ⟨h.qr.on hb,h.st.trans (.on h.qr.lo hb),fun b ho=>by
  obtain⟨a,b1,c,d⟩:=h.ow b ho;exact⟨a,b1,UY c hb.size,fun j=>aE hb c (d j)⟩,h.rh⟩
theorem nd.box (h:nd w w1 B rb O G G' P since ba ga) (vs:Array Value) (t:TypeId):nd w (w1.alloc (.cells vs t)) B rb (fun b=>b=w1.heap.size∨O b) G G' P since ba ga:=by
 have hb:=a_ w1 (.cells vs t);have h1:=h.on hb;refine⟨h1.qr,h1.st,fun b ho=>?_,h.rh⟩;rcases ho with rfl|ho
 ·exact⟨fun e=>by have:=h.qr.rw.lt e;omega,h.st.Ia.size,by simp,fun j=>aQ _ _ _ j⟩
 ·exact h1.ow b ho
theorem nd.yd (h:nd w w1 B rb O G G' P since ba ga) (hq:QR w2 B rb G2 P since Sa Wa) (hs:dV w1 w2 B rb G' G2):nd w w2 B rb O G G2 P since Sa Wa/\∀ b,O b->w2.heap[b]?=w1.heap[b]?:=by
 have hr:=h.rh;have e:∀ b,O b->w2.heap[b]?=w1.heap[b]?:=fun b ho=>by
  obtain⟨_,b1,c,_⟩:=h.ow b ho;exact hs.Ma b c (by omega)
 refine⟨⟨hq,h.st.trans hs,fun b ho=>?_,hr⟩,e⟩;obtain⟨a,b1,c,d⟩:=h.ow b ho;exact⟨hs.out b c a,b1,UY c hs.Ia.size,fun j=>(CZ (w:=w1) (e b ho)).trans (d j)⟩
theorem nd.act (h:nd w w1 B rb O G G' P since ba ga) (ha:Jc w1 w2 B rb G' P since Sa Wa):∃ G2,nd w w2 B rb O G G2 P since Sa Wa/\∀ b,O b->w2.heap[b]?=w1.heap[b]?:=by
 obtain⟨G2,hq,hs⟩:=ha;exact⟨G2,h.yd hq hs⟩
theorem nd.set (h:nd w w1 B rb O G G' P since ba ga) (hB:B<=w.heap.size) (ho:O b) (j:Nat) (v:Value):nd w (w1.setCell ⟨b,j,none⟩ v) B rb O G G' P since ba ga:=by
 have hs:∀ k,k≠b->(w1.setCell ⟨b,j,none⟩ v).heap[k]?=w1.heap[k]?:=fun k hk=>h_ _ _ _ _ hk;obtain⟨a,b1,c,d⟩:=h.ow b ho;have hr:=h.rh;refine⟨⟨h.qr.rw.kept fun k hk=>hs k fun e=>a (e▸hk),h.qr.ov,h.qr.ok,by simpa using h.qr.lo,h.qr.rl⟩,⟨h.st.Ia.setCell (p:=⟨b,j,none⟩) (by show B<=b;omega) v,fun k hk hn=>(hs k (by omega)).trans (h.st.Ma k hk hn),h.st.out⟩,fun b' Pj=>?_,hr⟩;obtain⟨a',IH,c',d'⟩:=h.ow b' Pj;exact⟨a',IH,by simpa using c',fun k=>by rw[EZ];exact d' k⟩
theorem nd.less (h:nd w w1 B rb O G G' P since ba ga) (hs:∀ b,O' b->O b):nd w w1 B rb O' G G' P since ba ga:=⟨h.qr,h.st,fun b hb=>h.ow b (hs b hb),h.rh⟩
theorem nd.done (h:nd w w1 B rb O G G' P since ba ga):Jc w w1 B rb G P since ba ga:=⟨G',h.qr,h.st⟩
theorem zOa {c:ma} (h:Zk P ba ga):Zk P (bG ba c) ga:=xQ h lD
end
section
variable {B rb:Nat} {G:Nat->Prop} {P:ta} {since:Sn} {ba:List ma} {ga:ta}
theorem lO (c:ma) (w:World) (h:QR w B rb G P since ba ga) (hk:c.key.size<=1000):
  Calls p_ 62 #[.pointer (some ⟨rb,0,none⟩),.agg #[.string c.key,.string c.val,.bool c.gone]] w fun e w'=>e=.returned (.int .i64 (cH ba c:Nat))/\Jc w w' B rb G P since (bG ba c) ga:=
 (zOA c w h.rw h.lo h.rl h.ov.cn h.ov.cr hk).mono fun _ _ ⟨he,ha⟩=>⟨he,h.act (zOa h.ov) (h.ok.alter c) ha⟩
theorem PT (key:BA) (w:World) (h:QR w B rb G P since ba ga) (hk:key.size<=1000):
  Calls p_ 64 #[.pointer (some ⟨rb,0,none⟩),.string key] w fun e w'=>e=.returned (.tuple #[.string (Rb ba ga P key).1,.bool (Rb ba ga P key).2.1,.int .i64 ((Rb ba ga P key).2.2:Nat)])/\Jc w w' B rb G P since ba (Oe ba ga key):=
 (zOz key w h.rw h.lo h.rl h.ov.cn h.ov.cr h.ov.rn (by have:=h.ov.len;omega) hk).mono fun _ _ ⟨he,ha⟩=>⟨he,h.act { h.ov with rn:=zDB h.ov.rn } h.ok ha⟩
theorem zD0 (s:BA×BA) (m:Int) (w:World) (h:QR w B rb G P since ba ga) (hm:m<=9223372036854775807) (hf:dL (aF P ba s) ga s m≠0):
  Calls p_ 66 #[.pointer (some ⟨rb,0,none⟩),.agg #[.string s.1,.string s.2],.int .i64 m] w fun e w'=>e=.returned (.tuple #[.slice none 0 0,.int .i64 (dL (aF P ba s) ga s m:Nat)])/\Jc w w' B rb G P since ba (eP (aF P ba s) ga s m):=
 (lH s m w h.rw h.lo h.rl h.ov hm).mono fun _ _ hv=>⟨(hv.2 hf).1,h.act { h.ov with rn:=zHk h.ov.rn } h.ok (hv.2 hf).2⟩
def zPr (w w':World) (v:Value) (B rb:Nat) (G:Nat->Prop) (P:ta) (since:Sn) (ba:List ma) (ga l:ta):Prop:=
 ∃ ao cap G',v=.slice ao l.length cap/\bY w' ao l/\QR w' B rb G' P since ba ga/\dV w w' B rb G G'/\∀ k,yh ao k->l≠[]->w.heap.size<=k
theorem zGT (s:BA×BA) (m:Int) (w:World) (h:QR w B rb G P since ba ga) (hm:m<=9223372036854775807) (hf:dL (aF P ba s) ga s m=0):
  Calls p_ 66 #[.pointer (some ⟨rb,0,none⟩),.agg #[.string s.1,.string s.2],.int .i64 m] w fun e w'=>∃ v,e=.returned (.tuple #[v,.int .i64 0])/\zPr w w' v B rb G P since ba (eP (aF P ba s) ga s m) ((aF P ba s).take m.toNat):=
 (lH s m w h.rw h.lo h.rl h.ov hm).mono fun _ _ hv=>by
  obtain⟨ao,cap,he,hh,G',hr,hs,qm⟩:=hv.1 hf;exact⟨_,he,ao,cap,G',rfl,hh,⟨hr,{ h.ov with rn:=zHk h.ov.rn },h.ok,BZ h.lo hs.Ia.size,h.rl⟩,hs,qm⟩
end
end
section
open Go.RowKit Go.Joins Go.Shelf
attribute [local go_sem ↓] Go.wp_at_zero Go.wp_at_succ
section
variable {w w':World} {B wb:Nat} {S S':Nat->Prop} {P:ta} {since:Sn} {ba:List ma} {ga Wa:ta}
theorem QV.to (h:QV w B wb S P since ba ga) (hp:PV w' B wb S' P since ba Wa) (hs:aG w w' B S S'):QV w' B wb S' P since ba Wa:=⟨hp,h.ok,fun W hW=>h.la W (hs.Ia.trans hW)⟩
theorem tS (L ga:ta) (s:BA×BA):dL L ga s 1=cZ ga (Ud L s 1):=if_neg (by omega)
theorem DJ (L ga:ta) (s:BA×BA):eP L ga s 1=gX ga (Ud L s 1):=if_neg (by omega)
theorem zBd (s:BA×BA) (m:Int) (w:World) (h:QV w B wb S P since ba ga) (hm:m<=9223372036854775807) (hf:dL (aF P ba s) ga s m≠0):
  Calls p_ 65 #[.pointer (some ⟨wb,0,none⟩),.agg #[.string s.1,.string s.2],.int .i64 m] w fun e w'=>e=.returned (.tuple #[.slice none 0 0,pa (dL (aF P ba s) ga s m)])/\Hb w w' B wb S P since ba (eP (aF P ba s) ga s m):=
 (vM s m w h.pv hm).mono fun _ _ hv=>⟨(hv.2 hf).1,h.act h.ok (hv.2 hf).2⟩
def zM8 (w w':World) (v:Value) (B wb:Nat) (S:Nat->Prop) (P:ta) (since:Sn) (ba:List ma) (ga l:ta):Prop:=
 ∃ ao cap S',v=.slice ao l.length cap/\l.length<=cap/\cap<=9223372036854775807/\bY w' ao l/\QV w' B wb S' P since ba ga/\aG w w' B S S'/\∀ b off,ao=some ⟨b,off,none⟩->w.heap.size<=b/\b<w'.heap.size/\¬S' b
theorem zDp (s:BA×BA) (m:Int) (w:World) (h:QV w B wb S P since ba ga) (hm:m<=9223372036854775807) (hf:dL (aF P ba s) ga s m=0):
  Calls p_ 65 #[.pointer (some ⟨wb,0,none⟩),.agg #[.string s.1,.string s.2],.int .i64 m] w fun e w'=>∃ v,e=.returned (.tuple #[v,.nilIface])/\zM8 w w' v B wb S P since ba (eP (aF P ba s) ga s m) ((aF P ba s).take m.toNat):=
 (vM s m w h.pv hm).mono fun _ _ hv=>by
  obtain⟨ao,cap,he,hc,hh,S',hp,hs,hn⟩:=hv.1 hf;exact⟨_,he,ao,cap,S',rfl,hc.1,hc.2,hh,h.to hp hs,hs,hn⟩
end
theorem zGg (s:BA×BA) (w:World) (h:QV w B wb S P since ba ga):
  Calls p_ 183 #[.pointer (some ⟨wb,0,none⟩),.agg #[.string s.1,.string s.2]] w fun e w'=>e=.returned (.tuple #[.agg #[.string (eE (aF P ba s) ga s).1,.string (eE (aF P ba s) ga s).2],pa (kT (aF P ba s) ga s)])/\Hb w w' B wb S P since ba (rR (aF P ba s) ga s):=by
 have n1:=bM 77;have Ba:=a_ w (GX s.1 s.2);have HX:=aa (ve.start (h.on Ba) #[v_ ⟨#[]⟩,v_ ⟨#[]⟩] 142);have hz:(w.alloc (GX s.1 s.2)).heap.size=w.heap.size+1:=by simp
 have za:=a_ (w.alloc (GX s.1 s.2)) CY;have Ga:=aa h.pv.lo;have HQ:=aa h;have Xw:=aa (fun (w':World) (c:List ma) (r:ta)=>h.pre (w':=w') (Sa:=c) (Wa:=r) Ba);have s0:((w.alloc (GX s.1 s.2)).alloc CY).cell? ⟨w.heap.size,0,none⟩=some (.string s.1):=aA za (aC w _ _ 0);have s1:((w.alloc (GX s.1 s.2)).alloc CY).cell? ⟨w.heap.size,1,none⟩=some (.string s.2):=aA za (aC w _ _ 1);obtain⟨r0,r1,-⟩:=Fl (w.alloc (GX s.1 s.2)) CY (n:=w.heap.size+1) (by simp) rfl;rw[hz] at HX;have qp:Hid (B<=(w.alloc (GX s.1 s.2)).heap.size):=aa (by rw[hz];have:=h.pv.lo;omega);by_cases hf:cZ ga (Ud (aF P ba s) s 1)=0
 ·have Pf:=aa (zDp s 1 _ HX.out.qv (by omega) ((tS _ _ _).trans hf));rw[DJ,show((1:Int).toNat)=1 from rfl] at Pf;unfold rR kT eE;rw[if_pos hf,if_pos hf];clear h Ba za HQ hf;generalize aF P ba s=L at *;generalize gX ga (Ud L s 1)=Ua at *
  cases L with
  | nil=>
   dsimp only;rw[List.take_nil] at Pf;go_enter func183,ntmps183;go_wp2_with (first
    | (go_at_call 65;refine Pf.out.mono ?_;rintro e w2 ⟨v,rfl,ha⟩;obtain⟨ao,cap,S2,rfl,il,Aj,hh,se,Ub,Vp⟩:=ha;obtain⟨Qe,eb⟩:=HX.out.go se Ub;have fz:=Qe.fz;replace r0:=(b_ eb).trans r0;replace r1:=(b_ eb).trans r1;have xg:=aa Qe;clear Qe eb se Ub Vp hh;rw[List.length_nil])
    | fail)
   exact bodyPost_ret (v:=.tuple #[.agg #[.string ⟨#[]⟩,.string ⟨#[]⟩],pa 12]) (by simp[pa,results,results183,go_sem,r0,r1]) rfl ⟨rfl,Xw.out _ _ _ ((xg.out.set qp.out 0 _).set qp.out 1 _).done⟩
  | cons r L=>
   dsimp only;rw[show(r::L).take 1=[r] from rfl] at Pf;go_enter func183,ntmps183;go_wp2_with (first
    | (go_at_call 65;refine Pf.out.mono ?_;rintro e w2 ⟨v,rfl,ha⟩;obtain⟨ao,cap,S2,rfl,il,Aj,hh,se,Ub,Vp⟩:=ha;obtain⟨Qe,eb⟩:=HX.out.go se Ub;have fz:=Qe.fz;replace r0:=(b_ eb).trans r0;replace r1:=(b_ eb).trans r1;have xg:=aa Qe;rcases hh with hh|⟨b,off,rfl,hh⟩;exact absurd hh (by simp);have a0:=(hh 0 (by simp)).1;have a1:=(hh 0 (by simp)).2;have Ct:=Vp b off rfl;clear Qe eb se Ub Vp hh;rw[List.length_singleton];simp only[Nat.zero_mul,Nat.add_zero,List.getElem_cons_zero] at a0 a1)
    | fail)
   exact bodyPost_ret (v:=.tuple #[.agg #[.string r.1,.string r.2],pa 0]) (by simp[pa,results,results183,go_sem,r0,r1]) rfl ⟨rfl,Xw.out _ _ _ ((xg.out.set qp.out 0 _).set qp.out 1 _).done⟩
 ·have Pf:=aa (zBd s 1 _ HX.out.qv (by omega) (fun e=>hf ((tS _ _ _).symm.trans e)));rw[DJ,tS] at Pf;unfold rR kT eE;rw[if_neg hf,if_neg hf];clear h Ba za HQ;generalize aF P ba s=L at *;generalize gX ga (Ud L s 1)=Ua at *;generalize cZ ga (Ud L s 1)=f at *;have HE:=aa (bJ hf);clear hf;go_enter func183,ntmps183;go_wp2_with (first
   | (go_at_call 65;refine Pf.out.mono ?_;rintro e w2 ⟨rfl,ha⟩;obtain⟨S2,Qe,eb⟩:=HX.out.act ha;have fz:=Qe.fz;replace r0:=(b_ eb).trans r0;replace r1:=(b_ eb).trans r1;have xg:=aa Qe;clear ha Qe eb;rw[HE.out])
   | fail)
  exact bodyPost_ret (v:=.tuple #[.agg #[.string ⟨#[]⟩,.string ⟨#[]⟩],pa f]) (by simp[results,results183,go_sem,r0,r1,HE.out]) rfl ⟨rfl,Xw.out _ _ _ ((xg.out.set qp.out 0 _).set qp.out 1 _).done⟩
theorem zJ5 (s:ByteArray) (n:Nat) (w:World) (hn:n<=999999) (hs:s.data.toList=Ge n):Calls p_ 200 #[.string s] w fun e w'=>e=.returned (.tuple #[.int .i64 n,.nilIface])/\Below w.heap.size w w':=
 (Tryz.strconv_Atoi s n (by rw[Lib.size_eq,hs];show 6<=_;omega) (by rw[hs];exact zDN n hn) w).mono fun e w' ⟨he,t,hw⟩=>
  ⟨he,by rw[hw];exact below_bytesWorld _ w 5 t (n_ _)⟩
theorem yN (q:ByteArray) (n:Nat) (val:ByteArray) (w:World) (hq:q.size<=1000) (hn:n<=999999) (hv:val.size<=100) (hL:∀ W,Below w.heap.size w W->Yd W):
  Calls p_ 136 #[.agg #[.string (Ta q n),.string val]] w fun e w'=>e=.returned (.tuple #[mV (ud val n),pa (ud val n).2.2.2.2])/\Below w.heap.size w w':=by
 have Wh:=pS q n;have LL:=aa (fun W=>sD (Tryz.strings_LastIndexByte (Ta q n) 47 (by omega) W) (congrArg (i_ .i64) (zEM (q:=q) n)));have HDG:=aa (zHI (q:=q) n);have Ba:=a_ w (MX (Ta q n) val);have za:=a_ (w.alloc (MX (Ta q n) val)) DX;have HB:=aa (aB Ba (n_ _) za);have HM:=aa (fun W (hW:Below w.heap.size w W)=>zDb val n hv W (hL W hW));have k0:((w.alloc (MX (Ta q n) val)).alloc DX).cell? ⟨w.heap.size,0,none⟩=some (.string (Ta q n)):=aA za (aC w _ _ 0);have k1:((w.alloc (MX (Ta q n) val)).alloc DX).cell? ⟨w.heap.size,1,none⟩=some (.string val):=aA za (aC w _ _ 1);have hz:(w.alloc (MX (Ta q n) val)).heap.size=w.heap.size+1:=by simp
 obtain⟨r0,r1,r2,r3,-⟩:=kn (w.alloc (MX (Ta q n) val)) DX (n:=w.heap.size+1) (by simp) rfl;have fz0:∀ j,((w.alloc (MX (Ta q n) val)).alloc DX).frozen? ⟨w.heap.size+1,j,none⟩=false:=by rw[<-hz];exact aQ _ _ _
 have Mb:((w.alloc (MX (Ta q n) val)).alloc DX).heap.size=w.heap.size+2:=by simp
 clear Ba za hz hL;generalize ud val n=m at *;obtain⟨mk,mt,mu,md,em⟩:=m;dsimp only at HM ⊢;go_enter func136,ntmps136;go_wp2;generalize (w.alloc (MX (Ta q n) val)).alloc DX=X at *;generalize hK:Ta q n=K at *;clear hK;have nS:=ad.some X;have n0:∀ m:ad X,m.w.cell? ⟨w.heap.size,0,none⟩=some (.string K):=fun m=>m.cell k0;have mg:G0.wrap ((q.size:Int)+2+1)=(q.size:Int)+3:=by rw[YZ];omega
 have h03:(0:Int)<=(q.size:Int)+3:=by omega
 have h3l:(q.size:Int)+3<=(K.size:Int):=by omega
 have h3t:((q.size:Int)+3).toNat=q.size+3:=by omega
 refine dE (by kernel_rfl) (by kernel_rfl) ?_
 repeat (go_big_quiet_step ((first
  | (go_at_call 199;rename_i m;exact zLW (LL.out _)))))
 refine wpQuiet_nil ?_;intro w3 uf;replace uf:=jG uf;have Zc:=aa (aB HB.out (n_ _) uf);have HS:=aa (show w.heap.size+1<X.heap.size by omega);replace ⟨k1,r0,r1,r2,r3⟩:=on5 uf k1 r0 r1 r2 r3;have QM:∀ j,w3.frozen? ⟨w.heap.size+1,j,none⟩=false:=fun j=>aE uf HS.out (fz0 j);have Tf:w.heap.size+1<w3.heap.size:=UY HS.out uf.size;clear fz0 k0 n0 nS uf Mb;go_wp2_with (first
  | (go_at_call 200;refine(zJ5 _ n _ hn HDG.out).mono ?_;rintro e w4 ⟨rfl,Eb⟩;have jj:=aa (aB Zc.out (n_ _) Eb);replace ⟨k1,r0,r1,r2,r3⟩:=on5 Eb k1 r0 r1 r2 r3;have RM:∀ j,w4.frozen? ⟨w.heap.size+1,j,none⟩=false:=fun j=>aE Eb Tf (QM j);have Po:=UY Tf Eb.size;clear Eb QM Tf)
  | (go_at_call 185;refine(HM.out _ jj.out).mono ?_;rintro e w5 ⟨rfl,qe⟩;have Wf:=aa (aB jj.out (n_ _) qe);replace ⟨r0,r1,r2,r3⟩:=Ij qe r0 r1 r2 r3;have fz5:∀ j,w5.frozen? ⟨w.heap.size+1,j,none⟩=false:=fun j=>aE qe Po (RM j);clear qe RM Po)
  | fail)
 exact bodyPost_ret (v:=.tuple #[mV (mk,mt,mu,md,em),pa em]) (by simp[results,results136,go_sem,r0,r1,r2,r3]) rfl ⟨rfl,(((Wf.out.setCell (p:=⟨w.heap.size+1,0,none⟩) (I4 _) _).setCell (p:=⟨w.heap.size+1,1,none⟩) (I4 _) _).setCell (p:=⟨w.heap.size+1,2,none⟩) (I4 _) _).setCell (p:=⟨w.heap.size+1,3,none⟩) (I4 _) _⟩
end
section
open Go.RowKit Go.Joins Go.Shelf
structure je (w W:World) (B wb:Nat) (O S S':Nat->Prop) (P:ta) (since:Sn) (ba:List ma) (ga:ta):Prop where
 qv:QV W B wb S' P since ba ga
 st:aG w W B S S'
 ow:∀ b,O b->¬S' b/\w.heap.size<=b/\b<W.heap.size/\∀ j,W.frozen? ⟨b,j,none⟩=false
section
variable {w w1 w2:World} {B wb:Nat} {O O' S S' S2:Nat->Prop} {P:ta} {since:Sn} {ba Sa:List ma} {ga Wa:ta}
theorem je.start (h:QV w B wb S P since ba ga):je w w B wb (fun _=>False) S S P since ba ga:=⟨h,.refl h.pv.lo,fun _ h=>h.elim⟩
theorem je.on (h:je w w1 B wb O S S' P since ba ga) (hb:Below w1.heap.size w1 w2):je w w2 B wb O S S' P since ba ga:=
 ⟨h.qv.on hb,h.st.trans (.on h.qv.pv.lo hb),fun b ho=>by
  obtain⟨a,b1,c,d⟩:=h.ow b ho;exact⟨a,b1,UY c hb.size,fun j=>aE hb c (d j)⟩⟩
theorem je.box (h:je w w1 B wb O S S' P since ba ga) (vs:Array Value) (t:TypeId):je w (w1.alloc (.cells vs t)) B wb (fun b=>b=w1.heap.size∨O b) S S' P since ba ga:=by
 have hb:=a_ w1 (.cells vs t);have h1:=h.on hb;refine⟨h1.qv,h1.st,fun b ho=>?_⟩;rcases ho with rfl|ho
 ·refine⟨fun e=>by have:=h.qv.pv.lt e;omega,?_,by simp,fun j=>aQ _ _ _ j⟩;have:=h.st.Ia.size;exact this
 ·exact h1.ow b ho
theorem je.yd (h:je w w1 B wb O S S' P since ba ga) (hq:QV w2 B wb S2 P since Sa Wa) (hs:aG w1 w2 B S' S2):je w w2 B wb O S S2 P since Sa Wa/\∀ b,O b->w2.heap[b]?=w1.heap[b]?:=
 ⟨⟨hq,h.st.trans hs,fun b ho=>by
  obtain⟨a,b1,c,d⟩:=h.ow b ho;obtain⟨e,n⟩:=hs.Ma b c a;exact⟨n,b1,UY c hs.Ia.size,fun j=>(CZ (w:=w1) e).trans (d j)⟩⟩,fun b ho=>by
  obtain⟨a,b1,c,d⟩:=h.ow b ho;exact(hs.Ma b c a).1⟩
theorem je.act (h:je w w1 B wb O S S' P since ba ga) (ha:Hb w1 w2 B wb S' P since Sa Wa):∃ S2,je w w2 B wb O S S2 P since Sa Wa/\∀ b,O b->w2.heap[b]?=w1.heap[b]?:=by
 obtain⟨S2,hq,hs⟩:=ha;exact⟨S2,h.yd hq hs⟩
theorem je.set (h:je w w1 B wb O S S' P since ba ga) (hB:B<=w.heap.size) (ho:O b) (j:Nat) (v:Value):je w (w1.setCell ⟨b,j,none⟩ v) B wb O S S' P since ba ga:=by
 have hs:∀ k,k≠b->(w1.setCell ⟨b,j,none⟩ v).heap[k]?=w1.heap[k]?:=fun k hk=>h_ _ _ _ _ hk;obtain⟨a,b1,c,d⟩:=h.ow b ho;refine⟨⟨h.qv.pv.kept (by simp) fun k hk=>hs k fun e=>a (e▸hk),h.qv.ok,fun W hW=>h.qv.la W (((r_ B w1).setCell (p:=⟨b,j,none⟩) (by show B<=b;omega) v).trans hW)⟩,⟨h.st.Ia.setCell (p:=⟨b,j,none⟩) (by show B<=b;omega) v,fun k hk hn=>?_⟩,fun b' Pj=>?_⟩
 ·obtain⟨x,y⟩:=h.st.Ma k hk hn;exact⟨(hs k (by omega)).trans x,y⟩
 ·obtain⟨a',IH,c',d'⟩:=h.ow b' Pj;exact⟨a',IH,by simpa using c',fun k=>by rw[EZ];exact d' k⟩
theorem je.less (h:je w w1 B wb O S S' P since ba ga) (hs:∀ b,O' b->O b):je w w1 B wb O' S S' P since ba ga:=⟨h.qv,h.st,fun b hb=>h.ow b (hs b hb)⟩
theorem je.done (h:je w w1 B wb O S S' P since ba ga):Hb w w1 B wb S P since ba ga:=⟨S',h.qv,h.st⟩
end
end
section
open Go.RowKit Go.Joins Go.Shelf
attribute [local go_sem ↓] Go.wp_at_zero Go.wp_at_succ
theorem zJh (key Ca body:ByteArray) (w:World) (h:QV w B wb S P since ba ga) (hk:key.size<=maxLen) (hd:Ca.size<=1000):
  Calls p_ 184 #[.pointer (some ⟨wb,0,none⟩),.string key,.string Ca,.string body] w fun e w'=>e=.returned (pa (iH P ba ga key Ca body).1)/\Hb w w' B wb S P since (iH P ba ga key Ca body).2.1 (iH P ba ga key Ca body).2.2:=by
 have n1:=bM 77;have HD:=aa (uA key w h hk);have HF:=aa (fun (S1:Nat->Prop) (W:World) (hW:QV W B wb S1 P since (bG ba ⟨key,⟨#[]⟩,true⟩) ga)=>kK Ca W hW hd);have Kf:=aa (fun h=>xJ (P:=P) (ba:=bG ba ⟨key,⟨#[]⟩,true⟩) (ga:=ga) (name:=Ca) h);unfold iH;clear h;generalize cH ba ⟨key,⟨#[]⟩,true⟩=f1 at *;generalize bG ba ⟨key,⟨#[]⟩,true⟩=df at *;generalize aN P df ga Ca=q at *;generalize bC df ga Ca=Ua at *;obtain⟨qx,qy,qd,er⟩:=q;dsimp only at HF Kf ⊢;by_cases h1:f1=0
 ·subst h1;rw[if_pos rfl];have Tc:=aa bX
  cases Ie:Gf Ca with
  | true=>
   have On:(Ca.toList==[])=true:=by rw[List.isEmpty_iff.1 Ie];rfl
   rw[if_pos rfl];clear Ie;go_enter func184,ntmps184;go_wp2_with (first
    | (go_at_call 63;refine HD.out.mono ?_;rintro e w1 ⟨rfl,ha⟩;have HA:=aa ha;clear ha;rw[Tc.out])
    | fail)
   go_ret;exact⟨rfl,HA.out⟩
  | false=>
   have On:(Ca.toList==[])=false:=by unfold Gf at Ie;cases e:Ca.toList with|nil=>rw[e] at Ie;cases Ie|cons a l=>rfl
   rw[if_neg (by simp)];clear Ie;by_cases h2:er=0
   ·subst h2;rw[if_pos rfl];have Bd:=aa bX;obtain⟨jo,dh,MC,_,_⟩:=Kf.out rfl;have ZJ:=aa (fun (S2:Nat->Prop) (W:World) (hW:QV W B wb S2 P since df Ua)=>zDU Ca qx qy qd body 0 W hW hd (by omega) jo dh);clear Kf;generalize Me df Ca qx qy qd body 0=r at *;go_enter func184,ntmps184;go_wp2_with (first
     | (go_at_call 63;refine HD.out.mono ?_;rintro e w1 ⟨rfl,ha⟩;obtain⟨S1,Qa,Na⟩:=ha;have Kb:=aa Qa;have tc:=aa Na;clear Qa Na;rw[Tc.out])
     | (go_at_call 60;refine(HF.out _ _ Kb.out).mono ?_;rintro e w2 ⟨rfl,ha⟩;obtain⟨S2,se,Ub⟩:=ha;have Ja:=a_ w2 (CX qx qy qd);have Cg:=aa (se.on Ja);have yf:=aa ((tc.out.trans Ub).trans (.on se.pv.lo Ja));clear se Ub Ja;rw[Bd.out])
     | (go_at_call 107;refine(ZJ.out _ _ Cg.out).mono ?_;rintro e w3 ⟨rfl,ha⟩;have HA:=aa (Hb.after yf.out ha);clear ha)
     | fail)
    go_ret;exact⟨rfl,HA.out⟩
   ·rw[if_neg h2];have Bd:=aa (bJ h2);clear h2 Kf;go_enter func184,ntmps184;go_wp2_with (first
     | (go_at_call 63;refine HD.out.mono ?_;rintro e w1 ⟨rfl,ha⟩;obtain⟨S1,Qa,Na⟩:=ha;have Kb:=aa Qa;have tc:=aa Na;clear Qa Na;rw[Tc.out])
     | (go_at_call 60;refine(HF.out _ _ Kb.out).mono ?_;rintro e w2 ⟨rfl,ha⟩;obtain⟨S2,se,Ub⟩:=ha;have Ja:=a_ w2 (CX qx qy qd);have Cg:=aa (se.on Ja);have yf:=aa ((tc.out.trans Ub).trans (.on se.pv.lo Ja));clear se Ub Ja;rw[Bd.out])
     | fail)
    go_ret;exact⟨Bd.out▸rfl,_,Cg.out,yf.out⟩
 ·rw[if_neg h1];have Tc:=aa (bJ h1);clear h1 Kf;go_enter func184,ntmps184;go_wp2_with (first
   | (go_at_call 63;refine HD.out.mono ?_;rintro e w1 ⟨rfl,ha⟩;have HA:=aa ha;clear ha;rw[Tc.out])
   | fail)
  go_ret;exact⟨Tc.out▸rfl,HA.out⟩
theorem AJ {r:BA×BA} (hp:bV P) (h:r∈aF P ba s):Fb s.1 s.2 r.1=true:=by
 unfold aF at h;rw[AT ba hp s] at h;exact(List.mem_filter.1 h).2
structure mY (W:World) (b0 b1 b2:Nat) (qx tries:Int) (Ca at_ Mt:BA):Prop where
 q0:W.cell? ⟨b0,0,none⟩=some (.int .i64 qx)
 q1:W.cell? ⟨b0,1,none⟩=some (.int .i64 tries)
 q2:W.cell? ⟨b0,2,none⟩=some (.string Ca)
 r0:W.cell? ⟨b1,0,none⟩=some (.int .i64 0)
 r1:W.cell? ⟨b1,1,none⟩=some (.int .i64 0)
 r2:W.cell? ⟨b1,2,none⟩=some (.int .i64 0)
 r3:W.cell? ⟨b1,3,none⟩=some (.string ⟨#[]⟩)
 s0:W.cell? ⟨b2,0,none⟩=some (.string at_)
 s1:W.cell? ⟨b2,1,none⟩=some (.string Mt)
theorem mY.yd (h:mY W b0 b1 b2 qx tries Ca at_ Mt) (hk:∀ b,(b=b0∨b=b1∨b=b2)->W'.heap[b]?=W.heap[b]?):mY W' b0 b1 b2 qx tries Ca at_ Mt:=
 have k0:W'.heap[b0]?=W.heap[b0]?:=hk b0 (.inl rfl);have k1:W'.heap[b1]?=W.heap[b1]?:=hk b1 (.inr (.inl rfl));have k2:W'.heap[b2]?=W.heap[b2]?:=hk b2 (.inr (.inr rfl))
 ⟨(b_ k0).trans h.q0,(b_ k0).trans h.q1,(b_ k0).trans h.q2,(b_ k1).trans h.r0,(b_ k1).trans h.r1,(b_ k1).trans h.r2,(b_ k1).trans h.r3,(b_ k2).trans h.s0,(b_ k2).trans h.s1⟩
theorem mY.on (h:mY W b0 b1 b2 qx tries Ca at_ Mt) (hb:Below W.heap.size W W'):mY W' b0 b1 b2 qx tries Ca at_ Mt:=
 ⟨aA hb h.q0,aA hb h.q1,aA hb h.q2,aA hb h.r0,aA hb h.r1,aA hb h.r2,aA hb h.r3,aA hb h.s0,aA hb h.s1⟩
theorem mY.next (h:mY W b0 b1 b2 qx tries Ca at_ Mt) (h0:b0≠b2) (h1:b1≠b2) (v:BA):mY (W.setCell ⟨b2,0,none⟩ (.string v)) b0 b1 b2 qx tries Ca v Mt:=by
 have Ma:∀ (b j:Nat),b≠b2->(W.setCell ⟨b2,0,none⟩ (.string v)).cell? ⟨b,j,none⟩=W.cell? ⟨b,j,none⟩:=fun b j hb=>t_ _ _ _ _ (fun e=>hb (congrArg Addr.block e).symm);exact⟨(Ma _ _ h0).trans h.q0,(Ma _ _ h0).trans h.q1,(Ma _ _ h0).trans h.q2,(Ma _ _ h1).trans h.r0,(Ma _ _ h1).trans h.r1,(Ma _ _ h1).trans h.r2,(Ma _ _ h1).trans h.r3,u_ _ _ _ h.s0,(t_ _ _ _ _ (fun e=>by cases e)).trans h.s1⟩
def UJ (b0 b1 b2:Nat) (b:Nat):Prop:=b=b0∨b=b1∨b=b2
def zLG (w W:World) (B wb b0 b1 b2:Nat) (S:Nat->Prop) (P:ta) (since:Sn) (name:BA) (qx tries:Int) (Ca:BA) (now na:Int) (R:Xg×List ma×ta) (k:Nat):Prop:=
 ∃ S' ba ga at_,je w W B wb (UJ b0 b1 b2) S S' P since ba ga/\Mq name k at_/\eO P name tries Ca now na k ba ga at_=R/\mY W b0 b1 b2 qx tries Ca at_ (Jb name)
theorem zHu (name:BA) (qx tries:Int) (Ca:BA) (now na:Int) (w:World) (h:QV w B wb S P since ba ga) (hn:bK name.data.toList=true) (hd:Ca.size<=1000) (ht:tries<=9):
  Calls p_ 112 #[.pointer (some ⟨wb,0,none⟩),.string name,.agg #[.int .i64 qx,.int .i64 tries,.string Ca],.int .i64 now,.int .i64 na] w fun e w'=>e=.returned (.tuple #[mV (eO P name tries Ca now na 1000001 ba ga (aZ name)).1,pa (eO P name tries Ca now na 1000001 ba ga (aZ name)).1.2.2.2.2])/\Hb w w' B wb S P since (eO P name tries Ca now na 1000001 ba ga (aZ name)).2.1 (eO P name tries Ca now na 1000001 ba ga (aZ name)).2.2:=by
 have n1:=bM 77;have FI:=DS hn;have Ga:=aa h.pv.lo;have HN:=aa hn;have EA:=aa ((je.start h).box #[i_ .i64 qx,i_ .i64 tries,v_ Ca] 118);have Uw:=aa (EA.out.box #[i_ .i64 0,i_ .i64 0,i_ .i64 0,v_ ⟨#[]⟩] 108);have za:=a_ (w.alloc (CX qx tries Ca)) DX;have q0:=aA za (aC w #[i_ .i64 qx,i_ .i64 tries,v_ Ca] 118 0);have q1:=aA za (aC w #[i_ .i64 qx,i_ .i64 tries,v_ Ca] 118 1);have q2:=aA za (aC w #[i_ .i64 qx,i_ .i64 tries,v_ Ca] 118 2);obtain⟨r0,r1,r2,r3,-⟩:=kn (w.alloc (CX qx tries Ca)) DX (n:=w.heap.size+1) (by simp) rfl;have hz:(w.alloc (CX qx tries Ca)).heap.size=w.heap.size+1:=by simp
 rw[hz] at Uw;clear h hn EA za hz;generalize vt:eO P name tries Ca now na 1000001 ba ga (aZ name)=R;have Ji:=aa vt;clear vt;go_enter func112,ntmps112;go_wp2_with (first
  | (go_at_call 135;refine(pM name _ (by omega)).mono ?_;rintro e w1 ⟨rfl,Ba⟩;have xp:Hid (w.heap.size≠w1.heap.size/\w.heap.size+1≠w1.heap.size):=aa (by have:=Ba.size;simp at this;omega);have Pd:=aa ((Uw.out.on Ba).box #[v_ (aZ name),v_ (Jb name)] 128);have Ra:=a_ w1 (GX (aZ name) (Jb name));have HC:=aa (mY.mk (aA Ra (aA Ba q0)) (aA Ra (aA Ba q1)) (aA Ra (aA Ba q2)) (aA Ra (aA Ba r0)) (aA Ra (aA Ba r1)) (aA Ra (aA Ba r2)) (aA Ra (aA Ba r3)) (aC w1 #[v_ (aZ name),v_ (Jb name)] 128 0) (aC w1 #[v_ (aZ name),v_ (Jb name)] 128 1));clear q0 q1 q2 r0 r1 r2 r3 Uw Ba Ra)
  | fail)
 have HI:Hid (zLG w (w1.alloc (GX (aZ name) (Jb name))) B wb w.heap.size (w.heap.size+1) w1.heap.size S P since name qx tries Ca now na R 1000001):=aa ⟨S,ba,ga,aZ name,Pd.out.less (fun b hb=>by rcases hb with rfl|rfl|rfl;exact .inr (.inr (.inl rfl));exact .inr (.inl rfl);exact .inl rfl),.inl ⟨rfl,n_ _⟩,Ji.out,HC.out⟩;clear Ji Pd HC;generalize (w1.alloc (GX (aZ name) (Jb name)))=W0 at *;generalize w1.heap.size=b2 at *
 go_loopg [] 1000001 (fun k wr=>zLG w wr B wb w.heap.size (w.heap.size+1) b2 S P since name qx tries Ca now na R k)
 case atStart=>exact HI.out
 case round=>
  clear HI;obtain⟨S',ba,ga,at_,ho,Sc,hR,hC⟩:=hrel;obtain⟨k,rfl⟩:∃ k,gk=k+1:=⟨gk-1,by have:=Sc.pos;omega⟩;have HF:=aa (zGg (at_,Jb name) wr ho.qv);have HK:Hid (kT (aF P ba (at_,Jb name)) ga (at_,Jb name)=0->∃ n,n<=999999/\(eE (aF P ba (at_,Jb name)) ga (at_,Jb name)).1=Ta name n/\Mq name k (cX (eE (aF P ba (at_,Jb name)) ga (at_,Jb name)).1)/\(eE (aF P ba (at_,Jb name)) ga (at_,Jb name)).2.size<=40):=aa (fun hf=>by
   have hm:=zKK hf;obtain⟨h1,h2⟩:=tB ho.qv.ok (at_,Jb name) _ hm;obtain⟨n,hn,e,ha⟩:=Sc.next HN.out h1 (AJ ho.qv.pv.ok.Gm hm);exact⟨n,hn,e,ha,h2⟩)
  rw[eO] at hR;dsimp only at hR HF;generalize rR (aF P ba (at_,Jb name)) ga (at_,Jb name)=Ua at *;generalize kT (aF P ba (at_,Jb name)) ga (at_,Jb name)=f at *;generalize eE (aF P ba (at_,Jb name)) ga (at_,Jb name)=r at *;obtain⟨rk,rv⟩:=r;have HO:=aa ho;have HC:=aa hC;clear ho Sc;have c:=hC;obtain⟨q0,q1,q2,r0,r1,r2,r3,s0,s1⟩:=hC;by_cases hf:f=0
  ·subst hf;rw[if_pos rfl] at hR;obtain⟨n,Fq,Hq,Sc,JE⟩:=HK.out rfl;dsimp only at Hq Sc JE;have HP:Hid (∀ W:World,(∀ W',Below W.heap.size W W'->Yd W')->Calls p_ 136 #[.agg #[.string rk,.string rv]] W fun e w'=>e=.returned (.tuple #[mV (ud rv n),pa (ud rv n).2.2.2.2])/\Below W.heap.size W w'):=aa (by rw[Hq];exact fun W hL=>yN name n rv W (by omega) Fq (by omega) hL);have Nr:gd rk=n:=by rw[Hq];exact SJ name Fq
   have Zv:rk.size<=1000:=by rw[Hq,pS];omega
   rw[Nr] at hR;have rp:Hid ((ud rv n).2.2.2.2=0->(ud rv n).1=n/\0<=(ud rv n).2.1/\(ud rv n).2.1<=9):=aa (fun he=>by
    rcases oB rv n with⟨t,u,d,e,hm,_⟩|⟨e,_⟩
    ·rw[e];exact⟨rfl,P1 _,by have:=hm.1;show(t:Int)<=9;omega⟩
    ·rw[e] at he;cases he)
   have Tc:=aa bX;have Qt:=aa Sc;clear Nr Hq Sc HK JE;generalize ud rv n=m at *;obtain⟨mk,mt,mu,md,em⟩:=m;dsimp only at hR HP rp;have HR:=aa hR;clear hR;go_wp2_with (fail)
   go_at_call 183
   refine HF.out.mono ?_;rintro e w2 ⟨rfl,ha⟩;obtain⟨S2,qc,kp⟩:=HO.out.act ha;have Wl:=a_ w2 (MX rk rv);have Km:=aa (HC.out.yd kp);have Hi:=aa (Km.out.on Wl);clear q0 q1 q2 r0 r1 r2 r3 s0 s1;obtain⟨q0,q1,q2,r0,r1,r2,r3,s0,s1⟩:=Hi.out;have Rn:=(qc.ow b2 (.inr (.inr rfl))).2.2.1;have La:w2.heap.size≠b2:=by omega
   have PM:=((qc.on Wl).ow b2 (.inr (.inr rfl))).2.2.2;have te:(w2.setCell ⟨b2,0,none⟩ (.string (rk++⟨#[0]⟩))).heap.size=w2.heap.size:=by simp
   have Cf:=aa ((qc.set Ga.out (b:=b2) (.inr (.inr rfl)) 0 (.string (rk++⟨#[0]⟩))).box #[v_ rk,v_ rv] 142);rw[te] at Cf;have Lm:=aa ((Km.out.next xp.out.1 xp.out.2 (rk++⟨#[0]⟩)).on (a_ _ (MX rk rv)));obtain⟨u0,u1,-⟩:=Fl (w2.setCell ⟨b2,0,none⟩ (.string (rk++⟨#[0]⟩))) (MX rk rv) (n:=w2.heap.size) (by simp) rfl;clear ha qc kp Wl te;rw[Tc.out];go_wp2_with (fail)
   go_at_call 136
   refine(HP.out _ (fun W' vu=>Cf.out.qv.la W' (vu.mono Cf.out.qv.pv.lo))).mono ?_;rintro e w4 ⟨rfl,Eb⟩;have Ve:=a_ w4 (EX mk mt mu md);have Rw:=aa (Cf.out.on Eb);have Ew:=aa (Lm.out.on Eb);have yi:=aa (Rw.out.box #[i_ .i64 mk,i_ .i64 mt,i_ .i64 mu,v_ md] 108);have Qq:=aa (Ew.out.on Ve);clear q0 q1 q2 r0 r1 r2 r3 s0 s1;obtain⟨q0,q1,q2,r0,r1,r2,r3,s0,s1⟩:=Qq.out;replace u0:=aA Ve (aA Eb u0);replace u1:=aA Ve (aA Eb u1);have tt:=(yi.out.ow (w.heap.size+1) (.inr (.inr (.inr (.inl rfl))))).2.2.2;have MH:=(yi.out.ow w4.heap.size (.inl rfl)).2.2.2;clear PM Eb Ve;have hR:=HR.out;clear HR;by_cases Oj:em=0
   ·subst Oj;rw[if_pos rfl] at hR;have iq:=aa bX;obtain⟨TD,BP,CP⟩:=rp.out rfl;generalize yl:(n:Int)=nn at *;subst TD;have a0J:0<=mk:=by omega
    have a0K:mk<=999999:=by omega
    clear yl;clear rp;by_cases hu:now<mu
    ·rw[if_pos hu] at hR;have HR:=aa hR;have d1:decide (now<mu)=true:=by simpa using hu
     clear hR hu;rw[iq.out];go_wp2_with (fail)
     go_roundg k
     case measure=>omega
     case rel=>exact⟨S2,ba,Ua,cX rk,yi.out.less (fun b hb=>.inr (.inr hb)),Qt.out,HR.out,Qq.out⟩
    ·rw[if_neg hu] at hR;have d1:decide (now<mu)=false:=by simpa using hu
     clear hu;by_cases Mr:mt<tries
     ·rw[if_pos Mr] at hR;have d2:decide (mt<tries)=true:=by simpa using Mr
      have mg:G0.wrap (mt+1)=mt+1:=by rw[YZ];omega
      have Ww:=aa (fun (S1:Nat->Prop) W (hW:QV W B wb S1 P since ba Ua)=>mI name mk (mt+1) na md W hW (by omega) (by omega) (by omega));subst hR;clear Mr;rw[iq.out];go_wp2_with (fail)
      have pq:=aa (Rw.out.box #[i_ .i64 mk,i_ .i64 (mt+1),i_ .i64 na,v_ md] 108);have Ut:=aa (Ew.out.on (a_ w4 (EX mk (mt+1) na md)));have v0:=aC w4 #[i_ .i64 mk,i_ .i64 (mt+1),i_ .i64 na,v_ md] 108 0;have v1:=aC w4 #[i_ .i64 mk,i_ .i64 (mt+1),i_ .i64 na,v_ md] 108 1;have v2:=aC w4 #[i_ .i64 mk,i_ .i64 (mt+1),i_ .i64 na,v_ md] 108 2;have v3:=aC w4 #[i_ .i64 mk,i_ .i64 (mt+1),i_ .i64 na,v_ md] 108 3;clear q0 q1 q2 r0 r1 r2 r3 s0 s1 u0 u1 tt MH;obtain⟨q0,q1,q2,r0,r1,r2,r3,s0,s1⟩:=Ut.out;have tt:=(pq.out.ow (w.heap.size+1) (.inr (.inr (.inr (.inl rfl))))).2.2.2;have Ba:=(pq.out.ow (w.heap.size+1) (.inr (.inr (.inr (.inl rfl))))).2.2.1;have QN:=(pq.out.ow w4.heap.size (.inl rfl)).2.2.1;clear Qq yi Ew Rw;generalize (w4.alloc (EX mk (mt+1) na md))=W5 at *;generalize w4.heap.size=mb at *;clear q0 q1 q2 s0 s1
      go_region_with (first
       | (go_at_call 118;refine(Ww.out _ _ (pq.out.qv.on (r_ _ _).drew)).mono ?_;rintro e w6 ⟨rfl,ha⟩;obtain⟨S6,Gq,mo⟩:=(pq.out.on (r_ _ _).drew).act ha;have v0':w6.cell? ⟨mb,0,none⟩=_:=(b_ (mo mb (.inl rfl))).trans v0;have v1':w6.cell? ⟨mb,1,none⟩=_:=(b_ (mo mb (.inl rfl))).trans v1;have v2':w6.cell? ⟨mb,2,none⟩=_:=(b_ (mo mb (.inl rfl))).trans v2;have v3':w6.cell? ⟨mb,3,none⟩=_:=(b_ (mo mb (.inl rfl))).trans v3;have r0':w6.cell? ⟨w.heap.size+1,0,none⟩=_:=(b_ (mo (w.heap.size+1) (.inr (.inr (.inr (.inl rfl)))))).trans r0;have r1':w6.cell? ⟨w.heap.size+1,1,none⟩=_:=(b_ (mo (w.heap.size+1) (.inr (.inr (.inr (.inl rfl)))))).trans r1;have r2':w6.cell? ⟨w.heap.size+1,2,none⟩=_:=(b_ (mo (w.heap.size+1) (.inr (.inr (.inr (.inl rfl)))))).trans r2;have r3':w6.cell? ⟨w.heap.size+1,3,none⟩=_:=(b_ (mo (w.heap.size+1) (.inr (.inr (.inr (.inl rfl)))))).trans r3;have fz6:=(Gq.ow (w.heap.size+1) (.inr (.inr (.inr (.inl rfl))))).2.2.2;have lj:=aa Gq;clear ha Gq mo)
       | fail)
      all_goals
       go_wp2;exact bodyPost_ret (v:=.tuple #[mV (mk,mt+1,na,md,mK ba name mk (mt+1) na md),pa (mK ba name mk (mt+1) na md)]) (by simp[results,results112,go_sem,r0',r1',r2',r3']) rfl ⟨rfl,((((lj.out.set Ga.out (b:=w.heap.size+1) (.inr (.inr (.inr (.inl rfl)))) 0 _).set Ga.out (b:=w.heap.size+1) (.inr (.inr (.inr (.inl rfl)))) 1 _).set Ga.out (b:=w.heap.size+1) (.inr (.inr (.inr (.inl rfl)))) 2 _).set Ga.out (b:=w.heap.size+1) (.inr (.inr (.inr (.inl rfl)))) 3 _).done⟩
     ·rw[if_neg Mr] at hR;have d2:decide (mt<tries)=false:=by simpa using Mr
      have NK:=aa (fun (S1:Nat->Prop) W (hW:QV W B wb S1 P since ba Ua)=>zJh rk Ca md W hW (by unfold maxLen;omega) hd);clear Mr;generalize iH P ba Ua rk Ca md=bq at *;obtain⟨bf,CM,DM⟩:=bq;dsimp only at hR NK;by_cases SH:bf=0
      ·subst SH;rw[if_pos rfl] at hR;have HR:=aa hR;have Gw:=aa bX;clear hR;rw[iq.out];go_wp2_with (fail)
       go_at_call 184
       refine(NK.out _ _ yi.out.qv).mono ?_;rintro e w6 ⟨rfl,ha⟩;obtain⟨S6,Gq,mo⟩:=yi.out.act ha;have lj:=aa Gq;have Rq:=aa (Qq.out.yd fun b hb=>mo b (.inr (.inr hb)));clear q0 q1 q2 r0 r1 r2 r3 s0 s1 u0 u1 tt MH;obtain⟨q0,q1,q2,r0,r1,r2,r3,s0,s1⟩:=Rq.out;have tt:=(lj.out.ow (w.heap.size+1) (.inr (.inr (.inr (.inl rfl))))).2.2.2;clear ha Gq mo;rw[Gw.out];go_wp2_with (fail)
       go_roundg k
       case measure=>omega
       case rel=>exact⟨S6,CM,DM,cX rk,lj.out.less (fun b hb=>.inr (.inr hb)),Qt.out,HR.out,Rq.out⟩
      ·rw[if_neg SH] at hR;subst hR;have Gw:=aa (bJ SH);clear SH;rw[iq.out];go_wp2_with (fail)
       go_at_call 184
       refine(NK.out _ _ yi.out.qv).mono ?_;rintro e w6 ⟨rfl,ha⟩;obtain⟨S6,Gq,mo⟩:=yi.out.act ha;have lj:=aa Gq;have Rq:=aa (Qq.out.yd fun b hb=>mo b (.inr (.inr hb)));clear q0 q1 q2 r0 r1 r2 r3 s0 s1 u0 u1 tt MH;obtain⟨q0,q1,q2,r0,r1,r2,r3,s0,s1⟩:=Rq.out;have tt:=(lj.out.ow (w.heap.size+1) (.inr (.inr (.inr (.inl rfl))))).2.2.2;clear ha Gq mo;rw[Gw.out];go_wp2_with (fail)
       exact bodyPost_ret (v:=.tuple #[mV (Xe bf),pa bf]) (by simp[results,results112,go_sem,r0,r1,r2,r3,Gw.out]) rfl ⟨rfl,((((lj.out.set Ga.out (b:=w.heap.size+1) (.inr (.inr (.inr (.inl rfl)))) 0 _).set Ga.out (b:=w.heap.size+1) (.inr (.inr (.inr (.inl rfl)))) 1 _).set Ga.out (b:=w.heap.size+1) (.inr (.inr (.inr (.inl rfl)))) 2 _).set Ga.out (b:=w.heap.size+1) (.inr (.inr (.inr (.inl rfl)))) 3 _).done⟩
   ·rw[if_neg Oj] at hR;subst hR;have iq:=aa (bJ Oj);clear Oj rp;rw[iq.out];go_wp2_with (fail)
    exact bodyPost_ret (v:=.tuple #[mV (Xe em),pa em]) (by simp[results,results112,go_sem,r0,r1,r2,r3,iq.out]) rfl ⟨rfl,((((yi.out.set Ga.out (b:=w.heap.size+1) (.inr (.inr (.inr (.inl rfl)))) 0 _).set Ga.out (b:=w.heap.size+1) (.inr (.inr (.inr (.inl rfl)))) 1 _).set Ga.out (b:=w.heap.size+1) (.inr (.inr (.inr (.inl rfl)))) 2 _).set Ga.out (b:=w.heap.size+1) (.inr (.inr (.inr (.inl rfl)))) 3 _).done⟩
  ·rw[if_neg hf] at hR;subst hR;have HE:=aa (bJ hf);clear hf HK c q0 q1 q2 r0 r1 r2 r3;go_wp2_with (first
    | (go_at_call 183;refine HF.out.mono ?_;rintro e w2 ⟨rfl,ha⟩;obtain⟨S2,qc,kp⟩:=HO.out.act ha;have Wl:=a_ w2 (MX rk rv);have Kc:=aa (qc.on Wl);have Hi:=aa ((HC.out.yd kp).on Wl);clear s0 s1;obtain⟨q0,q1,q2,r0,r1,r2,r3,s0,s1⟩:=Hi.out;have tt:=(Kc.out.ow (w.heap.size+1) (.inr (.inl rfl))).2.2.2;clear ha qc kp Wl;rw[HE.out])
    | fail)
   exact bodyPost_ret (v:=.tuple #[mV (Xe f),pa f]) (by simp[results,results112,go_sem,r0,r1,r2,r3,HE.out]) rfl ⟨rfl,((((Kc.out.set Ga.out (b:=w.heap.size+1) (.inr (.inl rfl)) 0 _).set Ga.out (b:=w.heap.size+1) (.inr (.inl rfl)) 1 _).set Ga.out (b:=w.heap.size+1) (.inr (.inl rfl)) 2 _).set Ga.out (b:=w.heap.size+1) (.inr (.inl rfl)) 3 _).done⟩
end
section
open Go.RowKit Go.Joins Go.Shelf Go.WideShapes
attribute [local go_sem ↓] Go.wp_at_zero Go.wp_at_succ
def qM (m:Xg):List Value:=[.int .i64 m.1,.int .i64 m.2.1,.int .i64 m.2.2.1,.string m.2.2.2.1]
theorem zHG (m:Xg):∀ u∈qM m,u.oneCell'=true:=by
 intro u hu;simp only[qM,List.mem_cons,List.not_mem_nil,or_false] at hu;rcases hu with rfl|rfl|rfl|rfl<;>rfl
def Uf (w:World) (B:Nat) (v:Value) (l:List Xg):Prop:=w.ownsRow B 108 4 v l.length (l.flatMap qM)
theorem zJL:(Tryz.prog.info? 108).map (fun i=>(i.zero,i.size,i.bytes))=some (some (.agg #[.int .i64 0,.int .i64 0,.int .i64 0,.string ⟨#[]⟩]),4,40):=by kernel_rfl
theorem zIS {l:List Xg} {m:Xg} (h:w.ownsRow B 108 4 v (l.length+1) (l.flatMap qM++qM m)):Uf w B v (l++[m]):=by
 unfold Uf;rw[List.flatMap_append,List.length_append];simpa using h
def zNf (w w':World) (v:Value) (B wb:Nat) (S:Nat->Prop) (P:ta) (since:Sn) (ba:List ma) (ga:ta) (l:List Xg):Prop:=
 ∃ S',Uf w' w.heap.size v l/\QV w' B wb S' P since ba ga/\aG w w' B S S'/\∀ k,v.ownBlock=some k->¬S' k
def rX (w w':World) (e:Ending) (B wb:Nat) (S:Nat->Prop) (P:ta) (since:Sn) (ba:List ma) (r:Nat×List Xg×ta):Prop:=
 (r.1=0->∃ v,e=.returned (.tuple #[v,.nilIface])/\zNf w w' v B wb S P since ba r.2.2 r.2.1)/\(r.1≠0->e=.returned (.tuple #[.slice none 0 0,pa r.1])/\Hb w w' B wb S P since ba r.2.2)
theorem rX.bad {l:List Xg} (hf:f≠0) (he:ev=pa f) (ha:Hb w w' B wb S P since ba ga):rX w w' (.returned (.tuple #[.slice none 0 0,ev])) B wb S P since ba (f,l,ga):=
 ⟨fun h=>absurd h hf,fun _=>⟨by rw[he],ha⟩⟩
theorem zG6 (hk:k<l.length) (h:eN (l.take k)=0):eN (l.take (k+1))=(ud l[k].2 (gd l[k].1)).2.2.2.2:=by
 induction l generalizing k with
 | nil=>cases hk
 | cons r l ih=>
  cases k with
  | zero=>
   show(if (ud r.2 (gd r.1)).2.2.2.2=0 then 0 else (ud r.2 (gd r.1)).2.2.2.2)=_;split
   ·rename_i e;exact e.symm
   ·rfl
  | succ k=>
   have h':(if (ud r.2 (gd r.1)).2.2.2.2=0 then eN (l.take k) else (ud r.2 (gd r.1)).2.2.2.2)=0:=h;show(if (ud r.2 (gd r.1)).2.2.2.2=0 then eN (l.take (k+1)) else (ud r.2 (gd r.1)).2.2.2.2)=_;split at h'
   ·rename_i e;rw[if_pos e];exact ih (by simpa using hk) h'
   ·rename_i e;exact absurd h' e
theorem zEF (hk:k<l.length) (h:eN (l.take k)=0) (hb:(ud l[k].2 (gd l[k].1)).2.2.2.2≠0):eN l=(ud l[k].2 (gd l[k].1)).2.2.2.2:=by
 induction l generalizing k with
 | nil=>cases hk
 | cons r l ih=>
  cases k with
  | zero=>show(if (ud r.2 (gd r.1)).2.2.2.2=0 then eN l else (ud r.2 (gd r.1)).2.2.2.2)=_;rw[if_neg (by simpa using hb)];rfl
  | succ k=>
   have h':(if (ud r.2 (gd r.1)).2.2.2.2=0 then eN (l.take k) else (ud r.2 (gd r.1)).2.2.2.2)=0:=h;show(if (ud r.2 (gd r.1)).2.2.2.2=0 then eN l else (ud r.2 (gd r.1)).2.2.2.2)=_;split at h'
   ·rename_i e;rw[if_pos e];exact ih (by simpa using hk) h' (by simpa using hb)
   ·rename_i e;exact absurd h' e
theorem zF1 (hk:k<l.length):jQ (l.take (k+1))=jQ (l.take k)++[ud l[k].2 (gd l[k].1)]:=by
 unfold jQ;rw[List.take_succ_eq_append_getElem hk,List.map_append];rfl
theorem rX.Ak (hf:eN l=0) (ho:Uf w' w.heap.size v (jQ l)) (hq:QV w' B wb S' P since ba ga) (hs:aG w w' B S S') (hn:∀ k,v.ownBlock=some k->¬S' k):rX w w' (.returned (.tuple #[v,.nilIface])) B wb S P since ba (if eN l=0 then (0,jQ l,ga) else (eN l,[],ga)):=by
 rw[if_pos hf];exact⟨fun _=>⟨v,rfl,S',ho,hq,hs,hn⟩,fun h=>absurd rfl h⟩
theorem rX.Xs (hl:eN l=f) (hf:f≠0) (he:ev=pa f) (ha:Hb w w' B wb S P since ba ga):rX w w' (.returned (.tuple #[.slice none 0 0,ev])) B wb S P since ba (if eN l=0 then (0,jQ l,ga) else (eN l,[],ga)):=by
 rw[if_neg (by rw[hl];exact hf),hl];exact .bad hf he ha
theorem zCk (name:ByteArray) (w:World) (h:QV w B wb S P since ba ga) (hn:name.size<=1000):
  Calls p_ 67 #[.pointer (some ⟨wb,0,none⟩),.string name] w fun e w'=>rX w w' e B wb S P since ba (cY P ba ga name):=by
 have n1:=bM 77;obtain⟨i0,Qb,Xb,We,ze⟩:=info_parts zJL;have Ga:=aa h.pv.lo;have HF:=aa (kK name w h hn);have HQ:=aa h;have rj:Hid ((aN P ba ga name).2.2.2=0->bK name.data.toList=true):=aa (fun he=>by unfold aN at he;split at he;assumption;cases he);unfold cY;generalize aN P ba ga name=q at *;generalize bC ba ga name=Ua at *;obtain⟨qx,qy,qd,er⟩:=q;dsimp only at HF rj ⊢;by_cases h1:er=0
 ·subst h1;rw[if_pos rfl];have ni:=rj.out rfl;have Tc:=aa bX;have Wz:Hid (∀ r∈(aF P ba (aZ name,Jb name)).take 53,∃ n,n<=999999/\r.1=Ta name n/\r.2.size<=40):=aa (fun r hr=>by
   have hm:=List.mem_of_mem_take hr;obtain⟨a1,a2⟩:=tB HQ.out.ok (aZ name,Jb name) r hm;obtain⟨n,yl,e⟩:=IT ni a1 (AJ HQ.out.pv.ok.Gm hm);exact⟨n,yl,e,a2⟩)
  have UO:((aF P ba (aZ name,Jb name)).take 53).length<=53:=by rw[XY];omega
  clear rj h;by_cases El:dL (aF P ba (aZ name,Jb name)) Ua (aZ name,Jb name) 53=0
  ·rw[if_pos El];have Pf:=aa (fun (S1:Nat->Prop) (W:World) (hW:QV W B wb S1 P since ba Ua)=>zDp (aZ name,Jb name) 53 W hW (by omega) El);rw[show((53:Int).toNat)=53 from rfl] at Pf;clear El ni;generalize eP (aF P ba (aZ name,Jb name)) Ua (aZ name,Jb name) 53=Nh at *;generalize (aF P ba (aZ name,Jb name)).take 53=l at *;generalize hr:(if eN l=0 then (0,jQ l,Nh) else (eN l,[],Nh))=r;have HR:=aa hr;clear hr;go_enter func67,ntmps67;go_wp2_with (first
    | (go_at_call 60;refine HF.out.mono ?_;rintro e w1 ⟨rfl,ha⟩;obtain⟨S1,Qa,Na⟩:=ha;have Wc:=a_ w1 (CX qx qy qd);have Kb:=aa (Qa.on Wc);have tc:=aa (Na.trans (.on Qa.pv.lo Wc));clear Qa Na Wc;rw[Tc.out])
    | (go_at_call 135;refine(pM name _ (by omega)).mono ?_;rintro e w2 ⟨rfl,za⟩;have Cg:=aa (Kb.out.on za);have yf:=aa (tc.out.trans (.on Kb.out.pv.lo za));clear za)
    | (go_at_call 65;refine(Pf.out _ _ Cg.out).mono ?_;rintro e w3 ⟨v,rfl,ha⟩;obtain⟨ao,cap,S3,rfl,il,Aj,hh,Bl,Tf,Ct⟩:=ha;have Lj:=aa Bl;have Sh:=aa (yf.out.trans Tf);have HH:=aa hh;have xy:=(yf.out.trans Tf).Ia.size;clear Bl Tf Ct hh)
    | fail)
   go_loopw [10,36] (fun v i wr=>∃ k:Nat,k<=l.length/\i=.int .i64 k/\Uf wr w3.heap.size v (jQ (l.take k))/\Below w3.heap.size w3 wr/\eN (l.take k)=0) (fun _ i _=>l.length-(intOf i).toNat)
   case atStart=>exact⟨0,OZ _,rfl,World.ownsRow_nil _ _ _ _,r_ _ _,rfl⟩
   case round=>
    obtain⟨k,hk,rfl,ya,hB,hM⟩:=hrel;by_cases Aa:k<l.length
    ·rcases HH.out with e|⟨b,off,rfl,dj⟩
     ·rw[e] at Aa;cases Aa
     obtain⟨c0,c1⟩:=gW hB dj k Aa;have lk:(k:Int)<(l.length:Int):=by omega
     obtain⟨n,Fq,ek,Ay⟩:=Wz.out l[k] (MZ Aa);have Nr:gd l[k].1=n:=by rw[ek];exact SJ name Fq
     have HP:Hid (∀ W:World,(∀ W',Below W.heap.size W W'->Yd W')->Calls p_ 136 #[.agg #[.string l[k].1,.string l[k].2]] W fun e w'=>e=.returned (.tuple #[mV (ud l[k].2 (gd l[k].1)),pa (ud l[k].2 (gd l[k].1)).2.2.2.2])/\Below W.heap.size W w'):=aa (by rw[Nr,ek];exact fun W hL=>yN name n l[k].2 W (by omega) Fq (by omega) hL);have AA:=aa (zG6 Aa hM);have rp:=aa (zEF Aa hM);have Zt:=aa (zF1 Aa);have Qh:=aa ya;have HB:=aa hB;have hlen:(jQ (l.take k)).length<=53:=by unfold jQ;rw[List.length_map,XY];omega
     clear Nr ek hM ya hB Ay Wz dj;generalize ud l[k].2 (gd l[k].1)=m at *;generalize jQ (l.take k)=out at *;generalize l[k].1=rk at *;generalize l[k].2=rv at *;obtain⟨mk,mt,mu,md,em⟩:=m;dsimp only at HP AA rp Zt;have Xj:=aa (fun (W W':World) (h1:Below w3.heap.size w3 W) (h2:Below W.heap.size W W')=>Lj.out.la W' ((h1.trans (h2.mono h1.size)).mono Lj.out.pv.lo));by_cases Oj:em=0
     ·subst Oj;have iq:=aa bX;go_wp2_with (first
       | (go_at_call 136;have Wl:=a_ wr (MX rk rv);have Md:=aa (HB.out.trans (Wl.mono HB.out.size));refine(HP.out _ (fun W' vu=>Xj.out _ _ Md.out vu)).mono ?_;rintro e w5 ⟨rfl,qe⟩;have Wf:=aa (Md.out.trans (qe.mono Md.out.size));have Ve:=a_ w5 (EX mk mt mu md);have bd:=aa (bQ (bQ (bQ Qh.out Wl) qe) Ve);have Pe:=Wf.out.trans (Ve.mono Wf.out.size);clear Wl qe Ve;rw[iq.out])
       | (at_builtin;refine oS rfl _ _ 133 rfl w3.heap.size 108 i0 _ 4 40 underlying133 Qb Xb We ze rfl (by omega) (w5.alloc (EX mk mt mu md)) (qM (mk,mt,mu,md,0)) rfl (zHG _) _ out.length (out.flatMap qM) bd.out rfl (by rw[show(w5.alloc (EX mk mt mu md)).heap.size=w5.heap.size+1 by simp];rfl) (by omega) (by omega) Pe.size ?_;intro v1 w7 mc Af;have Gi:Hid (Below w3.heap.size w3 w7):=(by first|exact Af w3 Pe|exact Af w3 (Pe.trans (below_draws _ _ _)));have vn:Hid (Uf w7 w3.heap.size v1 (out++[(mk,mt,mu,md,0)])):=zIS mc;clear mc Af)
       | fail)
      exact⟨⟨k+1,by omega,by go_num,by rw[Zt.out];exact vn.out,Gi.out,AA.out⟩,by simp[intOf];omega⟩
     ·have iq:=aa (bJ Oj);have CA:=aa Oj;clear Oj;go_wp2_with (first
       | (go_at_call 136;have Wl:=a_ wr (MX rk rv);have Md:=aa (HB.out.trans (Wl.mono HB.out.size));refine(HP.out _ (fun W' vu=>Xj.out _ _ Md.out vu)).mono ?_;rintro e w5 ⟨rfl,qe⟩;have Wf:=aa (Md.out.trans (qe.mono Md.out.size));have Ve:=a_ w5 (EX mk mt mu md);have Pe:=Wf.out.trans (Ve.mono Wf.out.size);clear Wl qe Ve;rw[iq.out])
       | fail)
      go_ret2;refine HR.out▸?_;exact .Xs (rp.out CA.out) CA.out iq.out.symm ⟨_,Lj.out.on Pe,Sh.out.trans (.on Lj.out.pv.lo Pe)⟩
    ·have ek:k=l.length:=by omega
     subst ek;have Za:¬(l.length:Int)<(l.length:Int):=by omega
     rw[List.take_length] at ya hM;have HM:=aa hM;have bd:=aa ya;clear hM ya;go_wp2;go_ret2;refine HR.out▸?_;exact .Ak HM.out (ownsRow_le bd.out xy) (Lj.out.on hB) (Sh.out.trans (.on Lj.out.pv.lo hB)) (fun k e hk=>by have h1:=(l_ bd.out k e).1;have h2:=Lj.out.pv.lt hk;omega)
  ·rw[if_neg El];have Pf:=aa (fun (S1:Nat->Prop) (W:World) (hW:QV W B wb S1 P since ba Ua)=>zBd (aZ name,Jb name) 53 W hW (by omega) El);generalize eP (aF P ba (aZ name,Jb name)) Ua (aZ name,Jb name) 53=Nh at *;generalize dL (aF P ba (aZ name,Jb name)) Ua (aZ name,Jb name) 53=f at *;have Bd:=aa (bJ El);have Yq:=aa El;clear El ni;go_enter func67,ntmps67;go_wp2_with (first
    | (go_at_call 60;refine HF.out.mono ?_;rintro e w1 ⟨rfl,ha⟩;obtain⟨S1,Qa,Na⟩:=ha;have Wc:=a_ w1 (CX qx qy qd);have Kb:=aa (Qa.on Wc);have tc:=aa (Na.trans (.on Qa.pv.lo Wc));clear Qa Na Wc;rw[Tc.out])
    | (go_at_call 135;refine(pM name _ (by omega)).mono ?_;rintro e w2 ⟨rfl,za⟩;have Cg:=aa (Kb.out.on za);have yf:=aa (tc.out.trans (.on Kb.out.pv.lo za));clear za)
    | (go_at_call 65;refine(Pf.out _ _ Cg.out).mono ?_;rintro e w3 ⟨rfl,ha⟩;have HA:=aa (Hb.after yf.out ha);clear ha;rw[Bd.out])
    | fail)
   go_ret2;exact .bad Yq.out Bd.out.symm HA.out
 ·rw[if_neg h1];have Tc:=aa (bJ h1);have Wd:=aa h1;clear h1 rj;go_enter func67,ntmps67;go_wp2_with (first
   | (go_at_call 60;refine HF.out.mono ?_;rintro e w1 ⟨rfl,ha⟩;have Wc:=a_ w1 (CX qx qy qd);have HA:=aa (ha.post Wc);clear ha Wc;rw[Tc.out])
   | fail)
  go_ret2;exact .bad Wd.out Tc.out.symm HA.out
end
section
open Go.RowKit Go.Joins
structure VB (w:World) (B wb rb:Nat) (S G:Nat->Prop) (P:ta) (since:Sn) (ba:List ma) (ga:ta) (Sa:List ma) (Wa:ta):Prop where
 pv:PV w B wb S P since ba ga
 rw:RW w rb G P since Sa Wa
 ap:∀ k,G k->¬S k
 lo:B<=rb
structure Fr (w w':World) (B rb:Nat) (S S':Nat->Prop):Prop where
 Ia:Below B w w'
 Ma:∀ j,j<w.heap.size->¬S j->j≠rb->w'.heap[j]?=w.heap[j]?/\¬S' j
theorem Fr.trans {w2:World} {S1 S2:Nat->Prop} (h:Fr w w1 B rb S S1) (h':Fr w1 w2 B rb S1 S2):Fr w w2 B rb S S2:=
 ⟨h.Ia.trans h'.Ia,fun j hj hn hr=>by
  obtain⟨a,b⟩:=h.Ma j hj hn hr;obtain⟨c,d⟩:=h'.Ma j (UY hj h.Ia.size) b hr;exact⟨c.trans a,d⟩⟩
theorem Fr.on (hB:B<=w.heap.size) (hb:Below w.heap.size w w'):Fr w w' B rb S S:=⟨hb.mono hB,fun j hj hn _=>⟨hb.block j hj,hn⟩⟩
theorem Fr.cell (h:Fr w w' B rb S S') {a:Addr} (hc:w.cell? a=some v) (hn:¬S a.block) (hr:a.block≠rb):w'.cell? a=some v:=
 (b_ (h.Ma a.block (World.block_lt_of_cell? _ _ hc) hn hr).1).trans hc
theorem VB.rbG (h:VB w B wb rb S G P since ba ga Sa Wa):G rb:=by
 obtain⟨ra,rc,ca,cc,sa,sc,h1,rfl,h2,h3,h4⟩:=h.rw;exact .inl rfl
theorem VB.Im (h:VB w B wb rb S G P since ba ga Sa Wa) (hp:PV w' B wb S' P since c2 r2) (hs:aG w w' B S S'):VB w' B wb rb S' G P since c2 r2 Sa Wa/\Fr w w' B rb S S':=
 ⟨⟨hp,h.rw.kept fun k hk=>(hs.Ma k (h.rw.lt hk) (h.ap k hk)).1,fun k hk=>(hs.Ma k (h.rw.lt hk) (h.ap k hk)).2,h.lo⟩,hs.Ia,fun j hj hn _=>hs.Ma j hj hn⟩
theorem VB.Qs {G':Nat->Prop} (h:VB w B wb rb S G P since ba ga Sa Wa) (hp:RW w' rb G' P since c2 r2) (hs:dV w w' B rb G G'):VB w' B wb rb S G' P since ba ga c2 r2/\Fr w w' B rb S S:=
 have lg:=h.ap rb h.rbG
 ⟨⟨h.pv.kept hs.Ia.size fun k hk=>hs.Ma k (h.pv.lt hk) (fun e=>lg (e▸hk)),hp,fun k hk hS=>hs.out k (h.pv.lt hS) (fun hG=>h.ap k hG hS) hk,h.lo⟩,hs.Ia,fun j hj hn hr=>⟨hs.Ma j hj hr,hn⟩⟩
end
section
open Go.RowKit Go.Joins Go.Shelf
structure TB (w:World) (B wb rb:Nat) (S G:Nat->Prop) (P:ta) (since:Sn) (ba:List ma) (ga:ta) (Sa:List ma) (Wa:ta):Prop where
 qv:QV w B wb S P since ba ga
 qr:QR w B rb G P since Sa Wa
 ap:∀ k,G k->¬S k
 av:∀ k,since.A k->k<w.heap.size/\¬G k
section
variable {w w':World} {B wb rb:Nat} {S S' G G':Nat->Prop} {P:ta} {since:Sn} {ba Sa c2:List ma} {ga Wa r2:ta}
theorem TB.vb (h:TB w B wb rb S G P since ba ga Sa Wa):VB w B wb rb S G P since ba ga Sa Wa:=⟨h.qv.pv,h.qr.rw,h.ap,h.qr.rl⟩
theorem TB.Im (h:TB w B wb rb S G P since ba ga Sa Wa) (hq:QV w' B wb S' P since c2 r2) (hs:aG w w' B S S'):TB w' B wb rb S' G P since c2 r2 Sa Wa/\Fr w w' B rb S S':=by
 obtain⟨hv,hf⟩:=h.vb.Im hq.pv hs;exact⟨⟨hq,⟨hv.rw,h.qr.ov,h.qr.ok,BZ h.qr.lo hs.Ia.size,h.qr.rl⟩,hv.ap,fun k hk=>⟨UY (h.av k hk).1 hs.Ia.size,(h.av k hk).2⟩⟩,hf⟩
theorem TB.view (h:TB w B wb rb S G P since ba ga Sa Wa) (ha:Hb w w' B wb S P since c2 r2):∃ S',TB w' B wb rb S' G P since c2 r2 Sa Wa/\Fr w w' B rb S S':=by
 obtain⟨S',hq,hs⟩:=ha;exact⟨S',h.Im hq hs⟩
theorem TB.Qs (h:TB w B wb rb S G P since ba ga Sa Wa) (hq:QR w' B rb G' P since c2 r2) (hs:dV w w' B rb G G'):TB w' B wb rb S G' P since ba ga c2 r2/\Fr w w' B rb S S:=by
 obtain⟨hv,hf⟩:=h.vb.Qs hq.rw hs;exact⟨⟨⟨hv.pv,h.qv.ok,fun W hW=>h.qv.la W (hs.Ia.trans hW)⟩,hq,hv.ap,fun k hk=>⟨UY (h.av k hk).1 hs.Ia.size,hs.out k (h.av k hk).1 (h.av k hk).2⟩⟩,hf⟩
theorem TB.ref (h:TB w B wb rb S G P since ba ga Sa Wa) (ha:Jc w w' B rb G P since c2 r2):∃ G',TB w' B wb rb S G' P since ba ga c2 r2/\Fr w w' B rb S S:=by
 obtain⟨G',hq,hs⟩:=ha;exact⟨G',h.Qs hq hs⟩
theorem TB.Yo (h:TB w B wb rb S G P since ba ga Sa Wa) (hp:PV w' B wb S' P since c2 r2) (hk:Rl P c2) (hs:aG w w' B S S'):TB w' B wb rb S' G P since c2 r2 Sa Wa/\Fr w w' B rb S S':=h.Im ⟨hp,hk,fun W hW=>h.qv.la W (hs.Ia.trans hW)⟩ hs
theorem TB.Tu (h:TB w B wb rb S G P since ba ga Sa Wa) (hr:RW w' rb G' P since c2 r2) (ov:Zk P c2 r2) (hk:Rl P c2) (hs:dV w w' B rb G G'):TB w' B wb rb S G' P since ba ga c2 r2/\Fr w w' B rb S S:=h.Qs ⟨hr,ov,hk,BZ h.qr.lo hs.Ia.size,h.qr.rl⟩ hs
theorem TB.on (h:TB w B wb rb S G P since ba ga Sa Wa) (hb:Below w.heap.size w w'):TB w' B wb rb S G P since ba ga Sa Wa:=⟨h.qv.on hb,h.qr.on hb,h.ap,fun k hk=>⟨UY (h.av k hk).1 hb.size,(h.av k hk).2⟩⟩
end
def zPt (w w':World) (B wb rb:Nat) (S:Nat->Prop) (P:ta) (since:Sn):Prop:=∃ S' G' Sa Wa,TB w' B wb rb S' G' P since Sa Wa Sa Wa/\Fr w w' B rb S S'
def fT (x:Vd):Prop:=x.s.size<=120/\x.t.size<=100/\-9223372036854775808<=x.a/\x.a<=9223372036854775807
theorem gF (f:Nat):pa f=if f=0 then Value.nilIface else .iface 77 (.int .i64 f):=rfl
end
section
open Go.RowKit Go.Joins Go.Shelf
attribute [local go_sem ↓] Go.wp_at_zero Go.wp_at_succ
theorem gZ (name:BA) (w:World) (h:QR w B rb G P since ba ga) (hn:name.size<=900):
  Calls p_ 61 #[.pointer (some ⟨rb,0,none⟩),.string name] w fun e w'=>e=.returned (.tuple #[qV (aN P ba ga name),.int .i64 ((aN P ba ga name).2.2.2:Nat)])/\Jc w w' B rb G P since ba (bC ba ga name):=by
 have HO:=aa ((nd.start h).box #[i_ .i64 0,i_ .i64 0,v_ ⟨#[]⟩] 118);have Ga:=aa h.lo;have No:(Hc name).size<=1000:=by rw[ZI];omega
 have dp:=aa (uU h.ok ga (Hc name));have Wj:=aa (fun W (hW:QR W B rb G P since ba ga)=>PT (Hc name) W hW No);obtain⟨r0,r1,r2,-⟩:=Nf w RX rfl rfl;clear h
 cases ni:bK name.data.toList with
 | false=>
  have eF:aN P ba ga name=(0,0,⟨#[]⟩,3):=by unfold aN;rw[ni];rfl
  have eL:bC ba ga name=ga:=by unfold bC;rw[ni];rfl
  rw[eF,eL];have Jl:=aa ni;clear ni eF eL dp Wj;go_enter func61,ntmps61;go_wp2_with (fail)
  (go_at_call 123;refine(rC name _).mono ?_;rintro e wN ⟨rfl,rfl⟩;rw[Jl.out])
  go_wp2_with (fail)
  exact bodyPost_ret (v:=.tuple #[qV (0,0,⟨#[]⟩,3),.int .i64 3]) (by simp[results,results61,go_sem]) rfl ⟨rfl,HO.out.done⟩
 | true=>
  have eL:bC ba ga name=Oe ba ga (Hc name):=by unfold bC;rw[ni];rfl
  have eF:aN P ba ga name=if (Rb ba ga P (Hc name)).2.2=0 then (if (Rb ba ga P (Hc name)).2.1 then Fm (Rb ba ga P (Hc name)).1 else (0,0,⟨#[]⟩,5)) else (0,0,⟨#[]⟩,(Rb ba ga P (Hc name)).2.2):=by unfold aN;rw[ni];rfl
  rw[eF,eL];have Jl:=aa ni;clear ni eF eL;rw[show Hc name=⟨#[113,47]⟩++name from rfl] at *;generalize Oe ba ga (⟨#[113,47]⟩++name)=Ua at *;generalize Rb ba ga P (⟨#[113,47]⟩++name)=gp at *;obtain⟨tx,is,er⟩:=gp;dsimp only at dp Wj ⊢;by_cases h0:er=0
  ·subst h0;rw[if_pos rfl]
   cases is with
   | false=>
    rw[if_neg (by simp)];go_enter func61,ntmps61;go_wp2_with (fail)
    (go_at_call 123;refine(rC name _).mono ?_;rintro e wN ⟨rfl,rfl⟩;rw[Jl.out])
    go_wp2_with (fail)
    (go_at_call 64;refine(Wj.out _ HO.out.qr).mono ?_;rintro e w2 ⟨rfl,ha⟩;obtain⟨G2,qc,kp⟩:=HO.out.act ha;have Kc:=aa qc;have fz:=(qc.ow w.heap.size (.inl rfl)).2.2.2;replace r0:=(b_ (kp w.heap.size (.inl rfl))).trans r0;replace r1:=(b_ (kp w.heap.size (.inl rfl))).trans r1;replace r2:=(b_ (kp w.heap.size (.inl rfl))).trans r2;clear ha qc kp)
    go_wp2_with (fail)
    exact bodyPost_ret (v:=.tuple #[qV (0,0,⟨#[]⟩,5),.int .i64 5]) (by simp[results,results61,go_sem,r0,r1,r2]) rfl ⟨rfl,(((Kc.out.set Ga.out (b:=w.heap.size) (.inl rfl) 0 _).set Ga.out (b:=w.heap.size) (.inl rfl) 1 _).set Ga.out (b:=w.heap.size) (.inl rfl) 2 _).done⟩
   | true=>
    rw[if_pos rfl];have MV:=aa (fun W=>zPh tx (by have:=dp.out;omega) W);generalize Fm tx=q at *;obtain⟨qx,qy,qd,eq⟩:=q;dsimp only at MV ⊢;go_enter func61,ntmps61;go_wp2_with (fail)
    (go_at_call 123;refine(rC name _).mono ?_;rintro e wN ⟨rfl,rfl⟩;rw[Jl.out])
    go_wp2_with (fail)
    (go_at_call 64;refine(Wj.out _ HO.out.qr).mono ?_;rintro e w2 ⟨rfl,ha⟩;obtain⟨G2,qc,kp⟩:=HO.out.act ha;have Kc:=aa qc;have fz:=(qc.ow w.heap.size (.inl rfl)).2.2.2;replace r0:=(b_ (kp w.heap.size (.inl rfl))).trans r0;replace r1:=(b_ (kp w.heap.size (.inl rfl))).trans r1;replace r2:=(b_ (kp w.heap.size (.inl rfl))).trans r2;clear ha qc kp)
    go_wp2_with (fail)
    (go_at_call 124;refine(MV.out _).mono ?_;rintro e w3 ⟨rfl,Ra⟩;have Cf:=aa (Kc.out.on Ra);clear fz;have fz:=(Cf.out.ow w.heap.size (.inl rfl)).2.2.2;replace ⟨r0,r1,r2⟩:=Fe Ra r0 r1 r2;clear Ra)
    go_wp2_with (fail)
    exact bodyPost_ret (v:=.tuple #[qV (qx,qy,qd,eq),.int .i64 (eq:Nat)]) (by simp[results,results61,go_sem,r0,r1,r2]) rfl ⟨rfl,(((Cf.out.set Ga.out (b:=w.heap.size) (.inl rfl) 0 _).set Ga.out (b:=w.heap.size) (.inl rfl) 1 _).set Ga.out (b:=w.heap.size) (.inl rfl) 2 _).done⟩
  ·rw[if_neg h0];have d0:decide (0<(er:Int))=true:=decide_eq_true (by omega);have d1:0<(er:Int):=by omega
   clear h0;go_enter func61,ntmps61;go_wp2_with (fail)
   (go_at_call 123;refine(rC name _).mono ?_;rintro e wN ⟨rfl,rfl⟩;rw[Jl.out])
   go_wp2_with (fail)
   (go_at_call 64;refine(Wj.out _ HO.out.qr).mono ?_;rintro e w2 ⟨rfl,ha⟩;obtain⟨G2,qc,kp⟩:=HO.out.act ha;have Kc:=aa qc;have fz:=(qc.ow w.heap.size (.inl rfl)).2.2.2;replace r0:=(b_ (kp w.heap.size (.inl rfl))).trans r0;replace r1:=(b_ (kp w.heap.size (.inl rfl))).trans r1;replace r2:=(b_ (kp w.heap.size (.inl rfl))).trans r2;clear ha qc kp)
   go_wp2_with (fail)
   exact bodyPost_ret (v:=.tuple #[qV (0,0,⟨#[]⟩,er),.int .i64 (er:Nat)]) (by simp[results,results61,go_sem,r0,r1,r2]) rfl ⟨rfl,(((Kc.out.set Ga.out (b:=w.heap.size) (.inl rfl) 0 _).set Ga.out (b:=w.heap.size) (.inl rfl) 1 _).set Ga.out (b:=w.heap.size) (.inl rfl) 2 _).done⟩
theorem rO (name:BA) (x y:Int) (d:BA) (w:World) (h:QR w B rb G P since ba ga) (hn:name.size<=900) (hd:d.size<=1000):
  Calls p_ 103 #[.pointer (some ⟨rb,0,none⟩),.string name,.agg #[.int .i64 x,.int .i64 y,.string d]] w fun e w'=>e=.returned (.int .i64 (rA ba name x y d:Nat))/\Jc w w' B rb G P since (qL ba name x y d) ga:=by
 have HO:=aa ((nd.start h).box #[i_ .i64 x,i_ .i64 y,v_ d] 118);have No:(Hc name).size<=1000:=by rw[ZI];omega
 have HT:=aa (fun W=>zOt x y d hd W);have HP:=aa (fun (v:BA) W (hW:QR W B rb G P since ba ga)=>lO ⟨Hc name,v,false⟩ W hW No);rw[show Hc name=⟨#[113,47]⟩++name from rfl] at HP No;unfold rA qL;rw[show Hc name=⟨#[113,47]⟩++name from rfl];clear h;generalize mO x y d=t at *;obtain⟨tx,et⟩:=t;dsimp only at HT ⊢;by_cases h0:et=0
 ·subst h0;rw[if_pos rfl,if_pos rfl];go_enter func103,ntmps103;go_wp2_with (fail)
  (go_at_call 180;refine(HT.out _).mono ?_;rintro e w2 ⟨rfl,za⟩;have Kc:=aa (HO.out.on za);clear za)
  go_wp2_with (fail)
  (go_at_call 62;refine(HP.out _ _ Kc.out.qr).mono ?_;rintro e w3 ⟨rfl,ha⟩;have HA:=aa (Jc.after Kc.out.st ha);clear ha)
  go_wp2_with (fail)
  go_ret;exact⟨rfl,HA.out⟩
 ·rw[if_neg h0,if_neg h0];have d0:decide (0<(et:Int))=true:=decide_eq_true (by omega);have d1:0<(et:Int):=by omega
  clear h0;go_enter func103,ntmps103;go_wp2_with (fail)
  (go_at_call 180;refine(HT.out _).mono ?_;rintro e w2 ⟨rfl,za⟩;have Kc:=aa (HO.out.on za);clear za)
  go_wp2_with (fail)
  go_ret;exact⟨rfl,Kc.out.done⟩
theorem zD6 (name:ByteArray) (tries:Int) (Ca:ByteArray) (w:World) (h:QR w B rb G P since ba ga) (hn:name.size<=900) (hd:Ca.size<=900):
  Calls p_ 51 #[.pointer (some ⟨rb,0,none⟩),.string name,.int .i64 tries,.string Ca] w fun e w'=>e=.returned (.int .i64 ((fD P ba ga name tries Ca).1:Nat))/\Jc w w' B rb G P since (fD P ba ga name tries Ca).2.1 (fD P ba ga name tries Ca).2.2:=by
 have HF:=aa (gZ name w h hn);have Zf:=aa (fun (G1:Nat->Prop) (W:World) (hW:QR W B rb G1 P since ba (bC ba ga name))=>gZ Ca W hW hd);unfold fD;clear h;generalize aN P ba (bC ba ga name) Ca=q2 at *;generalize aN P ba ga name=q1 at *;generalize Lh:bC ba (bC ba ga name) Ca=Nh at *;generalize bC ba ga name=Ua at *;clear Lh;unfold qK;by_cases h1:q1.2.2.2=0
 ·rw[if_pos h1,if_neg (by omega)];have e0:((q1.2.2.2:Nat):Int)=0:=by omega
  rw[e0] at HF;clear h1 e0;go_enter func51,ntmps51;go_wp2_with (fail)
  (go_at_call 61;refine HF.out.mono ?_;rintro e w1 ⟨rfl,ha⟩;obtain⟨G1,Qa,Na⟩:=ha;have Ja:=a_ w1 (CX q1.1 q1.2.1 q1.2.2.1);have Kb:=aa (Qa.on Ja);have tc:=aa (Na.trans (.on Qa.lo Ja));clear Qa Na Ja)
  go_wp2_with (fail)
  go_ret;exact⟨rfl,G1,Kb.out,tc.out⟩
 ·rw[if_neg h1];by_cases h5:q1.2.2.2=5
  ·rw[if_pos h5,if_pos rfl];have e0:((q1.2.2.2:Nat):Int)=5:=by omega
   rw[e0] at HF;clear h1 e0 h5
   cases Bo:bc Ca name with
   | true=>
    have Rx:(Ca.toList==name.toList)=true:=Bo;rw[if_pos rfl];clear Bo;go_enter func51,ntmps51;go_wp2_with (fail)
    (go_at_call 61;refine HF.out.mono ?_;rintro e w1 ⟨rfl,ha⟩;obtain⟨G1,Qa,Na⟩:=ha;have Ja:=a_ w1 (CX q1.1 q1.2.1 q1.2.2.1);have Kb:=aa (Qa.on Ja);have tc:=aa (Na.trans (.on Qa.lo Ja));clear Qa Na Ja)
    go_wp2_with (fail)
    go_ret;exact⟨rfl,G1,Kb.out,tc.out⟩
   | false=>
    have Rx:(Ca.toList==name.toList)=false:=Bo;rw[if_neg (by simp)];clear Bo
    cases Ie:Ca.toList.isEmpty with
    | true=>
     have On:(Ca.toList==[])=true:=by rw[List.isEmpty_iff.1 Ie];rfl
     rw[if_pos rfl];clear Ie;go_enter func51,ntmps51;go_wp2_with (fail)
     (go_at_call 61;refine HF.out.mono ?_;rintro e w1 ⟨rfl,ha⟩;obtain⟨G1,Qa,Na⟩:=ha;have Ja:=a_ w1 (CX q1.1 q1.2.1 q1.2.2.1);have Kb:=aa (Qa.on Ja);have tc:=aa (Na.trans (.on Qa.lo Ja));clear Qa Na Ja)
     go_wp2_with (fail)
     (go_at_call 103;refine(rO name 0 tries Ca _ Kb.out hn (by omega)).mono ?_;rintro e w3 ⟨rfl,ha⟩;have HA:=aa (Jc.after tc.out ha);clear ha)
     go_wp2_with (fail)
     go_ret;exact⟨rfl,HA.out⟩
    | false=>
     have On:(Ca.toList==[])=false:=by cases e:Ca.toList with|nil=>rw[e] at Ie;cases Ie|cons a l=>rfl
     rw[if_neg (by simp)];clear Ie;by_cases h2:q2.2.2.2=0
     ·rw[if_pos h2];have e2:((q2.2.2.2:Nat):Int)=0:=by omega
      rw[e2] at Zf;clear h2 e2;go_enter func51,ntmps51;go_wp2_with (fail)
      (go_at_call 61;refine HF.out.mono ?_;rintro e w1 ⟨rfl,ha⟩;obtain⟨G1,Qa,Na⟩:=ha;have Ja:=a_ w1 (CX q1.1 q1.2.1 q1.2.2.1);have Kb:=aa (Qa.on Ja);have tc:=aa (Na.trans (.on Qa.lo Ja));clear Qa Na Ja)
      go_wp2_with (fail)
      (go_at_call 61;refine(Zf.out _ _ Kb.out).mono ?_;rintro e w2 ⟨rfl,ha⟩;obtain⟨G2,se,Ub⟩:=ha;have Cg:=aa se;have yf:=aa (tc.out.trans Ub);clear se Ub)
      go_wp2_with (fail)
      (go_at_call 103;refine(rO name 0 tries Ca _ Cg.out hn (by omega)).mono ?_;rintro e w3 ⟨rfl,ha⟩;have HA:=aa (Jc.after yf.out ha);clear ha)
      go_wp2_with (fail)
      go_ret;exact⟨rfl,HA.out⟩
     ·rw[if_neg h2];have d0:decide (0<(q2.2.2.2:Int))=true:=decide_eq_true (by omega);have d1:0<(q2.2.2.2:Int):=by omega
      clear h2;go_enter func51,ntmps51;go_wp2_with (fail)
      (go_at_call 61;refine HF.out.mono ?_;rintro e w1 ⟨rfl,ha⟩;obtain⟨G1,Qa,Na⟩:=ha;have Ja:=a_ w1 (CX q1.1 q1.2.1 q1.2.2.1);have Kb:=aa (Qa.on Ja);have tc:=aa (Na.trans (.on Qa.lo Ja));clear Qa Na Ja)
      go_wp2_with (fail)
      (go_at_call 61;refine(Zf.out _ _ Kb.out).mono ?_;rintro e w2 ⟨rfl,ha⟩;obtain⟨G2,se,Ub⟩:=ha;have Cg:=aa se;have yf:=aa (tc.out.trans Ub);clear se Ub)
      go_wp2_with (fail)
      go_ret;exact⟨rfl,G2,Cg.out,yf.out⟩
  ·rw[if_neg h5,if_neg h1];have b0:((q1.2.2.2:Int)==0)=false:=beq_eq_false_iff_ne.2 (by omega);have b5:((q1.2.2.2:Int)==5)=false:=beq_eq_false_iff_ne.2 (by omega);have b6:((q1.2.2.2:Int) != 5)=true:=bne_iff_ne.2 (by omega);have c0:¬(q1.2.2.2:Int)=0:=by omega
   have c5:¬(q1.2.2.2:Int)=5:=by omega
   clear h1 h5;go_enter func51,ntmps51;go_wp2_with (fail)
   (go_at_call 61;refine HF.out.mono ?_;rintro e w1 ⟨rfl,ha⟩;obtain⟨G1,Qa,Na⟩:=ha;have Ja:=a_ w1 (CX q1.1 q1.2.1 q1.2.2.1);have Kb:=aa (Qa.on Ja);have tc:=aa (Na.trans (.on Qa.lo Ja));clear Qa Na Ja)
   go_wp2_with (fail)
   go_ret;exact⟨rfl,G1,Kb.out,tc.out⟩
theorem zEd (name:ByteArray) (x y:Int) (d body:ByteArray) (na:Int) (w:World) (h:QR w B rb G P since ba ga) (hn:name.size<=900) (hd:d.size<=1000) (jo:0<=x) (dh:x<=999999):
  Calls p_ 109 #[.pointer (some ⟨rb,0,none⟩),.string name,.agg #[.int .i64 x,.int .i64 y,.string d],.string body,.int .i64 na] w fun e w'=>e=.returned (.tuple #[.int .i64 (Me ba name x y d body na).1,.int .i64 ((Me ba name x y d body na).2.1:Nat)])/\Jc w w' B rb G P since (Me ba name x y d body na).2.2 ga:=by
 have HO:=aa ((nd.start h).box #[i_ .i64 x,i_ .i64 y,v_ d] 118);have Ga:=aa h.lo;have q0:=aC w #[i_ .i64 x,i_ .i64 y,v_ d] 118 0;have q1:=aC w #[i_ .i64 x,i_ .i64 y,v_ d] 118 1;have q2:=aC w #[i_ .i64 x,i_ .i64 y,v_ d] 118 2;have ky:(Ta name (cP x)).size<=1000:=by rw[pS];omega
 have HT:=aa (fun W=>LS 0 0 na body W);have HP:=aa (fun (v:ByteArray) (G1:Nat->Prop) W (hW:QR W B rb G1 P since ba ga)=>lO ⟨Ta name (cP x),v,false⟩ W hW ky);rw[show cP x=(max x 0).toNat % 1000000 from rfl] at HP;clear h;unfold Me;by_cases hx:x=999999
 ·rw[if_pos hx];subst hx;go_enter func109,ntmps109;go_wp2_with (fail)
  go_ret2;exact⟨rfl,HO.out.done⟩
 ·rw[if_neg hx];have dx:(x==999999)=false:=by simpa using hx
  have mg:G0.wrap (x+1)=x+1:=by rw[YZ];omega
  have QL:=aa (fun (c1:List ma) (G1:Nat->Prop) W (hW:QR W B rb G1 P since c1 ga)=>rO name (x+1) y d W hW hn hd);unfold mK nA;rw[show cP x=(max x 0).toNat % 1000000 from rfl];generalize nD 0 na body=t at *;obtain⟨tx,et⟩:=t;dsimp only at HT ⊢;by_cases h0:et=0
  ·subst h0;rw[if_pos rfl,if_pos rfl];by_cases h1:cH ba ⟨Ta name ((max x 0).toNat % 1000000),tx,false⟩=0
   ·rw[if_pos h1];have e1:((cH ba ⟨Ta name ((max x 0).toNat % 1000000),tx,false⟩:Nat):Int)=0:=by omega
    replace HP:=aa (HP.out tx);rw[e1] at HP;clear h1 e1;generalize bG ba ⟨Ta name ((max x 0).toNat % 1000000),tx,false⟩=df at *;go_enter func109,ntmps109;go_wp2_with (fail)
    (go_at_call 119;refine(HT.out _).mono ?_;rintro e w2 ⟨rfl,za⟩;have Kc:=aa (HO.out.on za);replace ⟨q0,q1,q2⟩:=Fe za q0 q1 q2;clear za)
    go_wp2_with (fail)
    (go_at_call 117;refine(gK name x _ (by omega) (by omega)).mono ?_;rintro e w3 ⟨rfl,Ra⟩;have Cf:=aa (Kc.out.on Ra);replace ⟨q0,q1,q2⟩:=Fe Ra q0 q1 q2;clear Ra)
    go_wp2_with (fail)
    (go_at_call 62;refine(HP.out _ _ Cf.out.qr).mono ?_;rintro e w4 ⟨rfl,ha⟩;obtain⟨G4,Xm,kp⟩:=Cf.out.act ha;have yi:=aa Xm;have fz:=(Xm.ow w.heap.size (.inl rfl)).2.2.2;replace q0:=(b_ (kp w.heap.size (.inl rfl))).trans q0;replace q1:=(b_ (kp w.heap.size (.inl rfl))).trans q1;replace q2:=(b_ (kp w.heap.size (.inl rfl))).trans q2;clear ha Xm kp)
    go_wp2_with (fail)
    (go_at_call 103;refine(QL.out _ _ _ (yi.out.set Ga.out (b:=w.heap.size) (.inl rfl) 0 (.int .i64 (x+1))).qr).mono ?_;rintro e w5 ⟨rfl,ha⟩;have HA:=aa (Jc.after (yi.out.set Ga.out (b:=w.heap.size) (.inl rfl) 0 (.int .i64 (x+1))).st ha);clear ha)
    go_wp2_with (fail)
    go_ret2;exact⟨rfl,HA.out⟩
   ·rw[if_neg h1];have d0:decide (0<(cH ba ⟨Ta name ((max x 0).toNat % 1000000),tx,false⟩:Int))=true:=decide_eq_true (by omega);have d1:0<(cH ba ⟨Ta name ((max x 0).toNat % 1000000),tx,false⟩:Int):=by omega
    replace HP:=aa (HP.out tx);clear h1;generalize cH ba ⟨Ta name ((max x 0).toNat % 1000000),tx,false⟩=f1 at *;generalize bG ba ⟨Ta name ((max x 0).toNat % 1000000),tx,false⟩=df at *;go_enter func109,ntmps109;go_wp2_with (fail)
    (go_at_call 119;refine(HT.out _).mono ?_;rintro e w2 ⟨rfl,za⟩;have Kc:=aa (HO.out.on za);replace ⟨q0,q1,q2⟩:=Fe za q0 q1 q2;clear za)
    go_wp2_with (fail)
    (go_at_call 117;refine(gK name x _ (by omega) (by omega)).mono ?_;rintro e w3 ⟨rfl,Ra⟩;have Cf:=aa (Kc.out.on Ra);replace ⟨q0,q1,q2⟩:=Fe Ra q0 q1 q2;clear Ra)
    go_wp2_with (fail)
    (go_at_call 62;refine(HP.out _ _ Cf.out.qr).mono ?_;rintro e w4 ⟨rfl,ha⟩;obtain⟨G4,Xm,kp⟩:=Cf.out.act ha;have yi:=aa Xm;have fz:=(Xm.ow w.heap.size (.inl rfl)).2.2.2;replace q0:=(b_ (kp w.heap.size (.inl rfl))).trans q0;replace q1:=(b_ (kp w.heap.size (.inl rfl))).trans q1;replace q2:=(b_ (kp w.heap.size (.inl rfl))).trans q2;clear ha Xm kp)
    go_wp2_with (fail)
    go_ret2;exact⟨rfl,yi.out.done⟩
  ·rw[if_neg h0,if_neg h0,if_neg h0];have d0:decide (0<(et:Int))=true:=decide_eq_true (by omega);have d1:0<(et:Int):=by omega
   clear h0;go_enter func109,ntmps109;go_wp2_with (fail)
   (go_at_call 119;refine(HT.out _).mono ?_;rintro e w2 ⟨rfl,za⟩;have Kc:=aa (HO.out.on za);replace ⟨q0,q1,q2⟩:=Fe za q0 q1 q2;clear za)
   go_wp2_with (fail)
   go_ret2;exact⟨rfl,Kc.out.done⟩
theorem fP (n:Int) (w:World):Calls p_ 108 #[.int .i64 n] w fun e w'=>e=.returned (.bool (!fC n))/\w'=w:=by
 unfold fC;by_cases h0:n<0
 ·have d0:decide (n<0)=true:=decide_eq_true h0;have e0:decide (0<=n)=false:=decide_eq_false (by omega);rw[e0];go_enter func108,ntmps108;go_wp2;go_ret;exact⟨rfl,rfl⟩
 ·have d0:decide (n<0)=false:=decide_eq_false h0;have e0:decide (0<=n)=true:=decide_eq_true (by omega);rw[e0];by_cases h1:n<=1000000
  ·have d1:decide (1000000<n)=false:=decide_eq_false (by omega);rw[decide_eq_true h1];go_enter func108,ntmps108;go_wp2;go_ret;exact⟨rfl,rfl⟩
  ·have d1:decide (1000000<n)=true:=decide_eq_true (by omega);rw[decide_eq_false h1];go_enter func108,ntmps108;go_wp2;go_ret;exact⟨rfl,rfl⟩
theorem zEU {m:Xg} (w:World) (h:QV w B wb S P since ba ga)
  (hc:∀ W,Below w.heap.size w W->Calls p_ 111 #[a0,a1,a2,a3,a4] W fun e w'=>e=.returned (.tuple #[mV m,pa m.2.2.2.2])/\Hb W w' B wb S P since Sa Wa):
  Calls p_ 110 #[.pointer (some ⟨wb,0,none⟩),.func (.func 111) #[] #[a0,a1,a2,a3,a4]] w fun e w'=>e=.returned (.tuple #[mV (if m.2.2.2.2=0 then m else Xe m.2.2.2.2),pa m.2.2.2.2])/\Hb w w' B wb S P since (if m.2.2.2.2=0 then Sa else ba) Wa:=by
 have n1:=bM 77;have HQ:=aa h;have HC:=aa hc;have Ga:=aa h.pv.lo;have Wl:=a_ w DX;have HX:=aa (ve.start h #[i_ .i64 0,i_ .i64 0,i_ .i64 0,v_ ⟨#[]⟩] 108);have Md:=aa Wl;have Zz:=aa (zFs _ HX.out.qv.pv);obtain⟨r0,r1,r2,r3,-⟩:=kn w DX rfl rfl;obtain⟨mk,mt,mu,md,em⟩:=m;dsimp only at HC ⊢;clear h hc Wl;by_cases hf:em=0
 ·subst hf;rw[if_pos rfl,if_pos rfl];go_enter func110,ntmps110;go_wp2_with (first
   | (go_at_call 181;refine Zz.out.mono ?_;rintro e w1 ⟨mv,rfl,ho,Ba⟩;obtain⟨VQ,WQ,Xh,_,_⟩:=qP ho;subst Xh;have zb:=aa Ba;have kg:=aa (HX.out.on Ba);replace ⟨r0,r1,r2,r3⟩:=Ij Ba r0 r1 r2 r3;clear ho Ba)
   | (go_at_call 111;refine(HC.out _ (aB Md.out (n_ _) zb.out)).mono ?_;rintro e w2 ⟨rfl,ha⟩;obtain⟨S2,Qe,eb⟩:=kg.out.act ha;have Ja:=a_ w2 (EX mk mt mu md);have xg:=aa (Qe.on Ja);have fz:=xg.out.fz;replace r0:=aA Ja ((b_ eb).trans r0);replace r1:=aA Ja ((b_ eb).trans r1);replace r2:=aA Ja ((b_ eb).trans r2);replace r3:=aA Ja ((b_ eb).trans r3);clear ha Qe eb Ja;rw[bX])
   | fail)
  exact bodyPost_ret (v:=.tuple #[mV (mk,mt,mu,md,0),pa 0]) (by simp[pa,results,results110,go_sem,r0,r1,r2,r3]) rfl ⟨rfl,((((xg.out.set Ga.out 0 _).set Ga.out 1 _).set Ga.out 2 _).set Ga.out 3 _).done⟩
 ·rw[if_neg hf,if_neg hf];have HE:=aa (bJ hf);clear hf;go_enter func110,ntmps110;go_wp2_with (first
   | (go_at_call 181;refine Zz.out.mono ?_;rintro e w1 ⟨mv,rfl,ho,Ba⟩;obtain⟨VQ,WQ,Xh,_,_⟩:=qP ho;subst Xh;have zb:=aa Ba;have HO:=aa ho;have kg:=aa (HX.out.on Ba);replace ⟨r0,r1,r2,r3⟩:=Ij Ba r0 r1 r2 r3;clear ho Ba)
   | (go_at_call 111;refine(HC.out _ (aB Md.out (n_ _) zb.out)).mono ?_;rintro e w2 ⟨rfl,ha⟩;obtain⟨S2,se,Ub⟩:=ha;have Kc:=aa (aI HO.out fun k e=>((HX.out.qv.new Ub (l_ HO.out k e).1 (l_ HO.out k e).2).1));obtain⟨Qe,eb⟩:=kg.out.go se Ub;have Ja:=a_ w2 (EX mk mt mu md);have xg:=aa (Qe.on Ja);have Cf:=aa (bQ Kc.out Ja);replace r0:=aA Ja ((b_ eb).trans r0);replace r1:=aA Ja ((b_ eb).trans r1);replace r2:=aA Ja ((b_ eb).trans r2);replace r3:=aA Ja ((b_ eb).trans r3);clear se Ub Qe eb Ja;rw[HE.out])
   | (go_at_call 182;refine(zFb _ xg.out.qv Cf.out HQ.out.pv.ok.cn HQ.out.pv.ok.ck HQ.out.pv.ok.cr HQ.out.ok).mono ?_;rintro e w3 ⟨rfl,ha⟩;obtain⟨S3,zz,eb⟩:=xg.out.act ha;have Ja:=a_ w3 DX;have Fv:=aa (zz.on Ja);have fz:=Fv.out.fz;replace r0:=aA Ja ((b_ eb).trans r0);replace r1:=aA Ja ((b_ eb).trans r1);replace r2:=aA Ja ((b_ eb).trans r2);replace r3:=aA Ja ((b_ eb).trans r3);clear ha zz eb Ja)
   | fail)
  exact bodyPost_ret (v:=.tuple #[mV (Xe em),pa em]) (by simp[results,results110,go_sem,r0,r1,r2,r3,HE.out]) rfl ⟨rfl,((((Fv.out.set Ga.out 0 _).set Ga.out 1 _).set Ga.out 2 _).set Ga.out 3 _).done⟩
theorem zEC (pb nb qb ob lb:Nat) (name:ByteArray) (qx tries:Int) (Ca:ByteArray) (now long:Int) (w:World) (h:QV w B wb S P since ba ga) (hn:bK name.data.toList=true) (hd:Ca.size<=1000) (ht:tries<=9) (h0:0<=now) (h1:now<=1000000) (h2:0<=long) (h3:long<=1000000)
  (c0:w.cell? ⟨pb,0,none⟩=some (.pointer (some ⟨wb,0,none⟩))) (c1:w.cell? ⟨nb,0,none⟩=some (.string name)) (c2:w.cell? ⟨qb,0,none⟩=some (.int .i64 qx)) (c3:w.cell? ⟨qb,1,none⟩=some (.int .i64 tries)) (c4:w.cell? ⟨qb,2,none⟩=some (.string Ca)) (c5:w.cell? ⟨ob,0,none⟩=some (.int .i64 now)) (c6:w.cell? ⟨lb,0,none⟩=some (.int .i64 long)):
  Calls p_ 111 #[.pointer (some ⟨pb,0,none⟩),.pointer (some ⟨nb,0,none⟩),.pointer (some ⟨qb,0,none⟩),.pointer (some ⟨ob,0,none⟩),.pointer (some ⟨lb,0,none⟩)] w fun e w'=>e=.returned (.tuple #[mV (eO P name tries Ca now (now+long) 1000001 ba ga (aZ name)).1,pa (eO P name tries Ca now (now+long) 1000001 ba ga (aZ name)).1.2.2.2.2])/\Hb w w' B wb S P since (eO P name tries Ca now (now+long) 1000001 ba ga (aZ name)).2.1 (eO P name tries Ca now (now+long) 1000001 ba ga (aZ name)).2.2:=by
 have HX:=aa (ve.start h #[i_ .i64 0,i_ .i64 0,i_ .i64 0,v_ ⟨#[]⟩] 108);have Ga:=aa h.pv.lo;have Ja:=a_ w DX;replace ⟨c0,c1,c2,c3,c4,c5,c6⟩:=on7 Ja c0 c1 c2 c3 c4 c5 c6;obtain⟨r0,r1,r2,r3,-⟩:=kn w DX rfl rfl;have mg:G0.wrap (now+long)=now+long:=by rw[YZ];omega
 have HT:=aa (zHu name qx tries Ca now (now+long) _ HX.out.qv hn hd ht);clear h Ja hn;generalize eO P name tries Ca now (now+long) 1000001 ba ga (aZ name)=r at *;obtain⟨⟨mk,mt,mu,md,em⟩,df,Ua⟩:=r;dsimp only at HT ⊢;go_enter func111,ntmps111;go_wp2_with (first
  | (go_at_call 112;refine HT.out.mono ?_;rintro e w1 ⟨rfl,ha⟩;obtain⟨S1,dh,eb⟩:=HX.out.act ha;have fz:=dh.fz;replace r0:=(b_ eb).trans r0;replace r1:=(b_ eb).trans r1;replace r2:=(b_ eb).trans r2;replace r3:=(b_ eb).trans r3;have kg:=aa dh;clear ha dh eb c0 c1 c2 c3 c4 c5 c6)
  | fail)
 exact bodyPost_ret (v:=.tuple #[mV (mk,mt,mu,md,em),pa em]) (by simp[results,results111,go_sem,r0,r1,r2,r3]) rfl ⟨rfl,((((kg.out.set Ga.out 0 _).set Ga.out 1 _).set Ga.out 2 _).set Ga.out 3 _).done⟩
theorem oW {n:Int} (h:fC n=true):0<=n/\n<=1000000:=by unfold fC at h;rw[E1,decide_eq_true_eq,decide_eq_true_eq] at h;exact h
def zLK (s b:Nat):Prop:=s<=b/\b<s+5
theorem zCy (name:ByteArray) (now long:Int) (w:World) (h:QV w B wb S P since ba ga) (hn:name.size<=1000):
  Calls p_ 54 #[.pointer (some ⟨wb,0,none⟩),.string name,.int .i64 now,.int .i64 long] w fun e w'=>e=.returned (.tuple #[mV (dK P ba ga name now long).1,pa (dK P ba ga name now long).1.2.2.2.2])/\Hb w w' B wb S P since (dK P ba ga name now long).2.1 (dK P ba ga name now long).2.2:=by
 have n1:=bM 77;have hmf:∀ (fn:Fn) (first cap:Array Value) (w:World),(Instr.makeFunc fn first cap).run p_ w=.ok (.func fn first cap) w:=fun _ _ _ _=>rfl;have Ga:=aa h.pv.lo;have Kf:=aa (fun h=>xJ (P:=P) (ba:=ba) (ga:=ga) (name:=name) h);have rj:Hid ((aN P ba ga name).2.2.2=0->bK name.data.toList=true):=aa (fun he=>by unfold aN at he;split at he;assumption;cases he);obtain⟨c0,-,-,-,z1⟩:=PF w (VX (some ⟨wb,0,none⟩)) rfl rfl;obtain⟨c1,b2,-,-,z2⟩:=PF _ (PX name) z1 rfl;obtain⟨c2,b3,-,-,z3⟩:=PF _ (BY now) z2 rfl;obtain⟨c3,b4,-,-,z4⟩:=PF _ (BY long) z3 rfl;obtain⟨r0,r1,r2,r3,b5,-⟩:=kn _ DX z4 rfl;replace c0:=aA b2 c0;replace ⟨c0,c1⟩:=Em b3 c0 c1;replace ⟨c0,c1,c2⟩:=Fe b4 c0 c1 c2;replace ⟨c0,c1,c2,c3⟩:=Ij b5 c0 c1 c2 c3;have ML:=aa (((((je.start h).box #[Value.pointer (some ⟨wb,0,none⟩)] 59).box #[v_ name] 9).box #[i_ .i64 now] 3).box #[i_ .i64 long] 3 |>.box #[i_ .i64 0,i_ .i64 0,i_ .i64 0,v_ ⟨#[]⟩] 108);rw[z1,z2,z3,z4] at ML;have HO:=aa (ML.out.less (O':=zLK w.heap.size) (fun b hb=>by unfold zLK at hb;show b=w.heap.size+1+1+1+1∨b=w.heap.size+1+1+1∨b=w.heap.size+1+1∨b=w.heap.size+1∨b=w.heap.size∨False;omega));have HF:=aa (kK name _ HO.out.qv hn);clear h ML b2 b3 b4 b5 z1 z2 z3 z4;unfold dK;generalize aN P ba ga name=q at *;generalize bC ba ga name=Ua at *;obtain⟨qx,qy,qd,er⟩:=q;dsimp only at HF Kf rj ⊢;refine dite (er=0) (fun h1=>?a) fun h1=>?z
 case' a=>
  subst h1;rw[if_pos rfl];obtain⟨jo,dh,MC,SI,IQ⟩:=Kf.out rfl;have Jl:=aa (rj.out rfl);have Tc:=aa bX;clear Kf rj;refine dite (fC now=true/\fC long=true) (fun ht=>?b) fun ht=>?c
  case' b=>
   rw[if_pos ht];obtain⟨yy,zy⟩:=ht;obtain⟨t0,t1⟩:=oW yy;obtain⟨t2,t3⟩:=oW zy;have NA:=aa yy;have OA:=aa zy;clear yy zy;have iu:=aa (fun (W0:World) (S1:Nat->Prop) (hQ:QV W0 B wb S1 P since ba Ua) (qb:Nat) (e0:W0.cell? ⟨w.heap.size,0,none⟩=some (.pointer (some ⟨wb,0,none⟩))) (e1:W0.cell? ⟨w.heap.size+1,0,none⟩=some (.string name)) (e2:W0.cell? ⟨qb,0,none⟩=some (.int .i64 qx)) (e3:W0.cell? ⟨qb,1,none⟩=some (.int .i64 qy)) (e4:W0.cell? ⟨qb,2,none⟩=some (.string qd)) (e5:W0.cell? ⟨w.heap.size+1+1,0,none⟩=some (.int .i64 now)) (e6:W0.cell? ⟨w.heap.size+1+1+1,0,none⟩=some (.int .i64 long))=>zEU W0 hQ (fun W hb=>zEC w.heap.size (w.heap.size+1) qb (w.heap.size+1+1) (w.heap.size+1+1+1) name qx qy qd now long W (hQ.on hb) Jl.out (by omega) IQ t0 t1 t2 t3 (aA hb e0) (aA hb e1) (aA hb e2) (aA hb e3) (aA hb e4) (aA hb e5) (aA hb e6)));generalize eO P name qy qd now (now+long) 1000001 ba Ua (aZ name)=r at *;obtain⟨⟨mk,mt,mu,md,em⟩,UA,Nh⟩:=r;dsimp only at iu ⊢;refine dite (em=0) (fun hz=>?d) fun hz=>?e
   case' d=>
    subst hz;rw[if_pos rfl];simp only[if_true] at iu
   case' e=>
    rw[if_neg hz];simp only[if_neg hz] at iu;clear hz
  case' c=>
   rw[if_neg ht];have hv:fC now=false∨fC now=true/\fC long=false:=by revert ht;cases fC now<;>cases fC long<;>simp
   clear ht;rcases hv with h1|⟨h1,h2⟩
   all_goals have NA:=aa h1
   rotate_left
   have OA:=aa h2;clear h2
   rotate_left
   all_goals clear h1
 case' z=>
  rw[if_neg h1];have Tc:=aa (bJ h1);clear h1 Kf rj
 all_goals
  go_enter func54,ntmps54;go_wp2_with (first
   | (go_at_call 60;refine HF.out.mono ?_;rintro e w1 ⟨rfl,ha⟩;obtain⟨S1,mc,kp⟩:=HO.out.act ha;have Wc:=a_ w1 (CX qx qy qd);have Pd:=aa (mc.on Wc);replace c0:=aA Wc ((b_ (kp (w.heap.size) ⟨by omega,by omega⟩)).trans c0);replace c1:=aA Wc ((b_ (kp (w.heap.size+1) ⟨by omega,by omega⟩)).trans c1);replace c2:=aA Wc ((b_ (kp (w.heap.size+1+1) ⟨by omega,by omega⟩)).trans c2);replace c3:=aA Wc ((b_ (kp (w.heap.size+1+1+1) ⟨by omega,by omega⟩)).trans c3);replace r0:=aA Wc ((b_ (kp (w.heap.size+1+1+1+1) ⟨by omega,by omega⟩)).trans r0);replace r1:=aA Wc ((b_ (kp (w.heap.size+1+1+1+1) ⟨by omega,by omega⟩)).trans r1);replace r2:=aA Wc ((b_ (kp (w.heap.size+1+1+1+1) ⟨by omega,by omega⟩)).trans r2);replace r3:=aA Wc ((b_ (kp (w.heap.size+1+1+1+1) ⟨by omega,by omega⟩)).trans r3);have fz:=(Pd.out.ow (w.heap.size+1+1+1+1) ⟨by omega,by omega⟩).2.2.2;clear ha mc kp Wc;rw[Tc.out])
   | (go_at_call 104;refine(fI _ _).mono ?_;rintro e w2 ⟨rfl,rfl⟩;first|rw[NA.out]|rw[OA.out])
   | (go_at_call 110;refine(iu.out _ _ Pd.out.qv w1.heap.size c0 c1 (aC w1 _ _ 0) (aC w1 _ _ 1) (aC w1 _ _ 2) c2 c3).mono ?_;rintro e w3 ⟨rfl,ha⟩;obtain⟨S3,Ae,Hs⟩:=Pd.out.act ha;replace r0:=(b_ (Hs (w.heap.size+1+1+1+1) ⟨by omega,by omega⟩)).trans r0;replace r1:=(b_ (Hs (w.heap.size+1+1+1+1) ⟨by omega,by omega⟩)).trans r1;replace r2:=(b_ (Hs (w.heap.size+1+1+1+1) ⟨by omega,by omega⟩)).trans r2;replace r3:=(b_ (Hs (w.heap.size+1+1+1+1) ⟨by omega,by omega⟩)).trans r3;have Cf:=aa Ae;clear fz;have fz:=(Cf.out.ow (w.heap.size+1+1+1+1) ⟨by omega,by omega⟩).2.2.2;clear ha Ae Hs c0 c1 c2 c3)
   | fail)
 ·exact bodyPost_ret (v:=.tuple #[mV (Xe er),pa er]) (by simp[results,results54,go_sem,r0,r1,r2,r3,Tc.out]) rfl ⟨rfl,((((Pd.out.set Ga.out (b:=w.heap.size+1+1+1+1) ⟨by omega,by omega⟩ 0 _).set Ga.out (b:=w.heap.size+1+1+1+1) ⟨by omega,by omega⟩ 1 _).set Ga.out (b:=w.heap.size+1+1+1+1) ⟨by omega,by omega⟩ 2 _).set Ga.out (b:=w.heap.size+1+1+1+1) ⟨by omega,by omega⟩ 3 _).done⟩
 iterate 2
  ·exact bodyPost_ret (v:=.tuple #[mV (Xe 1),pa 1]) (by simp[pa,results,results54,go_sem,r0,r1,r2,r3]) rfl ⟨rfl,((((Pd.out.set Ga.out (b:=w.heap.size+1+1+1+1) ⟨by omega,by omega⟩ 0 _).set Ga.out (b:=w.heap.size+1+1+1+1) ⟨by omega,by omega⟩ 1 _).set Ga.out (b:=w.heap.size+1+1+1+1) ⟨by omega,by omega⟩ 2 _).set Ga.out (b:=w.heap.size+1+1+1+1) ⟨by omega,by omega⟩ 3 _).done⟩
 ·exact bodyPost_ret (v:=.tuple #[mV (Xe em),pa em]) (by simp[results,results54,go_sem,r0,r1,r2,r3]) rfl ⟨rfl,((((Cf.out.set Ga.out (b:=w.heap.size+1+1+1+1) ⟨by omega,by omega⟩ 0 _).set Ga.out (b:=w.heap.size+1+1+1+1) ⟨by omega,by omega⟩ 1 _).set Ga.out (b:=w.heap.size+1+1+1+1) ⟨by omega,by omega⟩ 2 _).set Ga.out (b:=w.heap.size+1+1+1+1) ⟨by omega,by omega⟩ 3 _).done⟩
 ·exact bodyPost_ret (v:=.tuple #[mV (mk,mt,mu,md,0),pa 0]) (by simp[pa,results,results54,go_sem,r0,r1,r2,r3]) rfl ⟨rfl,((((Cf.out.set Ga.out (b:=w.heap.size+1+1+1+1) ⟨by omega,by omega⟩ 0 _).set Ga.out (b:=w.heap.size+1+1+1+1) ⟨by omega,by omega⟩ 1 _).set Ga.out (b:=w.heap.size+1+1+1+1) ⟨by omega,by omega⟩ 2 _).set Ga.out (b:=w.heap.size+1+1+1+1) ⟨by omega,by omega⟩ 3 _).done⟩
end
section
open Go.RowKit Go.Joins Go.Shelf
theorem QR.mark (h:QR w B rb G P since ba ga):∃ ca cc,w.cell? ⟨rb,2,none⟩=some (.slice ca ba.length cc)/\bW w ca ba/\(∀ k,yh ca k->ba≠[]->k≠rb/\G k)/\G rb:=by
 obtain⟨ra,rc,ca,cc,sa,sc,hx,rfl,h2,h3,h4⟩:=h.rw;exact⟨ca,cc,hx.c2,hx.hC,fun k e La=>⟨h3 k e La,.inr (.inr (.inl ⟨La,e⟩))⟩,.inl rfl⟩
theorem NT {G1:Nat->Prop} {df:List ma} {Ua:ta} {ca:Option Addr} {cc:Nat} (h:QR w B rb G P since ba ga) (hh:bW w ca ba) (hn:∀ k,yh ca k->ba≠[]->k≠rb/\G k) (hg:G rb) (h1:QR w1 B rb G1 P since df Ua) (hs:dV w w1 B rb G G1):
  w1.frozen? ⟨rb,2,none⟩=false/\(∃ v,w1.cell? ⟨rb,2,none⟩=some v)/\Jc w (w1.setCell ⟨rb,2,none⟩ (.slice ca ba.length cc)) B rb G P since ba Ua:=by
 obtain⟨ra,rc,ca1,cc1,sa,sc,hx,hG,h2,h3,h4⟩:=h1.rw;have mg:bW w1 ca ba:=lK hh fun La k e=>hs.Ma k (zJ4 hh La e) (hn k e La).1;have Zb:∀ k,k≠rb->(w1.setCell ⟨rb,2,none⟩ (.slice ca ba.length cc)).heap[k]?=w1.heap[k]?:=fun k hk=>h_ _ _ _ _ hk;refine⟨hx.soft 2,⟨_,hx.c2⟩,gj rb ra ca sa P ba Ua,⟨⟨ra,rc,ca,cc,sa,sc,{
   c0:=(t_ _ _ _ _ (by simp)).trans hx.c0
   c1:=(t_ _ _ _ _ (by simp)).trans hx.c1
   c2:=u_ _ _ _ hx.c2
   c3:=(t_ _ _ _ _ (by simp)).trans hx.c3
   soft:=fun j=>by rw[EZ];exact hx.soft j
   hP:=dP hx.hP fun La k e=>Zb k (h2 k e La)
   nP:=hx.nP
   hC:=lK mg fun La k e=>Zb k (hn k e La).1
   hR:=dP hx.hR fun La k e=>Zb k (h4 k e La) },rfl,h2,fun k e La=>(hn k e La).1,h4⟩,{ h.ov with rn:=h1.ov.rn },h.ok,by simpa using h1.lo,h.rl⟩,
  hs.Ia.setCell (p:=⟨rb,2,none⟩) h.rl _,fun j hj Di=>(Zb j Di).trans (hs.Ma j hj Di),fun j hj Di Ig=>?_⟩
 have ho:=hs.out j hj Di;rw[hG] at ho;rcases Ig with rfl|e|⟨La,e⟩|e
 ·exact Di hg
 ·exact ho (.inr (.inl e))
 ·exact Di (hn j e La).2
 ·exact ho (.inr (.inr (.inr e)))
theorem Hy (w:World) (mb:Nat) (a b c d:Value) {z0 z1 z2 z3:Value} (h0:w.cell? ⟨mb,0,none⟩=some z0) (h1:w.cell? ⟨mb,1,none⟩=some z1) (h2:w.cell? ⟨mb,2,none⟩=some z2) (h3:w.cell? ⟨mb,3,none⟩=some z3):
  ((((w.setCell ⟨mb,0,none⟩ a).setCell ⟨mb,1,none⟩ b).setCell ⟨mb,2,none⟩ c).setCell ⟨mb,3,none⟩ d).cell? ⟨mb,0,none⟩=some a/\((((w.setCell ⟨mb,0,none⟩ a).setCell ⟨mb,1,none⟩ b).setCell ⟨mb,2,none⟩ c).setCell ⟨mb,3,none⟩ d).cell? ⟨mb,1,none⟩=some b/\((((w.setCell ⟨mb,0,none⟩ a).setCell ⟨mb,1,none⟩ b).setCell ⟨mb,2,none⟩ c).setCell ⟨mb,3,none⟩ d).cell? ⟨mb,2,none⟩=some c/\((((w.setCell ⟨mb,0,none⟩ a).setCell ⟨mb,1,none⟩ b).setCell ⟨mb,2,none⟩ c).setCell ⟨mb,3,none⟩ d).cell? ⟨mb,3,none⟩=some d/\∀ k,k≠mb->((((w.setCell ⟨mb,0,none⟩ a).setCell ⟨mb,1,none⟩ b).setCell ⟨mb,2,none⟩ c).setCell ⟨mb,3,none⟩ d).heap[k]?=w.heap[k]?:=by
 have ot:∀ (W:World) (i j:Nat) (v:Value),i≠j->(W.setCell ⟨mb,i,none⟩ v).cell? ⟨mb,j,none⟩=W.cell? ⟨mb,j,none⟩:=fun W i j v Yx=>t_ _ _ _ _ (fun e=>Yx (congrArg Addr.off e));have st:∀ (W:World) (j:Nat) (v:Value) (x:Nat),x≠mb->(W.setCell ⟨mb,j,none⟩ v).heap[x]?=W.heap[x]?:=fun W j v x hx=>h_ _ _ _ _ hx;refine⟨?_,?_,?_,?_,fun k hk=>?_⟩
 ·rw[ot _ 3 0 _ (by omega),ot _ 2 0 _ (by omega),ot _ 1 0 _ (by omega)];exact u_ _ _ _ h0
 ·rw[ot _ 3 1 _ (by omega),ot _ 2 1 _ (by omega)];exact u_ _ _ _ ((ot _ 0 1 _ (by omega)).trans h1)
 ·rw[ot _ 3 2 _ (by omega)];exact u_ _ _ _ ((ot _ 1 2 _ (by omega)).trans ((ot _ 0 2 _ (by omega)).trans h2))
 ·exact u_ _ _ _ ((ot _ 2 3 _ (by omega)).trans ((ot _ 1 3 _ (by omega)).trans ((ot _ 0 3 _ (by omega)).trans h3)))
 ·rw[st _ _ _ _ hk,st _ _ _ _ hk,st _ _ _ _ hk,st _ _ _ _ hk]
end
section
open Go.RowKit Go.Joins Go.Shelf
attribute [local go_sem ↓] Go.wp_at_zero Go.wp_at_succ
theorem zJT:∀ (l:List Xg) (i c:Nat) (hi:i<l.length),c<4->(l.flatMap qM)[i*4+c]?=(qM l[i])[c]?
 | [],_,_,hi,_=>by cases hi
 | m::l,0,c,_,hc=>by
  rw[J5,Nat.zero_mul,TZ,List.getElem?_append_left (show c<(qM m).length from hc)];rfl
 | m::l,i+1,c,hi,hc=>by
  have e:=zJT l i c (by simpa using hi) hc;rw[J5,List.getElem?_append_right (show(qM m).length<=(i+1)*4+c by show 4<=_;omega),show(i+1)*4+c-(qM m).length=i*4+c by show(i+1)*4+c-4=_;omega,e];rfl
theorem zGC {g:Nat} {l:List Xg} (h:Uf w B (.slice (some ⟨g,0,none⟩) n cap) l) (hi:i<l.length):
  w.cell? ⟨g,i*4,none⟩=some (.int .i64 l[i].1)/\w.cell? ⟨g,i*4+1,none⟩=some (.int .i64 l[i].2.1)/\w.cell? ⟨g,i*4+2,none⟩=some (.int .i64 l[i].2.2.1)/\w.cell? ⟨g,i*4+3,none⟩=some (.string l[i].2.2.2.1):=by
 have one:∀ c u,c<4->(qM l[i])[c]?=some u->w.cell? ⟨g,i*4+c,none⟩=some u:=fun c u hc hu=>by
  have e:=World.ownsRow.cells h (g:=g) rfl (i*4+c) u ((zJT l i c hi hc).trans hu);rw[Go.WideShapes.add_plain,TZ] at e;exact e
 exact⟨one 0 _ (by omega) rfl,one 1 _ (by omega) rfl,one 2 _ (by omega) rfl,one 3 _ (by omega) rfl⟩
theorem zLP (l:List Xg) {B1 g1 g2 c1 c2:Nat} (w:World) (h1:Uf w B1 (.slice (some ⟨g1,0,none⟩) l.length c1) l) (h2:Uf w B2 (.slice (some ⟨g2,0,none⟩) l.length c2) l) (hn:l.length<=1000):
  Calls p_ 69 #[.slice (some ⟨g1,0,none⟩) l.length c1,.slice (some ⟨g2,0,none⟩) l.length c2] w fun e w'=>e=.returned (.bool true)/\Below w.heap.size w w':=by
 have H1:=aa h1;have H2:=aa h2;clear h1 h2;go_enter func69,ntmps69;go_wp2
 go_loopw [5] (fun i wr=>∃ k:Nat,k<=l.length/\i=.int .i64 (k:Int)/\Below w.heap.size w wr) (fun i _=>l.length-(intOf i).toNat)
 case atStart=>exact⟨0,OZ _,rfl,r_ _ _⟩
 case round=>
  obtain⟨k,hk,rfl,hB⟩:=hrel;by_cases Aa:k<l.length
  ·have lk:(k:Int)<(l.length:Int):=by omega
   obtain⟨a0,a1,a2,a3⟩:=zGC H1.out Aa;obtain⟨b0,b1,b2,b3⟩:=zGC H2.out Aa;replace ⟨a0,a1,a2,a3,b0,b1,b2,b3⟩:=ZQ hB a0 a1 a2 a3 b0 b1 b2 b3;generalize l[k].1=m0 at *;generalize l[k].2.1=m1 at *;generalize l[k].2.2.1=m2 at *;generalize l[k].2.2.2.1=m3 at *;have AX:(m3.toList==m3.toList)=true:=by simp
   have mg:G0.wrap ((k:Int)+1)=(k:Int)+1:=by rw[YZ];omega
   go_wp2;go_quiet (fail);go_wp2;exact⟨⟨k+1,by omega,rfl,hB.trans ((below_draws _ _ _).mono hB.size)⟩,by simp[intOf];omega⟩
  ·have ek:k=l.length:=by omega
   subst ek;have lk:¬(l.length:Int)<(l.length:Int):=by omega
   go_wp2;go_ret;exact⟨rfl,hB⟩
end
section
open Go.RowKit Go.Joins Go.Shelf
theorem zBU {l:List Vd} (h:iM w ao l) {x:Vd} (hx:x∈l):∃ b off,vI w b off x:=by
 obtain⟨i,hi,rfl⟩:=List.getElem_of_mem hx;rcases h with h|⟨b,off,_,hc⟩
 ·rw[h] at hi;simp at hi
 ·exact⟨b,_,hc i hi⟩
theorem zIQ {l:List Vd} (h:iM w ao l) (hl:gT l n=true):l.length<=n/\∀ x∈l,fT x:=by
 simp only[gT,E1,decide_eq_true_eq,List.all_eq_true] at hl;refine⟨hl.1,fun x hx=>?_⟩;have h2:=hl.2 x hx;simp only[fE,E1,decide_eq_true_eq] at h2;obtain⟨b,off,ha⟩:=zBU h hx;exact⟨h2.1.1.1,h2.1.1.2,ha.ai⟩
end
end Go.Proofs.YtcfjimdfegejaaaGreatDoor
