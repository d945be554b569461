import Derived.Test.YtcfjimdfegejaaaGreatDoorQ18
set_option maxHeartbeats 8000000
set_option maxRecDepth 100000
namespace Go.Proofs.YtcfjimdfegejaaaGreatDoor
open Go.Proofs.Tryz
open World renaming ownsRow.lt→l_
open Go.RowKit.Below renaming refl→r_
open Go.Proofs.Tryz renaming prog→p_
open Value renaming string→v_,int→i_
open Go.Joins renaming below_alloc1→a_
variable {w w':World} {B rb f:Nat} {G:Nat->Prop} {P ga l:ta} {since:Sn} {ba:List ma}
section
open Go.RowKit Go.Joins Go.Shelf Go.WideShapes
attribute [local go_sem ↓] Go.wp_at_zero Go.wp_at_succ
def zPq (w w':World) (v:Value) (B rb:Nat) (G:Nat->Prop) (P:ta) (since:Sn) (ba:List ma) (ga:ta) (l:List Xg):Prop:=∃ G',Uf w' w.heap.size v l/\QR w' B rb G' P since ba ga/\dV w w' B rb G G'
def Jy (w w':World) (e:Ending) (B rb:Nat) (G:Nat->Prop) (P:ta) (since:Sn) (ba:List ma) (r:Nat×List Xg×ta):Prop:=
 (r.1=0->∃ v,e=.returned (.tuple #[v,.int .i64 0])/\zPq w w' v B rb G P since ba r.2.2 r.2.1)/\(r.1≠0->e=.returned (.tuple #[.slice none 0 0,.int .i64 (r.1:Nat)])/\Jc w w' B rb G P since ba r.2.2)
theorem Jy.bad {l:List Xg} (hf:f≠0) (ha:Jc w w' B rb G P since ba ga):Jy w w' (.returned (.tuple #[.slice none 0 0,.int .i64 (f:Nat)])) B rb G P since ba (f,l,ga):=⟨fun h=>absurd h hf,fun _=>⟨rfl,ha⟩⟩
theorem Jy.Ak {G':Nat->Prop} {v:Value} (hf:eN l=0) (ho:Uf w' w.heap.size v (jQ l)) (hq:QR w' B rb G' P since ba ga) (hs:dV w w' B rb G G'):Jy w w' (.returned (.tuple #[v,.int .i64 0])) B rb G P since ba (if eN l=0 then (0,jQ l,ga) else (eN l,[],ga)):=by
 rw[if_pos hf];exact⟨fun _=>⟨v,rfl,G',ho,hq,hs⟩,fun h=>absurd rfl h⟩
theorem Jy.Xs (hl:eN l=f) (hf:f≠0) (ha:Jc w w' B rb G P since ba ga):Jy w w' (.returned (.tuple #[.slice none 0 0,.int .i64 (f:Nat)])) B rb G P since ba (if eN l=0 then (0,jQ l,ga) else (eN l,[],ga)):=by
 rw[if_neg (by rw[hl];exact hf),hl];exact .bad hf ha
theorem zLF (name:ByteArray) (w:World) (h:QR w B rb G P since ba ga) (hn:name.size<=900):
  Calls p_ 68 #[.pointer (some ⟨rb,0,none⟩),.string name] w fun e w'=>Jy w w' e B rb G P since ba (cY P ba ga name):=by
 obtain⟨i0,Qb,Xb,We,ze⟩:=info_parts zJL;have HF:=aa (gZ name w h hn);have HQ:=aa h;have rj:Hid ((aN P ba ga name).2.2.2=0->bK name.data.toList=true):=aa (fun he=>by unfold aN at he;split at he;assumption;cases he);unfold cY;generalize aN P ba ga name=q at *;generalize bC ba ga name=Ua at *;obtain⟨qx,qy,qd,er⟩:=q;dsimp only at HF rj ⊢;by_cases h1:er=0
 ·subst h1;rw[if_pos rfl];have ni:=rj.out rfl;have Wz:Hid (∀ r∈(aF P ba (aZ name,Jb name)).take 53,∃ n,n<=999999/\r.1=Ta name n/\r.2.size<=40):=aa (fun r hr=>by
   have hm:=List.mem_of_mem_take hr;obtain⟨a1,a2⟩:=tB HQ.out.ok (aZ name,Jb name) r hm;obtain⟨n,yl,e⟩:=IT ni a1 (AJ HQ.out.ov.Gm hm);exact⟨n,yl,e,a2⟩)
  have UO:((aF P ba (aZ name,Jb name)).take 53).length<=53:=by rw[List.length_take];omega
  clear rj h;by_cases El:dL (aF P ba (aZ name,Jb name)) Ua (aZ name,Jb name) 53=0
  ·rw[if_pos El];have Pf:=aa (fun (G1:Nat->Prop) (W:World) (hW:QR W B rb G1 P since ba Ua)=>zGT (aZ name,Jb name) 53 W hW (by omega) El);rw[show((53:Int).toNat)=53 from rfl] at Pf;clear El ni;generalize eP (aF P ba (aZ name,Jb name)) Ua (aZ name,Jb name) 53=Nh at *;generalize (aF P ba (aZ name,Jb name)).take 53=l at *;generalize hr:(if eN l=0 then (0,jQ l,Nh) else (eN l,[],Nh))=r;have HR:=aa hr;clear hr;go_enter func68,ntmps68;go_wp2_with (fail)
   (go_at_call 61;refine HF.out.mono ?_;rintro e w1 ⟨rfl,ha⟩;obtain⟨G1,Qa,Na⟩:=ha;have Wc:=a_ w1 (CX qx qy qd);have Kb:=aa (Qa.on Wc);have tc:=aa (Na.trans (.on Qa.lo Wc));clear Qa Na Wc)
   go_wp2_with (fail)
   (go_at_call 137;refine(lZ name _ (by omega)).mono ?_;rintro e w2 ⟨rfl,za⟩;have Cg:=aa (Kb.out.on za);have yf:=aa (tc.out.trans (.on Kb.out.lo za));clear za)
   go_wp2_with (fail)
   (go_at_call 66;refine(Pf.out _ _ Cg.out).mono ?_;rintro e w3 ⟨v,rfl,ha⟩;obtain⟨ao,cap,G3,rfl,hh,Bl,Tf,_⟩:=ha;have Lj:=aa Bl;have Sh:=aa (yf.out.trans Tf);have HH:=aa hh;have xy:=(yf.out.trans Tf).Ia.size;clear Bl Tf hh)
   go_wp2_with (fail)
   go_loopw [9,10] (fun v i wr=>∃ k:Nat,k<=l.length/\i=.int .i64 k/\Uf wr w3.heap.size v (jQ (l.take k))/\Below w3.heap.size w3 wr/\eN (l.take k)=0) (fun _ i _=>l.length-(intOf i).toNat)
   case atStart=>exact⟨0,Nat.zero_le _,rfl,World.ownsRow_nil _ _ _ _,r_ _ _,rfl⟩
   case round=>
    obtain⟨k,hk,rfl,ya,hB,hM⟩:=hrel;by_cases Aa:k<l.length
    ·rcases HH.out with e|⟨b,off,rfl,dj⟩
     ·rw[e] at Aa;cases Aa
     obtain⟨c0,c1⟩:=gW hB dj k Aa;have lk:(k:Int)<(l.length:Int):=by omega
     obtain⟨n,Fq,ek,Ay⟩:=Wz.out l[k] (List.getElem_mem Aa);have Nr:gd l[k].1=n:=by rw[ek];exact SJ name Fq
     have Rg:Hid (∀ W:World,Calls p_ 139 #[.string l[k].1] W fun e w'=>e=.returned (.int .i64 n)/\w'=W):=aa (by rw[ek];exact fun W=>zCh name n W (by omega) Fq);have ft:=aa (fun W=>FT l[k].2 n (by omega) W);rw[<-Nr] at ft Rg;have AA:=aa (zG6 Aa hM);have rp:=aa (zEF Aa hM);have Zt:=aa (zF1 Aa);have Qh:=aa ya;have HB:=aa hB;have hlen:(jQ (l.take k)).length<=53:=by unfold jQ;rw[List.length_map,List.length_take];omega
     have Yl:=World.block_lt_of_cell? _ _ c0;clear Nr ek hM ya hB Ay Wz dj Fq n;generalize ud l[k].2 (gd l[k].1)=m at *;generalize gd l[k].1=nn at *;generalize jQ (l.take k)=out at *;generalize l[k].1=rk at *;generalize l[k].2=rv at *;obtain⟨mk,mt,mu,md,em⟩:=m;dsimp only at ft AA rp Zt;by_cases Oj:em=0
     ·subst Oj;go_wp2_with (fail)
      go_region_with (first
       | (go_at_call 139;refine(Rg.out _).mono ?_;rintro e wn ⟨rfl,rfl⟩)
       | (go_at_call 138;refine(ft.out _).mono ?_;rintro e w4 ⟨rfl,Eb⟩;first|(have z0:w4.cell? ⟨wr.heap.size,0,none⟩=some (.int .i64 0):=aA Eb (by simp);have z1:w4.cell? ⟨wr.heap.size,1,none⟩=some (.int .i64 0):=aA Eb (by simp);have z2:w4.cell? ⟨wr.heap.size,2,none⟩=some (.int .i64 0):=aA Eb (by simp);have z3:w4.cell? ⟨wr.heap.size,3,none⟩=some (.string ⟨#[]⟩):=aA Eb (by simp);have zf:∀ j,w4.frozen? ⟨wr.heap.size,j,none⟩=false:=fun j=>aE Eb (by simp) (by exact aQ _ _ _ j))|skip)
       | fail)
      all_goals
       first
       | (have hq:Below wr.heap.size wr w4:=((r_ wr.heap.size wr).drew).trans Eb
          have Ve:=a_ w4 (EX mk mt mu md);have Wf:=aa ((HB.out.trans (hq.mono HB.out.size)).trans (Ve.mono (HB.out.trans (hq.mono HB.out.size)).size));have bd:=aa (bQ (bQ Qh.out hq) Ve);have m0:=aC w4 #[i_ .i64 mk,i_ .i64 mt,i_ .i64 mu,v_ md] 108 0;have m1:=aC w4 #[i_ .i64 mk,i_ .i64 mt,i_ .i64 mu,v_ md] 108 1;have m2:=aC w4 #[i_ .i64 mk,i_ .i64 mt,i_ .i64 mu,v_ md] 108 2;have m3:=aC w4 #[i_ .i64 mk,i_ .i64 mt,i_ .i64 mu,v_ md] 108 3;clear Eb hq Ve;generalize (w4.alloc (EX mk mt mu md))=W5 at *;generalize w4.heap.size=mb at *)
       | (have hq:Below (wr.alloc DX).heap.size (wr.alloc DX) w4:=((r_ _ (wr.alloc DX)).drew).trans Eb
          have Yg:=a_ wr DX;have S4:=Hy w4 wr.heap.size (.int .i64 mk) (.int .i64 mt) (.int .i64 mu) (.string md) z0 z1 z2 z3;have Mz:=aa ((HB.out.trans (Yg.mono HB.out.size)).trans (hq.mono (HB.out.trans (Yg.mono HB.out.size)).size));have Jq:=HB.out.size;have Wf:=aa ((((Mz.out.setCell (p:=⟨wr.heap.size,0,none⟩) Jq (.int .i64 mk)).setCell (p:=⟨wr.heap.size,1,none⟩) Jq (.int .i64 mt)).setCell (p:=⟨wr.heap.size,2,none⟩) Jq (.int .i64 mu)).setCell (p:=⟨wr.heap.size,3,none⟩) Jq (.string md));have bd:=aa (aI (bQ (bQ Qh.out Yg) hq) fun x e=>S4.2.2.2.2 x (by have:=(l_ Qh.out x e).2;omega));obtain⟨m0,m1,m2,m3,_⟩:=S4;clear Eb hq Yg Mz z0 z1 z2 z3 zf Jq;generalize ((((w4.setCell ⟨wr.heap.size,0,none⟩ (.int .i64 mk)).setCell ⟨wr.heap.size,1,none⟩ (.int .i64 mt)).setCell ⟨wr.heap.size,2,none⟩ (.int .i64 mu)).setCell ⟨wr.heap.size,3,none⟩ (.string md))=W5 at *;generalize wr.heap.size=mb at *)
      all_goals
       go_wp2_with (at_builtin;refine oS rfl _ _ 133 rfl w3.heap.size 108 i0 _ 4 40 underlying133 Qb Xb We ze rfl (by omega) W5 (qM (mk,mt,mu,md,0)) rfl (zHG _) _ out.length (out.flatMap qM) bd.out rfl rfl (by omega) (by omega) Wf.out.size ?_;intro v1 w7 mc Af;have Gi:Hid (Below w3.heap.size w3 w7):=(by first|exact Af w3 Wf.out|exact Af w3 (Wf.out.trans (below_draws _ _ _)));have vn:Hid (Uf w7 w3.heap.size v1 (out++[(mk,mt,mu,md,0)])):=zIS mc;clear mc Af)
       exact⟨⟨k+1,by omega,by go_num,by rw[Zt.out];exact vn.out,Gi.out,AA.out⟩,by simp[intOf];omega⟩
     ·have d0:decide (0<(em:Int))=true:=decide_eq_true (by omega);have d1:0<(em:Int):=by omega
      have CA:=aa Oj;clear Oj;go_wp2_with (fail)
      go_region_with (first
       | (go_at_call 139;refine(Rg.out _).mono ?_;rintro e wn ⟨rfl,rfl⟩)
       | (go_at_call 138;refine(ft.out _).mono ?_;rintro e w4 ⟨rfl,Eb⟩;first|(have z0:w4.cell? ⟨wr.heap.size,0,none⟩=some (.int .i64 0):=aA Eb (by simp);have z1:w4.cell? ⟨wr.heap.size,1,none⟩=some (.int .i64 0):=aA Eb (by simp);have z2:w4.cell? ⟨wr.heap.size,2,none⟩=some (.int .i64 0):=aA Eb (by simp);have z3:w4.cell? ⟨wr.heap.size,3,none⟩=some (.string ⟨#[]⟩):=aA Eb (by simp);have zf:∀ j,w4.frozen? ⟨wr.heap.size,j,none⟩=false:=fun j=>aE Eb (by simp) (by exact aQ _ _ _ j))|skip)
       | fail)
      all_goals
       first
       | (have hq:Below wr.heap.size wr w4:=((r_ wr.heap.size wr).drew).trans Eb
          have Ve:=a_ w4 (EX mk mt mu md);have Wf:=aa ((HB.out.trans (hq.mono HB.out.size)).trans (Ve.mono (HB.out.trans (hq.mono HB.out.size)).size));have bd:=aa (bQ (bQ Qh.out hq) Ve);have m0:=aC w4 #[i_ .i64 mk,i_ .i64 mt,i_ .i64 mu,v_ md] 108 0;have m1:=aC w4 #[i_ .i64 mk,i_ .i64 mt,i_ .i64 mu,v_ md] 108 1;have m2:=aC w4 #[i_ .i64 mk,i_ .i64 mt,i_ .i64 mu,v_ md] 108 2;have m3:=aC w4 #[i_ .i64 mk,i_ .i64 mt,i_ .i64 mu,v_ md] 108 3;clear Eb hq Ve;generalize (w4.alloc (EX mk mt mu md))=W5 at *;generalize w4.heap.size=mb at *)
       | (have hq:Below (wr.alloc DX).heap.size (wr.alloc DX) w4:=((r_ _ (wr.alloc DX)).drew).trans Eb
          have Yg:=a_ wr DX;have S4:=Hy w4 wr.heap.size (.int .i64 mk) (.int .i64 mt) (.int .i64 mu) (.string md) z0 z1 z2 z3;have Mz:=aa ((HB.out.trans (Yg.mono HB.out.size)).trans (hq.mono (HB.out.trans (Yg.mono HB.out.size)).size));have Jq:=HB.out.size;have Wf:=aa ((((Mz.out.setCell (p:=⟨wr.heap.size,0,none⟩) Jq (.int .i64 mk)).setCell (p:=⟨wr.heap.size,1,none⟩) Jq (.int .i64 mt)).setCell (p:=⟨wr.heap.size,2,none⟩) Jq (.int .i64 mu)).setCell (p:=⟨wr.heap.size,3,none⟩) Jq (.string md));have bd:=aa (aI (bQ (bQ Qh.out Yg) hq) fun x e=>S4.2.2.2.2 x (by have:=(l_ Qh.out x e).2;omega));obtain⟨m0,m1,m2,m3,_⟩:=S4;clear Eb hq Yg Mz z0 z1 z2 z3 zf Jq;generalize ((((w4.setCell ⟨wr.heap.size,0,none⟩ (.int .i64 mk)).setCell ⟨wr.heap.size,1,none⟩ (.int .i64 mt)).setCell ⟨wr.heap.size,2,none⟩ (.int .i64 mu)).setCell ⟨wr.heap.size,3,none⟩ (.string md))=W5 at *;generalize wr.heap.size=mb at *)
      all_goals
       go_wp2_with (fail)
       go_ret2;refine HR.out▸?_;exact .Xs (rp.out CA.out) CA.out ⟨_,Lj.out.on Wf.out,Sh.out.trans (.on Lj.out.lo Wf.out)⟩
    ·have ek:k=l.length:=by omega
     subst ek;have Za:¬(l.length:Int)<(l.length:Int):=by omega
     rw[List.take_length] at ya hM;have HM:=aa hM;have bd:=aa ya;clear hM ya;go_wp2;go_ret2;refine HR.out▸?_;exact .Ak HM.out (ownsRow_le bd.out xy) (Lj.out.on hB) (Sh.out.trans (.on Lj.out.lo hB))
  ·rw[if_neg El];have Pf:=aa (fun (G1:Nat->Prop) (W:World) (hW:QR W B rb G1 P since ba Ua)=>zD0 (aZ name,Jb name) 53 W hW (by omega) El);generalize eP (aF P ba (aZ name,Jb name)) Ua (aZ name,Jb name) 53=Nh at *;generalize dL (aF P ba (aZ name,Jb name)) Ua (aZ name,Jb name) 53=f at *;have d0:decide (0<(f:Int))=true:=decide_eq_true (by omega);have d1:0<(f:Int):=by omega
   have Yq:=aa El;clear El ni;go_enter func68,ntmps68;go_wp2_with (fail)
   (go_at_call 61;refine HF.out.mono ?_;rintro e w1 ⟨rfl,ha⟩;obtain⟨G1,Qa,Na⟩:=ha;have Wc:=a_ w1 (CX qx qy qd);have Kb:=aa (Qa.on Wc);have tc:=aa (Na.trans (.on Qa.lo Wc));clear Qa Na Wc)
   go_wp2_with (fail)
   (go_at_call 137;refine(lZ name _ (by omega)).mono ?_;rintro e w2 ⟨rfl,za⟩;have Cg:=aa (Kb.out.on za);have yf:=aa (tc.out.trans (.on Kb.out.lo za));clear za)
   go_wp2_with (fail)
   (go_at_call 66;refine(Pf.out _ _ Cg.out).mono ?_;rintro e w3 ⟨rfl,ha⟩;have HA:=aa (Jc.after yf.out ha);clear ha)
   go_wp2_with (fail)
   go_ret2;exact .bad Yq.out HA.out
 ·rw[if_neg h1];have d0:decide (0<(er:Int))=true:=decide_eq_true (by omega);have d1:0<(er:Int):=by omega
  have Wd:=aa h1;clear h1 rj;go_enter func68,ntmps68;go_wp2_with (fail)
  (go_at_call 61;refine HF.out.mono ?_;rintro e w1 ⟨rfl,ha⟩;obtain⟨G1,Qa,Na⟩:=ha;have Wc:=a_ w1 (CX qx qy qd);have Kb:=aa (Qa.on Wc);have tc:=aa (Na.trans (.on Qa.lo Wc));clear Qa Na Wc)
  go_wp2_with (fail)
  go_ret2;exact .bad Wd.out ⟨_,Kb.out,tc.out⟩
end
end Go.Proofs.YtcfjimdfegejaaaGreatDoor
