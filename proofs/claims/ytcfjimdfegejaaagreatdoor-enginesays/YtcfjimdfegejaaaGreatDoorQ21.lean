import Derived.Test.YtcfjimdfegejaaaGreatDoorQ16
set_option maxHeartbeats 8000000
set_option maxRecDepth 100000
namespace Go.Proofs.YtcfjimdfegejaaaGreatDoor
open Go.Proofs.Tryz
open Go.Proofs.Tryz renaming prog→p_
open Value renaming string→v_,int→i_
open Go.Joins renaming below_alloc1→a_
section
open Go.RowKit Go.Joins Go.Shelf
attribute [local go_sem ↓] Go.wp_at_zero Go.wp_at_succ
theorem zOy (name body:ByteArray) (na:Int) {B rb:Nat} {G:Nat->Prop} {P:ta} {since:Sn} {ba:List ma} {ga:ta} (w:World) (h:QR w B rb G P since ba ga) (hn:name.size<=900):
  Calls p_ 53 #[.pointer (some ⟨rb,0,none⟩),.string name,.string body,.int .i64 na] w fun e w'=>e=.returned (.tuple #[.int .i64 (fN P ba ga name body na).1,.int .i64 ((fN P ba ga name body na).2.1:Nat)])/\Jc w w' B rb G P since (fN P ba ga name body na).2.2.1 (fN P ba ga name body na).2.2.2:=by
 have HF:=aa (gZ name w h hn);have Kf:=aa (fun h=>xJ (P:=P) (ba:=ba) (ga:=ga) (name:=name) h);unfold fN;clear h;generalize aN P ba ga name=q at *;generalize bC ba ga name=Ua at *;obtain⟨qx,qy,qd,er⟩:=q;dsimp only at HF Kf ⊢;by_cases h1:er=0
 ·subst h1;rw[if_pos rfl];obtain⟨jo,dh,MC,_,_⟩:=Kf.out rfl;clear Kf
  cases Rj:fC na with
  | false=>
   rw[if_neg (by simp)];have Yk:Hid ((!fC na)=true):=aa (by rw[Rj];rfl);clear Rj;go_enter func53,ntmps53;go_wp2_with (fail)
   (go_at_call 61;refine HF.out.mono ?_;rintro e w1 ⟨rfl,ha⟩;obtain⟨G1,Qa,Na⟩:=ha;have Ja:=a_ w1 (CX qx qy qd);have Kb:=aa (Qa.on Ja);have tc:=aa (Na.trans (.on Qa.lo Ja));have q0:=aC w1 #[i_ .i64 qx,i_ .i64 qy,v_ qd] 118 0;have q1:=aC w1 #[i_ .i64 qx,i_ .i64 qy,v_ qd] 118 1;have q2:=aC w1 #[i_ .i64 qx,i_ .i64 qy,v_ qd] 118 2;obtain⟨ca,cc,m2,Fo,Ko,Eo⟩:=Kb.out.mark;have Nw:=aa Fo;have jt:=aa Ko;have Lw:=aa Eo;clear Qa Na Ja Fo Ko Eo)
   go_wp2_with (fail)
   (go_at_call 108;refine(fP na _).mono ?_;rintro e wT ⟨rfl,rfl⟩;rw[Yk.out])
   go_wp2_with (fail)
   go_ret2;exact⟨rfl,G1,Kb.out,tc.out⟩
  | true=>
   rw[if_pos rfl];have Yk:Hid ((!fC na)=false):=aa (by rw[Rj];rfl);clear Rj;have du:=aa (fun (G1:Nat->Prop) (W:World) (hW:QR W B rb G1 P since ba Ua)=>zEd name qx qy qd body na W hW hn (by omega) jo dh);generalize Me ba name qx qy qd body na=r at *;obtain⟨rk,rf,a0S⟩:=r;dsimp only at du ⊢;by_cases hz:rf=0
   ·subst hz;rw[if_pos rfl];go_enter func53,ntmps53;go_wp2_with (fail)
    (go_at_call 61;refine HF.out.mono ?_;rintro e w1 ⟨rfl,ha⟩;obtain⟨G1,Qa,Na⟩:=ha;have Ja:=a_ w1 (CX qx qy qd);have Kb:=aa (Qa.on Ja);have tc:=aa (Na.trans (.on Qa.lo Ja));have q0:=aC w1 #[i_ .i64 qx,i_ .i64 qy,v_ qd] 118 0;have q1:=aC w1 #[i_ .i64 qx,i_ .i64 qy,v_ qd] 118 1;have q2:=aC w1 #[i_ .i64 qx,i_ .i64 qy,v_ qd] 118 2;obtain⟨ca,cc,m2,Fo,Ko,Eo⟩:=Kb.out.mark;have Nw:=aa Fo;have jt:=aa Ko;have Lw:=aa Eo;clear Qa Na Ja Fo Ko Eo)
    go_wp2_with (fail)
    (go_at_call 108;refine(fP na _).mono ?_;rintro e wT ⟨rfl,rfl⟩;rw[Yk.out])
    go_wp2_with (fail)
    (go_at_call 109;refine(du.out _ _ Kb.out).mono ?_;rintro e w3 ⟨rfl,ha⟩;obtain⟨G3,Bl,Tf⟩:=ha;have Lj:=aa Bl;have Sh:=aa Tf;obtain⟨fz,⟨vb,m3⟩,Xl⟩:=NT (cc:=cc) Kb.out Nw.out jt.out Lw.out Bl Tf;have Jz:=aa Xl;clear Bl Tf Xl)
    go_wp2_with (fail)
    go_ret2;exact⟨rfl,Jc.after tc.out ⟨G3,Lj.out,Sh.out⟩⟩
   ·rw[if_neg hz];have d0:decide (0<(rf:Int))=true:=decide_eq_true (by omega);have d1:0<(rf:Int):=by omega
    clear hz;go_enter func53,ntmps53;go_wp2_with (fail)
    (go_at_call 61;refine HF.out.mono ?_;rintro e w1 ⟨rfl,ha⟩;obtain⟨G1,Qa,Na⟩:=ha;have Ja:=a_ w1 (CX qx qy qd);have Kb:=aa (Qa.on Ja);have tc:=aa (Na.trans (.on Qa.lo Ja));have q0:=aC w1 #[i_ .i64 qx,i_ .i64 qy,v_ qd] 118 0;have q1:=aC w1 #[i_ .i64 qx,i_ .i64 qy,v_ qd] 118 1;have q2:=aC w1 #[i_ .i64 qx,i_ .i64 qy,v_ qd] 118 2;obtain⟨ca,cc,m2,Fo,Ko,Eo⟩:=Kb.out.mark;have Nw:=aa Fo;have jt:=aa Ko;have Lw:=aa Eo;clear Qa Na Ja Fo Ko Eo)
    go_wp2_with (fail)
    (go_at_call 108;refine(fP na _).mono ?_;rintro e wT ⟨rfl,rfl⟩;rw[Yk.out])
    go_wp2_with (fail)
    (go_at_call 109;refine(du.out _ _ Kb.out).mono ?_;rintro e w3 ⟨rfl,ha⟩;obtain⟨G3,Bl,Tf⟩:=ha;have Lj:=aa Bl;have Sh:=aa Tf;obtain⟨fz,⟨vb,m3⟩,Xl⟩:=NT (cc:=cc) Kb.out Nw.out jt.out Lw.out Bl Tf;have Jz:=aa Xl;clear Bl Tf Xl)
    go_wp2_with (fail)
    go_ret2;exact⟨rfl,Jc.after tc.out Jz.out⟩
 ·rw[if_neg h1];have d0:decide (0<(er:Int))=true:=decide_eq_true (by omega);have d1:0<(er:Int):=by omega
  clear h1 Kf;go_enter func53,ntmps53;go_wp2_with (fail)
  (go_at_call 61;refine HF.out.mono ?_;rintro e w1 ⟨rfl,ha⟩;obtain⟨G1,Qa,Na⟩:=ha;have Ja:=a_ w1 (CX qx qy qd);have Kb:=aa (Qa.on Ja);have tc:=aa (Na.trans (.on Qa.lo Ja));have q0:=aC w1 #[i_ .i64 qx,i_ .i64 qy,v_ qd] 118 0;have q1:=aC w1 #[i_ .i64 qx,i_ .i64 qy,v_ qd] 118 1;have q2:=aC w1 #[i_ .i64 qx,i_ .i64 qy,v_ qd] 118 2;obtain⟨ca,cc,m2,Fo,Ko,Eo⟩:=Kb.out.mark;have Nw:=aa Fo;have jt:=aa Ko;have Lw:=aa Eo;clear Qa Na Ja Fo Ko Eo)
  go_wp2_with (fail)
  go_ret2;exact⟨rfl,G1,Kb.out,tc.out⟩
end
end Go.Proofs.YtcfjimdfegejaaaGreatDoor
