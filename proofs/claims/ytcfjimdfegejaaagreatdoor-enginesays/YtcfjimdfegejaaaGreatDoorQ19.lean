import Derived.Test.YtcfjimdfegejaaaGreatDoorQ16
set_option maxHeartbeats 8000000
set_option maxRecDepth 100000
namespace Go.Proofs.YtcfjimdfegejaaaGreatDoor
open Go.Proofs.Tryz
open World renaming cell?_of_block→b_
open Go.Proofs.Tryz renaming prog→p_
open Value renaming string→v_,int→i_
open Go.Joins renaming below_alloc1→a_
section
open Go.RowKit Go.Joins Go.Shelf
attribute [local go_sem ↓] Go.wp_at_zero Go.wp_at_succ
def zOC (B rb:Nat) (P:ta) (since:Sn):Prop:=∀ (name:ByteArray) (qx tries:Int) (Ca:ByteArray) (now long:Int) (G:Nat->Prop) (ba:List ma) (ga:ta) (w:World),QR w B rb G P since ba ga->bK name.data.toList=true->Ca.size<=900->tries<=9->IntKind.i64.wrap (now+long)=now+long->
  Calls p_ 113 #[.pointer (some ⟨rb,0,none⟩),.string name,.agg #[.int .i64 qx,.int .i64 tries,.string Ca],.int .i64 now,.int .i64 long] w fun e w'=>e=.returned (.tuple #[mV (eO P name tries Ca now (now+long) 1000001 ba ga (aZ name)).1,.int .i64 ((eO P name tries Ca now (now+long) 1000001 ba ga (aZ name)).1.2.2.2.2:Nat)])/\Jc w w' B rb G P since (eO P name tries Ca now (now+long) 1000001 ba ga (aZ name)).2.1 (eO P name tries Ca now (now+long) 1000001 ba ga (aZ name)).2.2
theorem zIF (name:ByteArray) (now long:Int) {B rb:Nat} {G:Nat->Prop} {P:ta} {since:Sn} {ba:List ma} {ga:ta} (w:World) (h:QR w B rb G P since ba ga) (hn:name.size<=900) (MI:zOC B rb P since):
  Calls p_ 55 #[.pointer (some ⟨rb,0,none⟩),.string name,.int .i64 now,.int .i64 long] w fun e w'=>e=.returned (.tuple #[mV (dK P ba ga name now long).1,.int .i64 ((dK P ba ga name now long).1.2.2.2.2:Nat)])/\Jc w w' B rb G P since (dK P ba ga name now long).2.1 (dK P ba ga name now long).2.2:=by
 have HO:=aa ((nd.start h).box #[i_ .i64 0,i_ .i64 0,i_ .i64 0,v_ ⟨#[]⟩] 108);have Ga:=aa h.lo;have HF:=aa (fun W (hW:QR W B rb G P since ba ga)=>gZ name W hW hn);have Kf:=aa (fun h=>xJ (P:=P) (ba:=ba) (ga:=ga) (name:=name) h);have rj:Hid ((aN P ba ga name).2.2.2=0->bK name.data.toList=true):=aa (fun he=>by unfold aN at he;split at he;assumption;cases he);obtain⟨r0,r1,r2,r3,-⟩:=kn w DX rfl rfl;clear h;unfold dK;generalize aN P ba ga name=q at *;generalize bC ba ga name=Ua at *;obtain⟨qx,qy,qd,er⟩:=q;dsimp only at HF Kf rj ⊢;refine dite (er=0) (fun h1=>?a) fun h1=>?z
 case' a=>
  subst h1;rw[if_pos rfl];obtain⟨jo,dh,MC,SI,IQ⟩:=Kf.out rfl;have Jl:=aa (rj.out rfl);clear Kf rj;refine dite (fC now=true/\fC long=true) (fun ht=>?b) fun ht=>?c
  case' b=>
   rw[if_pos ht];obtain⟨yy,zy⟩:=ht;obtain⟨t0,t1⟩:=oW yy;obtain⟨t2,t3⟩:=oW zy;have NA:Hid ((!fC now)=false):=aa (by rw[yy];rfl);have OA:Hid ((!fC long)=false):=aa (by rw[zy];rfl);clear yy zy;have SV:=aa (fun (G1:Nat->Prop) (W:World) (hW:QR W B rb G1 P since ba Ua)=>MI name qx qy qd now long G1 ba Ua W hW Jl.out (by omega) IQ (by rw[IntKind.wrap_i64];omega));clear MI;generalize eO P name qy qd now (now+long) 1000001 ba Ua (aZ name)=r at *;obtain⟨⟨mk,mt,mu,md,em⟩,UA,Nh⟩:=r;dsimp only at SV ⊢;refine dite (em=0) (fun hz=>?d) fun hz=>?e
   case' d=>
    subst hz;rw[if_pos rfl]
   case' e=>
    rw[if_neg hz];have d0:decide (0<(em:Int))=true:=decide_eq_true (by omega);have d1:0<(em:Int):=by omega
    clear hz
  case' c=>
   rw[if_neg ht];have hv:((!fC now)=true/\(!fC long)=true)∨((!fC now)=true/\(!fC long)=false)∨((!fC now)=false/\(!fC long)=true):=by revert ht;cases fC now<;>cases fC long<;>simp
   clear ht MI;rcases hv with⟨h1,h2⟩|⟨h1,h2⟩|⟨h1,h2⟩
   all_goals
    have NA:=aa h1;have OA:=aa h2;clear h1 h2
 case' z=>
  rw[if_neg h1];have d0:decide (0<(er:Int))=true:=decide_eq_true (by omega);have d1:0<(er:Int):=by omega
  clear h1 Kf rj MI
 all_goals
  go_enter func55,ntmps55;go_wp2_with (fail)
  (go_at_call 61;refine(HF.out _ HO.out.qr).mono ?_;rintro e w1 ⟨rfl,ha⟩;obtain⟨G1,mc,kp⟩:=HO.out.act ha;have Ja:=a_ w1 (CX qx qy qd);have Pd:=aa (mc.on Ja);replace r0:=aA Ja ((b_ (kp w.heap.size (.inl rfl))).trans r0);replace r1:=aA Ja ((b_ (kp w.heap.size (.inl rfl))).trans r1);replace r2:=aA Ja ((b_ (kp w.heap.size (.inl rfl))).trans r2);replace r3:=aA Ja ((b_ (kp w.heap.size (.inl rfl))).trans r3);have fz:=(Pd.out.ow w.heap.size (.inl rfl)).2.2.2;have q0:=aC w1 #[i_ .i64 qx,i_ .i64 qy,v_ qd] 118 0;have q1:=aC w1 #[i_ .i64 qx,i_ .i64 qy,v_ qd] 118 1;have q2:=aC w1 #[i_ .i64 qx,i_ .i64 qy,v_ qd] 118 2;obtain⟨ca,cc,m2,Fo,Ko,Eo⟩:=Pd.out.qr.mark;have Nw:=aa Fo;have jt:=aa Ko;have Lw:=aa Eo;clear ha mc kp Ja Fo Ko Eo)
  go_wp2_with (fail)
  try
   (go_at_call 108;refine(fP now _).mono ?_;rintro e wT ⟨rfl,rfl⟩;rw[NA.out])
   go_wp2_with (fail)
   (go_at_call 108;refine(fP long _).mono ?_;rintro e wT ⟨rfl,rfl⟩;rw[OA.out])
   go_wp2_with (fail)
   try
    (go_at_call 113;refine(SV.out _ _ Pd.out.qr).mono ?_;rintro e w3 ⟨rfl,ha⟩;obtain⟨G3,Bl,Tf⟩:=ha;obtain⟨Ae,Hs⟩:=Pd.out.yd Bl Tf;have Ve:=a_ w3 (EX mk mt mu md);have Cf:=aa (Ae.on Ve);clear fz;have fz:=(Cf.out.ow w.heap.size (.inl rfl)).2.2.2;obtain⟨fzb,⟨vb,m3⟩,Xl⟩:=NT (cc:=cc) Pd.out.qr Nw.out jt.out Lw.out (Bl.on Ve) (Tf.trans (.on Bl.lo Ve));obtain⟨G4,Xm,KF⟩:=Pd.out.act Xl;have yi:=aa Xm;have RM:=(yi.out.ow w.heap.size (.inl rfl)).2.2.2;have p0:=(b_ (KF w.heap.size (.inl rfl))).trans r0;have p1:=(b_ (KF w.heap.size (.inl rfl))).trans r1;have p2:=(b_ (KF w.heap.size (.inl rfl))).trans r2;have p3:=(b_ (KF w.heap.size (.inl rfl))).trans r3;replace r0:=aA Ve ((b_ (Hs w.heap.size (.inl rfl))).trans r0);replace r1:=aA Ve ((b_ (Hs w.heap.size (.inl rfl))).trans r1);replace r2:=aA Ve ((b_ (Hs w.heap.size (.inl rfl))).trans r2);replace r3:=aA Ve ((b_ (Hs w.heap.size (.inl rfl))).trans r3);clear Bl Tf Ae Hs Ve Xl Xm KF)
    go_wp2_with (fail)
 ·exact bodyPost_ret (v:=.tuple #[mV (Xe er),.int .i64 (er:Nat)]) (by simp[results,results55,go_sem,r0,r1,r2,r3]) rfl ⟨rfl,((((Pd.out.set Ga.out (b:=w.heap.size) (.inl rfl) 0 _).set Ga.out (b:=w.heap.size) (.inl rfl) 1 _).set Ga.out (b:=w.heap.size) (.inl rfl) 2 _).set Ga.out (b:=w.heap.size) (.inl rfl) 3 _).done⟩
 iterate 3
  ·exact bodyPost_ret (v:=.tuple #[mV (Xe 1),.int .i64 1]) (by simp[results,results55,go_sem,r0,r1,r2,r3]) rfl ⟨rfl,((((Pd.out.set Ga.out (b:=w.heap.size) (.inl rfl) 0 _).set Ga.out (b:=w.heap.size) (.inl rfl) 1 _).set Ga.out (b:=w.heap.size) (.inl rfl) 2 _).set Ga.out (b:=w.heap.size) (.inl rfl) 3 _).done⟩
 ·exact bodyPost_ret (v:=.tuple #[mV (Xe em),.int .i64 (em:Nat)]) (by simp[results,results55,go_sem,p0,p1,p2,p3]) rfl ⟨rfl,((((yi.out.set Ga.out (b:=w.heap.size) (.inl rfl) 0 _).set Ga.out (b:=w.heap.size) (.inl rfl) 1 _).set Ga.out (b:=w.heap.size) (.inl rfl) 2 _).set Ga.out (b:=w.heap.size) (.inl rfl) 3 _).done⟩
 ·exact bodyPost_ret (v:=.tuple #[mV (mk,mt,mu,md,0),.int .i64 0]) (by simp[results,results55,go_sem,r0,r1,r2,r3]) rfl ⟨rfl,((((Cf.out.set Ga.out (b:=w.heap.size) (.inl rfl) 0 _).set Ga.out (b:=w.heap.size) (.inl rfl) 1 _).set Ga.out (b:=w.heap.size) (.inl rfl) 2 _).set Ga.out (b:=w.heap.size) (.inl rfl) 3 _).done⟩
end
end Go.Proofs.YtcfjimdfegejaaaGreatDoor
