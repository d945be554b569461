import Derived.Test.YtcfjimdfegejaaaGreatDoorQ16
set_option maxHeartbeats 8000000
set_option maxRecDepth 100000
namespace Go.Proofs.YtcfjimdfegejaaaGreatDoor
open IntKind renaming i64→G0,wrap_i64→YZ
open List renaming getElem?_cons_succ→V6,getElem?_eq_getElem→VY
open Go.Proofs.Tryz
open World renaming cell?_of_block→b_
open Nat renaming le_refl→n_
open Go.Proofs.Tryz renaming prog→p_
open Value renaming string→v_,int→i_
open Go.Joins renaming below_alloc1→a_
variable {B rb:Nat} {G:Nat->Prop} {P ga:ta} {since:Sn} {ba:List ma}
section
open Go.RowKit Go.Joins Go.Shelf
attribute [local go_sem ↓] Go.wp_at_zero Go.wp_at_succ
def zPp (w w':World) (e:Ending) (B rb:Nat) (G:Nat->Prop) (P:ta) (since:Sn) (ba:List ma) (r:Xg×ta):Prop:=∃ m:Xg,e=.returned (.tuple #[mV m,.int .i64 (r.1.2.2.2.2:Nat)])/\(r.1.2.2.2.2=0->m=r.1)/\Jc w w' B rb G P since ba r.2
theorem zKq (name:ByteArray) (n tries:Int) (w:World) (h:QR w B rb G P since ba ga) (hn:name.size<=900):
  Calls p_ 116 #[.pointer (some ⟨rb,0,none⟩),.string name,.int .i64 n,.int .i64 tries] w fun e w'=>zPp w w' e B rb G P since ba (dQ P ba ga name n tries):=by
 have HO:=aa ((nd.start h).box #[i_ .i64 0,i_ .i64 0,i_ .i64 0,v_ ⟨#[]⟩] 108);have Ga:=aa h.lo;have HF:=aa (fun W (hW:QR W B rb G P since ba ga)=>gZ name W hW hn);have ky:(Ta name (cP n)).size<=1000:=by rw[pS];omega
 have dp:=aa (uU h.ok (bC ba ga name) (Ta name (cP n)));have Wj:=aa (fun (G1:Nat->Prop) W (hW:QR W B rb G1 P since ba (bC ba ga name))=>PT (Ta name (cP n)) W hW ky);obtain⟨r0,r1,r2,r3,-⟩:=kn w DX rfl rfl;clear h;unfold dQ;generalize aN P ba ga name=q at *;rw[show cP n=(max n 0).toNat % 1000000 from rfl] at *;generalize Rb ba (bC ba ga name) P (Ta name ((max n 0).toNat % 1000000))=t at *;generalize Oe ba (bC ba ga name) (Ta name ((max n 0).toNat % 1000000))=Nh at *;generalize bC ba ga name=Ua at *;obtain⟨qx,qy,qd,er⟩:=q;obtain⟨tx,is,eg⟩:=t;dsimp only at HF dp Wj ⊢;refine dite (er=0) (fun h1=>?a) fun h1=>?z
 case' a=>
  subst h1;rw[if_pos rfl];refine dite (n<0∨999999<n∨tries<1) (fun hb=>?b) fun hb=>?c
  case' b=>
   rw[if_pos hb];have d1:decide (n<0)=true∨decide (n<0)=false/\(decide (999999<n)=true∨decide (999999<n)=false/\decide (tries<1)=true):=by simp;omega
   rcases d1 with d1|⟨d1,d2|⟨d2,d3⟩⟩
  case' c=>
   rw[if_neg hb];have d1:decide (n<0)=false:=by simp;omega
   have d2:decide (999999<n)=false:=by simp;omega
   have d3:decide (tries<1)=false:=by simp;omega
   unfold yH;dsimp only;refine dite (eg=0) (fun h2=>?d) fun h2=>?y
   case' d=>
    subst h2;rw[if_pos rfl]
    cases is with
    | false=>?f
    | true=>?g
   case' f=>rw[if_neg (by simp)]
   case' g=>
    rw[if_pos rfl];have ft:=aa (fun W=>FT tx n (by have:=dp.out;omega) W);generalize ud tx n=m at *;obtain⟨mk,mt,mu,md,em⟩:=m;dsimp only at ft ⊢;refine dite (em=0) (fun h3=>?h) fun h3=>?x
    case' h=>
     subst h3;rw[if_pos rfl];refine dite (mt=tries) (fun h4=>?i) fun h4=>?j
     case' i=>
      rw[if_pos h4];subst h4
     case' j=>
      rw[if_neg h4];have b1:(mt==tries)=false:=beq_eq_false_iff_ne.2 h4;have b2:(mt != tries)=true:=bne_iff_ne.2 h4
    case' x=>
     rw[if_neg h3];have b1:((em:Int)==0)=false:=beq_eq_false_iff_ne.2 (by omega);have c1:¬(em:Int)=0:=by omega
     have c2:¬em=0:=h3
   case' y=>
    rw[if_neg h2];have d4:decide (0<(eg:Int))=true:=decide_eq_true (by omega);have d5:0<(eg:Int):=by omega
 case' z=>
  rw[if_neg h1];have d1:decide (0<(er:Int))=true:=decide_eq_true (by omega);have d2:0<(er:Int):=by omega
 all_goals
  go_enter func116,ntmps116;go_wp2_with (fail)
  (go_at_call 61;refine(HF.out _ HO.out.qr).mono ?_;rintro e w1 ⟨rfl,ha⟩;obtain⟨G1,mc,kp⟩:=HO.out.act ha;have Ja:=a_ w1 (CX qx qy qd);have Pd:=aa (mc.on Ja);replace r0:=aA Ja ((b_ (kp w.heap.size (.inl rfl))).trans r0);replace r1:=aA Ja ((b_ (kp w.heap.size (.inl rfl))).trans r1);replace r2:=aA Ja ((b_ (kp w.heap.size (.inl rfl))).trans r2);replace r3:=aA Ja ((b_ (kp w.heap.size (.inl rfl))).trans r3);have fz:=(Pd.out.ow w.heap.size (.inl rfl)).2.2.2;clear ha mc kp Ja)
  go_wp2_with (fail)
  try
   (go_at_call 117;refine(gK name n _ (by omega) (by omega)).mono ?_;rintro e w2 ⟨rfl,za⟩;have Kc:=aa (Pd.out.on za);replace ⟨r0,r1,r2,r3⟩:=Ij za r0 r1 r2 r3;clear za fz)
   go_wp2_with (fail)
   (go_at_call 64;refine(Wj.out _ _ Kc.out.qr).mono ?_;rintro e w3 ⟨rfl,ha⟩;obtain⟨G3,Ae,kp⟩:=Kc.out.act ha;have Cf:=aa Ae;replace r0:=(b_ (kp w.heap.size (.inl rfl))).trans r0;replace r1:=(b_ (kp w.heap.size (.inl rfl))).trans r1;replace r2:=(b_ (kp w.heap.size (.inl rfl))).trans r2;replace r3:=(b_ (kp w.heap.size (.inl rfl))).trans r3;have fz:=(Cf.out.ow w.heap.size (.inl rfl)).2.2.2;clear ha Ae kp)
   go_wp2_with (fail)
   try
    (go_at_call 138;refine(ft.out _).mono ?_;rintro e w4 ⟨rfl,Eb⟩;have Ve:=a_ w4 (EX mk mt mu md);have yi:=aa ((Cf.out.on Eb).on Ve);replace r0:=aA Ve (aA Eb r0);replace r1:=aA Ve (aA Eb r1);replace r2:=aA Ve (aA Eb r2);replace r3:=aA Ve (aA Eb r3);clear fz;have fz:=(yi.out.ow w.heap.size (.inl rfl)).2.2.2;clear Eb Ve)
    go_wp2_with (fail)
 ·exact bodyPost_ret (v:=.tuple #[mV (Xe er),.int .i64 (er:Nat)]) (by simp[results,results116,go_sem,r0,r1,r2,r3]) rfl ⟨(Xe er),rfl,fun e=>absurd e h1,((((Pd.out.set Ga.out (b:=w.heap.size) (.inl rfl) 0 _).set Ga.out (b:=w.heap.size) (.inl rfl) 1 _).set Ga.out (b:=w.heap.size) (.inl rfl) 2 _).set Ga.out (b:=w.heap.size) (.inl rfl) 3 _).done⟩
 ·exact bodyPost_ret (v:=.tuple #[mV (Xe eg),.int .i64 (eg:Nat)]) (by simp[results,results116,go_sem,r0,r1,r2,r3]) rfl ⟨(Xe eg),rfl,fun e=>absurd e h2,((((Cf.out.set Ga.out (b:=w.heap.size) (.inl rfl) 0 _).set Ga.out (b:=w.heap.size) (.inl rfl) 1 _).set Ga.out (b:=w.heap.size) (.inl rfl) 2 _).set Ga.out (b:=w.heap.size) (.inl rfl) 3 _).done⟩
 ·exact bodyPost_ret (v:=.tuple #[mV (mk,mt,mu,md,em),.int .i64 (em:Nat)]) (by simp[results,results116,go_sem,r0,r1,r2,r3]) rfl ⟨(mk,mt,mu,md,em),rfl,fun e=>absurd e h3,((((yi.out.set Ga.out (b:=w.heap.size) (.inl rfl) 0 _).set Ga.out (b:=w.heap.size) (.inl rfl) 1 _).set Ga.out (b:=w.heap.size) (.inl rfl) 2 _).set Ga.out (b:=w.heap.size) (.inl rfl) 3 _).done⟩
 ·exact bodyPost_ret (v:=.tuple #[mV (mk,mt,mu,md,0),.int .i64 11]) (by simp[results,results116,go_sem,r0,r1,r2,r3]) rfl ⟨(mk,mt,mu,md,0),rfl,(fun e=>by cases e),((((yi.out.set Ga.out (b:=w.heap.size) (.inl rfl) 0 _).set Ga.out (b:=w.heap.size) (.inl rfl) 1 _).set Ga.out (b:=w.heap.size) (.inl rfl) 2 _).set Ga.out (b:=w.heap.size) (.inl rfl) 3 _).done⟩
 ·exact bodyPost_ret (v:=.tuple #[mV (mk,mt,mu,md,0),.int .i64 0]) (by simp[results,results116,go_sem,r0,r1,r2,r3]) rfl ⟨(mk,mt,mu,md,0),rfl,fun _=>rfl,((((yi.out.set Ga.out (b:=w.heap.size) (.inl rfl) 0 _).set Ga.out (b:=w.heap.size) (.inl rfl) 1 _).set Ga.out (b:=w.heap.size) (.inl rfl) 2 _).set Ga.out (b:=w.heap.size) (.inl rfl) 3 _).done⟩
 ·exact bodyPost_ret (v:=.tuple #[mV (Xe 11),.int .i64 11]) (by simp[results,results116,go_sem,r0,r1,r2,r3]) rfl ⟨(Xe 11),rfl,(fun e=>by cases e),((((Cf.out.set Ga.out (b:=w.heap.size) (.inl rfl) 0 _).set Ga.out (b:=w.heap.size) (.inl rfl) 1 _).set Ga.out (b:=w.heap.size) (.inl rfl) 2 _).set Ga.out (b:=w.heap.size) (.inl rfl) 3 _).done⟩
 iterate 3
  ·exact bodyPost_ret (v:=.tuple #[mV (Xe 1),.int .i64 1]) (by simp[results,results116,go_sem,r0,r1,r2,r3]) rfl ⟨(Xe 1),rfl,(fun e=>by cases e),((((Pd.out.set Ga.out (b:=w.heap.size) (.inl rfl) 0 _).set Ga.out (b:=w.heap.size) (.inl rfl) 1 _).set Ga.out (b:=w.heap.size) (.inl rfl) 2 _).set Ga.out (b:=w.heap.size) (.inl rfl) 3 _).done⟩
theorem zPo (n j:Nat) (hj:j<(Ge n).length):((Ge n)[j]'hj).toNat=48+n / 10 ^ (5-j) % 10:=by
 match j,(show j<6 from hj) with
 | 0,_=>exact iU n 5
 | 1,_=>exact iU n 4
 | 2,_=>exact iU n 3
 | 3,_=>exact iU n 2
 | 4,_=>exact iU n 1
 | 5,_=>exact iU n 0
theorem zOR (q:BA) (n k:Nat) (h1:q.size+3<=k) (h2:k<(Ta q n).size):((Ta q n)[k]'h2).toNat=48+n / 10 ^ (q.size+8-k) % 10:=by
 have hz:=pS q n;have ql:q.data.toList.length=q.size:=by rw[Array.length_toList];rfl
 have hl:=mN q n;have e1:(Ta q n).data.toList[k]?=some ((Ta q n)[k]'h2):=by
  rw[VY (by rw[Array.length_toList];exact h2)];rfl
 obtain⟨j,rfl⟩:∃ j,k=q.data.toList.length+j+3:=⟨k-q.size-3,by omega⟩;have hj:j<6:=by omega
 have e2:(109::47::(q.data.toList++47::Ge n))[q.data.toList.length+j+3]?=(Ge n)[j]?:=by
  rw[V6,V6,show q.data.toList.length+j+1=q.data.toList.length+(j+1) by omega,List.getElem?_append_right (by omega)];simp
 rw[hl,e2,VY (show j<(Ge n).length from hj)] at e1;refine(congrArg UInt8.toNat (Option.some.inj e1).symm).trans ((zPo n j hj).trans ?_);rw[show q.size+8-(q.data.toList.length+j+3)=5-j by omega]
theorem zCh (q:BA) (n:Nat) (w:World) (hq:q.size<=1000) (hn:n<=999999):Calls p_ 139 #[.string (Ta q n)] w fun e w'=>e=.returned (.int .i64 n)/\w'=w:=by
 have hz:=pS q n;have HB:=aa (fun k h1 h2=>zOR q n k h1 h2);generalize Ta q n=K at *;have hw0:G0.wrap ((K.size:Int)-6)=((q.size+3:Nat):Int):=by rw[YZ];omega
 have HZ:=aa hz;clear hz;go_enter func139,ntmps139;go_wp2
 go_loop [3,4] (fun v i=>∃ k:Nat,q.size+3<=k/\k<=K.size/\i=.int .i64 (k:Int)/\v=.int .i64 ((n / 10 ^ (K.size-k):Nat):Int)) (fun _ i=>K.size-(intOf i).toNat)
 case atStart=>exact⟨q.size+3,n_ _,by have:=HZ.out;omega,rfl,by rw[show K.size-(q.size+3)=6 by have:=HZ.out;omega,Nat.div_eq_of_lt (by omega)];rfl⟩
 case round=>
  obtain⟨k,ml,lf,rfl,rfl⟩:=hrel;by_cases Aa:k<K.size
  ·have Za:(k:Int)<(K.size:Int):=by omega
   have hb:=HB.out k ml Aa;have a0t:n / 10 ^ (q.size+8-k) % 10<10:=Nat.mod_lt _ (by omega);have HS:Hid (n / 10 ^ (K.size-(k+1))=10*(n / 10 ^ (K.size-k))+n / 10 ^ (q.size+8-k) % 10):=aa (by
    rw[show K.size-k=(q.size+8-k)+1 by have:=HZ.out;omega,show K.size-(k+1)=q.size+8-k by have:=HZ.out;omega,Nat.pow_succ,<-Nat.div_div_eq_div_mul];omega)
   have fe:n / 10 ^ (K.size-k)<=n:=Nat.div_le_self _ _;generalize n / 10 ^ (K.size-k)=N at *;generalize n / 10 ^ (q.size+8-k) % 10=d at *;have w1:G0.wrap (10*(N:Int))=10*(N:Int):=by rw[YZ];omega
   have w2:IntKind.u8.wrap (((K[k]'Aa).toNat:Int)-48)=(d:Int):=by rw[hb,show(((48+d:Nat):Int)-48)=(d:Int) by omega,IntKind.wrap_u8];omega
   have w3:G0.wrap (d:Int)=(d:Int):=by rw[YZ];omega
   have w4:G0.wrap (10*(N:Int)+(d:Int))=10*(N:Int)+(d:Int):=by rw[YZ];omega
   have w5:G0.wrap ((k:Int)+1)=(k:Int)+1:=by have:=HZ.out;rw[YZ];omega
   have UT:=aa hb;clear hb;go_wp2;exact⟨⟨k+1,by omega,by omega,rfl,by rw[HS.out];rfl⟩,by simp[intOf];omega⟩
  ·have ek:k=K.size:=by omega
   subst ek;have Za:¬(K.size:Int)<(K.size:Int):=by omega
   go_wp2;go_ret;exact⟨rfl,rfl⟩
theorem zNo (name:BA) (n tries:Int) (w:World) (h:QR w B rb G P since ba ga) (hn:name.size<=900) (ml:n<=9223372036854775807):
  Calls p_ 57 #[.pointer (some ⟨rb,0,none⟩),.string name,.int .i64 n,.int .i64 tries] w fun e w'=>e=.returned (.int .i64 ((pk P ba ga name n tries).1:Nat))/\Jc w w' B rb G P since (pk P ba ga name n tries).2.1 (pk P ba ga name n tries).2.2:=by
 have HH:=aa (zKq name n tries w h hn);have ky:(Ta name (cP n)).size<=1000:=by rw[pS];omega
 have HP:=aa (fun (G1:Nat->Prop) (r:ta) W (hW:QR W B rb G1 P since ba r)=>lO ⟨Ta name (cP n),⟨#[]⟩,true⟩ W hW ky);unfold pk;rw[show cP n=(max n 0).toNat % 1000000 from rfl] at *;clear h;generalize dQ P ba ga name n tries=q at *;obtain⟨⟨qk,qt,qu,qd,em⟩,Ua⟩:=q;dsimp only at HH ⊢;by_cases h1:em=0
 ·subst h1;rw[if_pos rfl];go_enter func57,ntmps57;go_wp2_with (fail)
  (go_at_call 116;refine HH.out.mono ?_;rintro e w1 ⟨m,rfl,hm,ha⟩;clear hm;obtain⟨G1,Qa,Na⟩:=ha;obtain⟨mk,mt,mu,md,me⟩:=m;have Ja:=a_ w1 (EX mk mt mu md);have Kb:=aa (Qa.on Ja);have tc:=aa (Na.trans (.on Qa.lo Ja));clear Qa Na Ja;dsimp only)
  go_wp2_with (fail)
  (go_at_call 117;refine(gK name n _ (by omega) ml).mono ?_;rintro e w2 ⟨rfl,za⟩;replace tc:=aa (tc.out.trans (.on Kb.out.lo za));replace Kb:=aa (Kb.out.on za);clear za)
  go_wp2_with (fail)
  (go_at_call 62;refine(HP.out _ _ _ Kb.out).mono ?_;rintro e w3 ⟨rfl,ha⟩;have HA:=aa (Jc.after tc.out ha);clear ha)
  go_wp2_with (fail)
  go_ret;exact⟨rfl,HA.out⟩
 ·rw[if_neg h1];have d0:decide (0<(em:Int))=true:=decide_eq_true (by omega);have d1:0<(em:Int):=by omega
  clear h1;go_enter func57,ntmps57;go_wp2_with (fail)
  (go_at_call 116;refine HH.out.mono ?_;rintro e w1 ⟨m,rfl,hm,ha⟩;clear hm;obtain⟨G1,Qa,Na⟩:=ha;obtain⟨mk,mt,mu,md,me⟩:=m;have Ja:=a_ w1 (EX mk mt mu md);have Kb:=aa (Qa.on Ja);have tc:=aa (Na.trans (.on Qa.lo Ja));clear Qa Na Ja;dsimp only)
  go_wp2_with (fail)
  go_ret;exact⟨rfl,_,Kb.out,tc.out⟩
theorem zNV {name:BA} {n tries:Int} (h:(dQ P ba ga name n tries).1.2.2.2.2=0):(dQ P ba ga name n tries).1.1=n/\0<=n/\n<=999999:=by
 unfold dQ at h ⊢;split at h
 ·rename_i h0;rw[if_pos h0];split at h
  ·cases h
  ·rename_i h1;rw[if_neg h1];refine⟨?_,by omega,by omega⟩;dsimp only at h ⊢;unfold yH at h ⊢;split at h
   ·rename_i h2;rw[if_pos h2];split at h
    ·rename_i h3;rw[if_pos h3];split at h
     ·rename_i h4;rw[if_pos h4];split at h
      ·rename_i h5;rw[if_pos h5];rcases oB (Rb ba (bC ba ga name) P (Ta name (cP n))).1 n with⟨t,u,d,e,_⟩|⟨e,_⟩
       ·rw[e]
       ·rw[e] at h4;cases h4
      ·cases h
     ·exact absurd h (by assumption)
    ·cases h
   ·exact absurd h (by assumption)
 ·rename_i h0;exact absurd h h0
theorem zKE (name:BA) (n tries na:Int) (w:World) (h:QR w B rb G P since ba ga) (hn:name.size<=900) (ml:n<=9223372036854775807):
  Calls p_ 59 #[.pointer (some ⟨rb,0,none⟩),.string name,.int .i64 n,.int .i64 tries,.int .i64 na] w fun e w'=>e=.returned (.int .i64 ((iZ P ba ga name n tries na).1:Nat))/\Jc w w' B rb G P since (iZ P ba ga name n tries na).2.1 (iZ P ba ga name n tries na).2.2:=by
 have HH:=aa (zKq name n tries w h hn);have HZ:=aa (fun h=>zNV (P:=P) (ba:=ba) (ga:=ga) (name:=name) (n:=n) (tries:=tries) h);have ky:(Ta name (cP n)).size<=1000:=by rw[pS];omega
 have HP:=aa (fun (v:BA) (G1:Nat->Prop) (r:ta) W (hW:QR W B rb G1 P since ba r)=>lO ⟨Ta name (cP n),v,false⟩ W hW ky);unfold iZ;clear h;generalize dQ P ba ga name n tries=q at *;obtain⟨⟨qk,qt,qu,qd,em⟩,Ua⟩:=q;dsimp only at HH HZ ⊢;by_cases h1:em=0
 ·subst h1;rw[if_pos rfl];obtain⟨hqk,_,_⟩:=HZ.out rfl;subst hqk;clear HZ
  cases Rj:fC na with
  | false=>
   rw[if_neg (by simp)];have Yk:Hid ((!fC na)=true):=aa (by rw[Rj];rfl);clear Rj HP;go_enter func59,ntmps59;go_wp2_with (fail)
   (go_at_call 116;refine HH.out.mono ?_;rintro e w1 ⟨m,rfl,hm,ha⟩;obtain rfl:=hm rfl;clear hm;obtain⟨G1,Qa,Na⟩:=ha;have Kb:=aa Qa;have tc:=aa Na;have Ja:=a_ w1 (EX qk qt qu qd);have Cg:=aa (Qa.on Ja);have yf:=aa (Na.trans (.on Qa.lo Ja));clear Qa Na Ja;dsimp only)
   go_wp2_with (fail)
   (go_at_call 108;refine(fP na _).mono ?_;rintro e wT ⟨rfl,rfl⟩;rw[Yk.out])
   go_wp2_with (fail)
   go_ret;exact⟨rfl,_,Cg.out,yf.out⟩
  | true=>
   rw[if_pos rfl];have Yk:Hid ((!fC na)=false):=aa (by rw[Rj];rfl);clear Rj;have HT:=aa (fun W=>LS qk qt na qd W);unfold mK nA;rw[show cP qk=(max qk 0).toNat % 1000000 from rfl] at *;generalize nD qt na qd=t at *;obtain⟨tx,et⟩:=t;dsimp only at HT ⊢;by_cases h0:et=0
   ·subst h0;rw[if_pos rfl,if_pos rfl];go_enter func59,ntmps59;go_wp2_with (fail)
    (go_at_call 116;refine HH.out.mono ?_;rintro e w1 ⟨m,rfl,hm,ha⟩;obtain rfl:=hm rfl;clear hm;obtain⟨G1,Qa,Na⟩:=ha;have Kb:=aa Qa;have tc:=aa Na;have Ja:=a_ w1 (EX qk qt qu qd);have Cg:=aa (Qa.on Ja);have yf:=aa (Na.trans (.on Qa.lo Ja));clear Qa Na Ja;dsimp only)
    go_wp2_with (fail)
    (go_at_call 108;refine(fP na _).mono ?_;rintro e wT ⟨rfl,rfl⟩;rw[Yk.out])
    go_wp2_with (fail)
    (go_at_call 119;have Ja:=a_ w1 (EX qk qt na qd);refine(HT.out _).mono ?_;rintro e w3 ⟨rfl,Ra⟩;have Lj:=aa ((Kb.out.on Ja).on Ra);have Sh:=aa ((tc.out.trans (.on Kb.out.lo Ja)).trans (.on (Kb.out.on Ja).lo Ra));clear Ja Ra)
    go_wp2_with (fail)
    (go_at_call 117;refine(gK name qk _ (by omega) ml).mono ?_;rintro e w4 ⟨rfl,Eb⟩;have HQ4:=aa (Lj.out.on Eb);have TL:=aa (Sh.out.trans (.on Lj.out.lo Eb));clear Eb)
    go_wp2_with (fail)
    (go_at_call 62;refine(HP.out _ _ _ _ HQ4.out).mono ?_;rintro e w5 ⟨rfl,ha⟩;have HA:=aa (Jc.after TL.out ha);clear ha)
    go_wp2_with (fail)
    go_ret;exact⟨rfl,HA.out⟩
   ·rw[if_neg h0,if_neg h0];have d0:decide (0<(et:Int))=true:=decide_eq_true (by omega);have d1:0<(et:Int):=by omega
    clear h0;go_enter func59,ntmps59;go_wp2_with (fail)
    (go_at_call 116;refine HH.out.mono ?_;rintro e w1 ⟨m,rfl,hm,ha⟩;obtain rfl:=hm rfl;clear hm;obtain⟨G1,Qa,Na⟩:=ha;have Kb:=aa Qa;have tc:=aa Na;have Ja:=a_ w1 (EX qk qt qu qd);have Cg:=aa (Qa.on Ja);have yf:=aa (Na.trans (.on Qa.lo Ja));clear Qa Na Ja;dsimp only)
    go_wp2_with (fail)
    (go_at_call 108;refine(fP na _).mono ?_;rintro e wT ⟨rfl,rfl⟩;rw[Yk.out])
    go_wp2_with (fail)
    (go_at_call 119;have Ja:=a_ w1 (EX qk qt na qd);refine(HT.out _).mono ?_;rintro e w3 ⟨rfl,Ra⟩;have Lj:=aa ((Kb.out.on Ja).on Ra);have Sh:=aa ((tc.out.trans (.on Kb.out.lo Ja)).trans (.on (Kb.out.on Ja).lo Ra));clear Ja Ra)
    go_wp2_with (fail)
    go_ret;exact⟨rfl,_,Lj.out,Sh.out⟩
 ·rw[if_neg h1];have d0:decide (0<(em:Int))=true:=decide_eq_true (by omega);have d1:0<(em:Int):=by omega
  clear h1 HZ;go_enter func59,ntmps59;go_wp2_with (fail)
  (go_at_call 116;refine HH.out.mono ?_;rintro e w1 ⟨m,rfl,hm,ha⟩;clear hm;obtain⟨mk,mt,mu,md,me⟩:=m;obtain⟨G1,Qa,Na⟩:=ha;have Kb:=aa Qa;have tc:=aa Na;have Ja:=a_ w1 (EX mk mt mu md);have Cg:=aa (Qa.on Ja);have yf:=aa (Na.trans (.on Qa.lo Ja));clear Qa Na Ja;dsimp only)
  go_wp2_with (fail)
  go_ret;exact⟨rfl,_,Cg.out,yf.out⟩
end
end Go.Proofs.YtcfjimdfegejaaaGreatDoor
