import Derived.Test.YtnboipekkahmnaaGreatDoorE25
set_option maxHeartbeats 8000000
set_option maxRecDepth 100000
namespace Go.Proofs.YtnboipekkahmnaaGreatDoor
section
open Go.RowKit Go.Joins Go.Shelf
attribute [local go_sem ↓] Go.wp_at_zero Go.wp_at_succ
theorem topAlone_walk (l:List ActL) (ao:Option Addr) (cap:Nat) (l2:List ActL) (ao2:Option Addr) (cap2:Nat) (w:World) (hL:Laid w) (hd:iM w ao l) (hd2:iM w ao2 l2):
  Calls Tryz.prog 5 #[.slice ao l.length cap,.slice ao2 l2.length cap2] w fun e w'=>e=.returned (.bool true)/\Below w.heap.size w w':=by
 have nn:=eG
 have HL:=hide hL
 have HD:=hide hd
 have HDD:=hide hd2
 clear hL hd hd2
 go_enter Tryz.func5,Tryz.ntmps5
 go_wp2_with fail
 refine(zHJ w).mono ?_
 rintro e w1 ⟨rfl,hb1⟩
 have HB1:=hide hb1
 have HD1:=hide (zHR hb1 HD.out)
 have HDD1:=hide (zHR hb1 HDD.out)
 clear hb1
 go_wp2_with fail
 refine(zCZ l 60 cap ao w1 HD1.out (by omega)).mono ?_
 rintro e w2 ⟨rfl,hw2⟩
 rw[hw2]
 clear hw2
 cases hlA:gT l 60
 ·go_wp2
  go_ret
  exact⟨rfl,HB1.out⟩
 obtain⟨hll,hli⟩:=zIQ HD.out hlA
 have HLI:=hide hli
 clear hlA hli
 go_wp2_with fail
 refine(zCZ l2 30 cap2 ao2 w1 HDD1.out (by omega)).mono ?_
 rintro e w2 ⟨rfl,hw2⟩
 rw[hw2]
 clear hw2
 cases hlA:gT l2 30
 ·go_wp2
  go_ret
  exact⟨rfl,HB1.out⟩
 obtain⟨hll2,hli2⟩:=zIQ HDD.out hlA
 have HLI2:=hide hli2
 clear hlA hli2
 go_wp2_with fail
 refine(zEi 120 w w1 (by decide) (by decide) HL.out HB1.out).mono ?_
 rintro e w3 ⟨db,eb,rfl,m,s,hrun,rfl,rfl,fr⟩
 have HPL:=hide (zK0 l ao cap hrun HD.out HLI.out (by omega) (by rw[fr.c];omega))
 have hcp:=(hrun.fit.play l).2
 rw[fr.c] at hcp
 generalize w1.heap.size=B at *
 clear hrun fr HB1 HD1 HDD1
 go_wp2_with fail
 refine HPL.out.mono ?_
 rintro e w4 ⟨ov,rfl,m4,hA4,_⟩
 have HR4:=hide hA4.run
 have HE4:=hide hA4.eb
 clear hA4 HPL
 generalize (hO s l).e=s4 at *
 go_wp2_with fail
 go_loopw [8] (fun iv wr=>∃ (k:Nat) (m':EMem) (s':ESt),k<=4/\iv=.int .i64 (k:Int)/\RunE w wr B m' s' 120/\m'.eb=m.eb/\(∀ j,j<k->s'.ses j=none)/\s'.c<=60) (fun iv _=>4-(intOf iv).toNat)
 case atStart=>exact⟨0,m4,s4,by omega,rfl,HR4.out,HE4.out,fun j hj=>by omega,by omega⟩
 case round=>
  obtain⟨k,m',s',hk,rfl,hR,heb,hno,hcc⟩:=hrel
  clear HR4 HE4
  have HR:=hide hR
  have HNO:=hide hno
  clear hR hno
  by_cases hlt:k<4
  ·have hlt':(k:Int)<4:=by omega
   have HAB:=hide (zIn HR.out hlt (by omega))
   rw[heb] at HAB
   obtain⟨a1,a2,a3,_⟩:=zGf s' k
   have HNO2:Hid (∀ j,j<k+1->(dS s' k).2.ses j=none):=fun j hj=>by
    by_cases e:j=k
    ·subst e;exact a1
    ·exact a2 j (HNO.out j (by omega))
   have hc2:(dS s' k).2.c<=60:=by omega
   clear a1 a2 a3
   generalize dS s' k=A at *
   go_wp2_with fail
   refine HAB.out.mono ?_
   rintro e w5 ⟨rfl,m5,hA5⟩
   have HR5:=hide hA5.run
   have HE5:=hide (hA5.eb.trans heb)
   clear hA5 HAB
   generalize errV A.1=ev at *
   go_wp2_with fail
   exact⟨⟨k+1,m5,A.2,by omega,by go_num,HR5.out,HE5.out,HNO2.out,hc2⟩,by simp[intOf];omega⟩
  ·have ek:k=4:=by omega
   subst ek
   have HBG:=hide (zO8 HR.out (i:=2) (by decide) (HNO.out 2 (by decide)))
   rw[heb] at HBG
   clear HNO
   go_wp2_with fail
   refine HBG.out.mono ?_
   rintro e w5 ⟨rfl,m5,hA5⟩
   have HV5:=hide (zGX s' 2)
   have HDE:=hide (mT w5 hA5.run.ek (i:=2) (by decide) HV5.out)
   rw[hA5.eb.trans heb] at HDE
   have HR5:=hide hA5.run
   have HE5:=hide (hA5.eb.trans heb)
   have hc5:(dX s' 2).c<=60:=hcc
   have hn5:(dX s' 2).now=s'.now:=rfl
   clear hA5 HBG
   go_wp2_with fail
   refine HDE.out.mono ?_
   rintro e w6 ⟨rfl,hw6⟩
   rw[hw6]
   clear hw6 HDE HR
   generalize hwb:(m5.W 2).1=wb at *
   go_wp2_with fail
   go_loopw [11] (fun iv wr=>∃ (j:Nat) (m6:EMem) (s6:ESt) (v:VwL),j<=l2.length/\iv=.int .i64 (j:Int)/\RunE w wr B m6 s6 120/\m6.eb=m.eb/\s6.c<=60/\s6.ses 2=some v/\v.n=s6.now/\(m6.W 2).1=wb) (fun iv _=>l2.length-(intOf iv).toNat)
   case atStart=>exact⟨0,m5,_,_,by omega,rfl,HR5.out,HE5.out,hc5,HV5.out,rfl,hwb⟩
   case round=>
    obtain⟨j,m6,s6,v,hj,rfl,hR,heb6,hc6,hv6,hn6,hw6⟩:=hrel
    clear HR5 HE5 HV5 hc5 hn5
    have HR:=hide hR
    clear hR
    by_cases hlt:j<l2.length
    ·have hlt':(j:Int)<(l2.length:Int):=by omega
     have hk0:(0:Int)<=(j:Int):=by omega
     rcases HR.out.acts HDD.out with e|⟨b,off,e,hc⟩
     ·rw[e] at hlt;simp at hlt
     subst e
     have hx:=hc j hlt
     have HTD:=hide (zPd l2[j] HR.out hv6 (by decide) (by omega) (HLI2.out _ (List.getElem_mem hlt)) hx.hs)
     rw[hw6] at HTD
     clear hc
     generalize l2[j]=x at *
     have x0:=hx.kind
     have x1:=hx.a
     have x2:=hx.b
     have x3:=hx.c
     have x4:=hx.k
     have x5:=hx.s
     have x6:=hx.t
     have x7:=hx.cl
     have x8:=hx.sl
     clear hx
     go_wp2_with fail
     refine HTD.out.mono ?_
     rintro e w7 ⟨rfl,m7,hA7,hw7⟩
     have HR7:=hide hA7.run
     have HE7:=hide (hA7.eb.trans heb6)
     have HW7:=hide hw7
     have HV7:Hid ((actE s6 2 v x).ses 2=some ⟨v.P,v.n,(fY v.P v.chs v.rds x).2.1,(fY v.P v.chs v.rds x).2.2⟩):=zHj _ _ _ _ _
     clear hA7 hw7 HTD
     generalize (fY v.P v.chs v.rds x).1=tx at *
     go_wp2_with fail
     exact⟨⟨j+1,m7,_,_,by omega,by go_num,HR7.out,HE7.out,hc6,HV7.out,hn6,HW7.out⟩,by simp[intOf];omega⟩
    ·have ej:j=l2.length:=by omega
     subst ej
     have hlt':¬(l2.length:Int)<(l2.length:Int):=by omega
     have HCM:=hide (zNI HR.out (i:=2) (by decide) (by omega))
     rw[heb6] at HCM
     have h9:=zON HR.out.fit hv6 hn6
     have HNU:=fun W=>hide (zGI (comE s6 2).1.2 W)
     have h9':(((comE s6 2).1.2:Int) != 9)=true:=by simp;omega
     clear HR
     generalize comE s6 2=C at *
     generalize errV C.1.2=ev at *
     go_wp2_with fail
     refine HCM.out.mono ?_
     rintro e w7 ⟨rfl,m7,hA7⟩
     have HB7:=hide hA7.run.bel
     clear hA7 HCM
     go_wp2_with fail
     refine(HNU _).out.mono ?_
     rintro e w8 ⟨rfl,hw8⟩
     rw[hw8]
     clear hw8
     go_wp2
     go_ret
     exact⟨rfl,HB7.out⟩
end
end Go.Proofs.YtnboipekkahmnaaGreatDoor
