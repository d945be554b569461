import Derived.Test.YtnboipekkahmnaaGreatDoorE24
set_option maxHeartbeats 8000000
set_option maxRecDepth 100000
namespace Go.Proofs.YtnboipekkahmnaaGreatDoor
section
open Go.RowKit Go.Joins Go.Shelf
attribute [local go_sem ↓] Go.wp_at_zero Go.wp_at_succ
theorem zIs {R:ByteArray->List Ver} {n:Int} {K':List ByteArray} {P:Rws} (hK':keysV (vacC R n) K') (hu:nC R n) (hP:bV P) (hk:∀ r∈P,r.1.size<=maxLen) (h:sayR R n P):sumK (vacC R n) K'=P.length:=by
 have hlen:∀ key,key.size<=maxLen->(vacC R n key).length=if (valR P key).2 then 1 else 0:=fun key hs=>by
  unfold vacC
  rw[if_pos hs,zHQ (hu key),h key]
 have hk':keysV (vacC R n) (P.map (·.1)):=⟨zFA hP,fun key=>by
  constructor
  ·intro hm
   have hs:key.size<=maxLen:=by
    obtain⟨r,hr,rfl⟩:=List.mem_map.1 hm
    exact hk r hr
   refine⟨hs,fun e=>?_⟩
   have:=hlen key hs
   rw[(wX hP key).2 hm,e] at this
   simp at this
  ·rintro⟨hs,hne⟩
   rw[<-wX hP]
   cases e:(valR P key).2 with
   | true=>rfl
   | false=>
    have:=hlen key hs
    rw[e] at this
    exact absurd (List.length_eq_zero_iff.1 (by simpa using this)) hne⟩
 rw[zGL hK' hk']
 unfold sumK
 have:((P.map (·.1)).map fun k=>(vacC R n k).length)=P.map fun _=>1:=by
  rw[List.map_map]
  refine List.map_congr_left fun r hr=>?_
  show(vacC R n r.1).length=1
  rw[hlen r.1 (hk r hr),(wX hP r.1).2 (List.mem_map_of_mem hr)]
  rfl
 rw[this]
 exact ones P
theorem topKept_walk (l:List ActL) (ao:Option Addr) (cap:Nat) (w:World) (hL:Laid w) (hd:iM w ao l):
  Calls Tryz.prog 12 #[.slice ao l.length cap] w fun e w'=>e=.returned (.bool true)/\Below w.heap.size w w':=by
 have HL:=hide hL
 have HD:=hide hd
 clear hL hd
 go_enter Tryz.func12,Tryz.ntmps12
 go_wp2_with fail
 refine(zHJ w).mono ?_
 rintro e w1 ⟨rfl,hb1⟩
 have HB1:=hide hb1
 have HD1:=hide (zHR hb1 HD.out)
 clear hb1
 go_wp2_with fail
 refine(zCZ l 80 cap ao w1 HD1.out (by omega)).mono ?_
 rintro e w2 ⟨rfl,hw2⟩
 rw[hw2]
 clear hw2
 cases hlA:gT l 80
 ·go_wp2
  go_ret
  exact⟨rfl,HB1.out⟩
 obtain⟨hll,hli⟩:=zIQ HD.out hlA
 have HLI:=hide hli
 clear hlA hli
 go_wp2_with fail
 refine(zEi 120 w w1 (by decide) (by decide) HL.out HB1.out).mono ?_
 rintro e w3 ⟨db,eb,rfl,m,s,hrun,rfl,rfl,fr⟩
 have HPL:=hide (zK0 l ao cap hrun HD.out HLI.out (by omega) (by rw[fr.c];omega))
 have hcp:=(hrun.fit.play l).2
 rw[fr.c] at hcp
 have hsz:=HB1.out.size
 generalize w1.heap.size=B at *
 clear hrun fr HB1 HD1
 go_wp2_with fail
 refine HPL.out.mono ?_
 rintro e w4 ⟨ov,rfl,m4,hA4,_⟩
 have HR4:=hide hA4.run
 have HE4:=hide hA4.eb
 clear hA4 HPL
 generalize (hO s l).e=s4 at *
 go_wp2_with fail
 go_loopw [6] (fun iv wr=>∃ (k:Nat) (m':EMem) (s':ESt),k<=4/\iv=.int .i64 (k:Int)/\RunE w wr B m' s' 120/\m'.eb=m.eb/\(∀ j,j<k->s'.ses j=none)/\s'.c<=80) (fun iv _=>4-(intOf iv).toNat)
 case atStart=>exact⟨0,m4,s4,by omega,rfl,HR4.out,HE4.out,fun j hj=>by omega,by omega⟩
 case round=>
  obtain⟨k,m',s',hk,rfl,hR,heb,hno,hcc⟩:=hrel
  clear HR4 HE4
  have HR:=hide hR
  have HNO:=hide hno
  clear hR hno
  by_cases hlt:k<4
  ·have hlt':(k:Int)<4:=by omega
   have HAB:=hide (zIn HR.out hlt (by omega))
   rw[heb] at HAB
   obtain⟨a1,a2,a3,_⟩:=zGf s' k
   have HNO2:Hid (∀ j,j<k+1->(dS s' k).2.ses j=none):=fun j hj=>by
    by_cases e:j=k
    ·subst e;exact a1
    ·exact a2 j (HNO.out j (by omega))
   have hc2:(dS s' k).2.c<=80:=by omega
   clear a1 a2 a3
   generalize dS s' k=A at *
   go_wp2_with fail
   refine HAB.out.mono ?_
   rintro e w5 ⟨rfl,m5,hA5⟩
   have HR5:=hide hA5.run
   have HE5:=hide (hA5.eb.trans heb)
   clear hA5 HAB
   generalize errV A.1=ev at *
   go_wp2_with fail
   exact⟨⟨k+1,m5,A.2,by omega,by go_num,HR5.out,HE5.out,HNO2.out,hc2⟩,by simp[intOf];omega⟩
  ·have ek:k=4:=by omega
   subst ek
   have hold:=zD4 HNO.out
   have HV:=hide (zC2 _ HR.out.ek HR.out.fit.ok (by omega))
   rw[heb] at HV
   have ok:=HR.out.fit.ok
   have hov:=yA ok.fine ok.few
   have HKP:Hid (∀ K,keysV (vacE s').R K->(sumK (vacE s').R K:Nat)=(aS s'.x.rows).length):=fun K hK=>by
    have hR':(vacE s').R=vacC s'.R (s'.now:Int):=by
     show vacC s'.R (cI s':Int)=_
     rw[hold]
    rw[hR'] at hK ⊢
    exact zIs hK ok.up hov.rise (fun r hr=>by have:=hov.keys r hr;unfold maxLen;omega) ok.say
   have hrl:(aS s'.x.rows).length<=50:=hov.len
   have HK:Hid (∀ w5 m5,RunE w w5 B m5 (vacE s') 120->m5.eb=m.eb->Calls Tryz.prog 25 #[.pointer (some ⟨m.eb,0,none⟩)] w5 fun e w'=>e=.returned (.int .i64 ((aS s'.x.rows).length:Int))/\Below w5.heap.size w5 w'):=fun w5 m5 h5 he5=>by
    have:=zHT w5 h5.ek h5.fit.ok (by show s'.c+1<=190;omega)
    rw[he5] at this
    refine this.mono ?_
    rintro e w' ⟨K,rfl,hK,hb⟩
    rw[HKP.out K hK]
    exact⟨rfl,hb⟩
   have HRW:Hid (∀ w5 m5,RunE w w5 B m5 (vacE s') 120->m5.eb=m.eb->Calls Tryz.prog 35 #[.pointer (some ⟨m.eb,0,none⟩)] w5 fun e w'=>∃ ra rc,e=.returned (.slice ra (aS s'.x.rows).length rc)/\Below w5.heap.size w5 w'):=fun w5 m5 h5 he5=>by
    have:=zBq w5 h5.ek (by have:=ok.few;show s'.x.rows.length<=1000;omega)
    rw[he5] at this
    refine this.mono ?_
    rintro e w' ⟨v,rfl,ho,hb⟩
    obtain⟨ra,rc,rfl,_⟩:=lV ho
    exact⟨ra,rc,rfl,hb⟩
   have hfv:=HR.out.fit.vac
   have HRA:Hid (∀ w5,ActE wr w5 B m' s' (vacE s')->∃ m5,RunE w w5 B m5 (vacE s') 120/\m5.eb=m.eb):=fun w5 ha=>by
    obtain⟨m5,h5⟩:=HR.out.act ha hfv
    exact⟨m5,h5.run,h5.eb.trans heb⟩
   clear ok hov HKP hold hfv HR HNO
   generalize (aS s'.x.rows).length=rn at *
   generalize vacE s'=sv at *
   go_wp2_with fail
   refine HV.out.mono ?_
   rintro e w5 ⟨rfl,ha⟩
   obtain⟨m5,h5,he5⟩:=HRA.out w5 ha
   have HK5:=hide (HK.out w5 m5 h5 he5)
   have HR5:=hide h5
   clear ha HV HRA HK h5
   go_wp2_with fail
   refine HK5.out.mono ?_
   rintro e w6 ⟨rfl,hb6⟩
   have HR6:=hide (HR5.out.on hb6)
   have HW6:=hide (HRW.out w6 m5 HR6.out he5)
   clear hb6 HK5 HR5 HRW
   go_wp2_with fail
   refine HW6.out.mono ?_
   rintro e w7 ⟨ra,rc,rfl,hb7⟩
   have HB7:=hide (HR6.out.on hb7).bel
   clear hb7 HW6 HR6
   go_wp2
   go_ret
   exact⟨rfl,HB7.out⟩
end
end Go.Proofs.YtnboipekkahmnaaGreatDoor
