import Derived.Test.YtnboipekkahmnaaGreatDoorE25
set_option maxHeartbeats 8000000
set_option maxRecDepth 100000
namespace Go.Proofs.YtnboipekkahmnaaGreatDoor
section
open Go.RowKit Go.Joins Go.Shelf
attribute [local go_sem ↓] Go.wp_at_zero Go.wp_at_succ
theorem topAbort_walk (l:List ActL) (ao:Option Addr) (cap:Nat) (w:World) (hL:Laid w) (hd:iM w ao l) (hcap:l.length<=cap):
  Calls Tryz.prog 8 #[.slice ao l.length cap] w fun e w'=>e=.returned (.bool true)/\Below w.heap.size w w':=by
 have nn:=eG
 have ne:=pX
 have n1:=bM 114
 have n2:=rD 114
 have HL:=hide hL
 have HD:=hide hd
 clear hL hd
 go_enter Tryz.func8,Tryz.ntmps8
 go_wp2_with fail
 refine(zHJ w).mono ?_
 rintro e w1 ⟨rfl,hb1⟩
 have HB1:=hide hb1
 have HD1:=hide (zHR hb1 HD.out)
 clear hb1
 go_wp2_with fail
 refine(zCZ l 80 cap ao w1 HD1.out (by omega)).mono ?_
 rintro e w2 ⟨rfl,hw2⟩
 rw[hw2]
 clear hw2
 cases hlA:gT l 80
 ·go_wp2
  go_ret
  exact⟨rfl,HB1.out⟩
 obtain⟨hll,hli⟩:=zIQ HD.out hlA
 have HLI:=hide hli
 clear hlA hli
 go_wp2_with fail
 refine(zEi 120 w w1 (by decide) (by decide) HL.out HB1.out).mono ?_
 rintro e w3 ⟨db,eb,rfl,m,s,hrun,rfl,rfl,fr⟩
 have HR3:=hide hrun
 have hc3:=fr.c
 generalize w1.heap.size=B at *
 clear hrun fr HB1 HD1
 go_wp2_with fail
 go_loopw [6] (fun iv wr=>∃ (k:Nat) (m':EMem) (s':ESt),k<=l.length/\iv=.int .i64 (k:Int)/\RunE w wr B m' s' 120/\m'.eb=m.eb/\s'.c<=k) (fun iv _=>l.length-(intOf iv).toNat)
 case atStart=>exact⟨0,m,s,by omega,rfl,HR3.out,rfl,by omega⟩
 case round=>
  obtain⟨k,m',s',hk,rfl,hR,heb,hcc⟩:=hrel
  clear HR3
  have HR:=hide hR
  clear hR
  by_cases hlt:k<l.length
  ·have hlt':(k:Int)<(l.length:Int):=by omega
   have hk0:(0:Int)<=(k:Int):=by omega
   rcases HD.out with e|⟨b,off,e,hc⟩
   ·rw[e] at hlt;simp at hlt
   subst e
   have hx:=hc k hlt
   have HX:=hide hx
   have HLX:=hide (HLI.out _ (List.getElem_mem hlt))
   clear hc
   generalize l[k]=x at *
   have hse:=zL3 x
   have hslt:=zFf x
   have HRW:=hide (zN1 HR.out)
   rw[heb] at HRW
   have hsm:=zNH HR.out.fit.ok
   have HFT:=hide HR.out.fit
   go_wp2_with fail
   refine HRW.out.mono ?_
   rintro e w4 ⟨ra,rc,rfl,⟨hh4,hn4⟩,hb4⟩
   have HR4:=hide (HR.out.on hb4)
   have HH4:=hide hh4
   have HN4:=hide hn4
   have HNW:=hide (zNB w4 (HR.out.on hb4).ek)
   rw[heb] at HNW
   clear hh4 hn4 hb4 HRW HR
   go_wp2_with fail
   refine HNW.out.mono ?_
   rintro e w5 ⟨rfl,hw5⟩
   rw[hw5]
   clear hw5 HNW
   have x0:=aA HR4.out.bel HX.out.kind
   have x3:=aA HR4.out.bel HX.out.c
   have HCMP:Hid (∀ w6 m6 s6,RunA w w4 w6 B m' s' s6 120 m6->s6.now=s'.now->s6.x.rows=s'.x.rows->m6.eb=m.eb/\RunE w w6 B m6 s6 120/\Calls Tryz.prog 32 #[.pointer (some ⟨m.eb,0,none⟩)] w6 (fun e w'=>e=.returned (.int .i64 (s'.now:Int))/\w'=w6)/\Calls Tryz.prog 35 #[.pointer (some ⟨m.eb,0,none⟩)] w6 fun e w'=>∃ rb rd,e=.returned (.slice rb (aS s'.x.rows).length rd)/\RunE w w' B m6 s6 120/\Calls Tryz.prog 34 #[.slice rb (aS s'.x.rows).length rd,.slice ra (aS s'.x.rows).length rc] w' fun e w''=>e=.returned (.bool true)/\RunE w w'' B m6 s6 120):=fun w6 m6 s6 hA hn hr=>by
    have he:=hA.eb.trans heb
    have q1:=zNB w6 hA.run.ek
    rw[he,hn] at q1
    have q2:=zN1 hA.run
    rw[he,hr] at q2
    refine⟨he,hA.run,q1,q2.mono ?_⟩
    rintro e w' ⟨rb,rd,rfl,⟨hh,_⟩,hb⟩
    refine⟨rb,rd,rfl,hA.run.on hb,(zNv (aS s'.x.rows) rb ra rd rc w' hh (lX hb (zOO HH4.out HN4.out hA.st)) (by omega)).mono ?_⟩
    rintro e w'' ⟨rfl,hb2⟩
    exact⟨rfl,(hA.run.on hb).on hb2⟩
   cases kc:(x.kind.toList==[99,111,109,109,105,116])
   case true=>
    have HCM:=hide (zNI HR4.out hslt (by omega))
    rw[heb] at HCM
    have HCC:=hide (HFT.out.com hslt).2
    by_cases h0:(comE s' (sesX x)).1.2=0
    ·rw[h0,aR] at HCM
     generalize comE s' (sesX x)=C at *
     go_wp2_with fail
     refine HCM.out.mono ?_
     rintro e w6 ⟨rfl,m6,hA6⟩
     have HR6:=hide hA6.run
     have HE6:=hide (hA6.eb.trans heb)
     have hc6:=HCC.out
     clear hA6 HCM
     go_wp2_with fail
     exact⟨⟨k+1,m6,C.2,by omega,by go_num,HR6.out,HE6.out,by omega⟩,by simp[intOf];omega⟩
    ·obtain⟨k1,k2⟩:=zPb HFT.out h0
     rw[aP h0] at HCM
     generalize comE s' (sesX x)=C at *
     go_wp2_with fail
     refine HCM.out.mono ?_
     rintro e w6 ⟨rfl,m6,hA6⟩
     obtain⟨he6,hr6,q1,q2⟩:=HCMP.out w6 m6 _ hA6 k1 k2
     have HQ1:=hide q1
     have HQ2:=hide q2
     have hc6:=HCC.out
     clear hA6 HCM q1 q2 hr6 HCMP
     go_wp2_with fail
     refine HQ1.out.mono ?_
     rintro e w7 ⟨rfl,hw7⟩
     rw[hw7]
     clear hw7
     go_wp2_with fail
     refine HQ2.out.mono ?_
     rintro e w8 ⟨rb,rd,rfl,_,hsr⟩
     have HSR:=hide hsr
     clear hsr HQ2
     go_wp2_with fail
     refine HSR.out.mono ?_
     rintro e w9 ⟨rfl,hr9⟩
     have HR9:=hide hr9
     clear hr9
     go_wp2_with fail
     exact⟨⟨k+1,m6,C.2,by omega,by go_num,HR9.out,he6,by omega⟩,by simp[intOf];omega⟩
   case false=>
    have hk1:(k:Int)+1<=(cap:Int):=by omega
    have hk2:k+1<=cap:=by omega
    have hac1:iM w (some ⟨b,off+k*9,none⟩) [x]:=.inr ⟨b,off+k*9,rfl,fun i hi=>by
     have e:i=0:=by simpa using hi
     subst e
     simpa using HX.out⟩
    have HPL:=hide (zK0 [x] (some ⟨b,off+k*9,none⟩) (cap-k) HR4.out hac1 (fun y hy=>by rw[List.mem_singleton.1 hy];exact HLX.out) (by simp) (by simp;omega))
    rw[heb] at HPL
    obtain⟨k1,k2⟩:=zPc (p:=⟨s',fun _=>noD,[]⟩) HFT.out kc
    have hc6:(hO s' [x]).e.c<=s'.c+1:=(HFT.out.play [x]).2
    have k1':(hO s' [x]).e.now=s'.now:=k1
    have k2':(hO s' [x]).e.x.rows=s'.x.rows:=k2
    clear k1 k2 hac1
    have HP6:Hid (Calls Tryz.prog 37 #[.pointer (some ⟨m.eb,0,none⟩),.slice (some ⟨b,off+k*9,none⟩) 1 (cap-k)] w4 fun e w'=>∃ ov,e=.returned ov/\∃ m6,RunA w w4 w' B m' s' (hO s' [x]).e 120 m6):=HPL.out.mono fun _ _ ⟨ov,he,m6,hA,_⟩=>⟨ov,he,m6,hA⟩
    clear HPL
    generalize (hO s' [x]).e=s6 at *
    go_wp2_with fail
    refine HP6.out.mono ?_
    rintro e w6 ⟨ov,rfl,m6,hA6⟩
    obtain⟨he6,hr6,q1,q2⟩:=HCMP.out w6 m6 _ hA6 k1' k2'
    have HQ1:=hide q1
    have HQ2:=hide q2
    clear hA6 HP6 q1 q2 hr6 HCMP
    go_wp2_with fail
    refine HQ1.out.mono ?_
    rintro e w7 ⟨rfl,hw7⟩
    rw[hw7]
    clear hw7
    go_wp2_with fail
    refine HQ2.out.mono ?_
    rintro e w8 ⟨rb,rd,rfl,_,hsr⟩
    have HSR:=hide hsr
    clear hsr HQ2
    go_wp2_with fail
    refine HSR.out.mono ?_
    rintro e w9 ⟨rfl,hr9⟩
    have HR9:=hide hr9
    clear hr9
    go_wp2_with fail
    exact⟨⟨k+1,m6,s6,by omega,by go_num,HR9.out,he6,by omega⟩,by simp[intOf];omega⟩
  ·have ek:k=l.length:=by omega
   subst ek
   have hlt':¬(l.length:Int)<(l.length:Int):=by omega
   have HB:=hide HR.out.bel
   clear HR
   go_wp2
   go_ret
   exact⟨rfl,HB.out⟩
end
end Go.Proofs.YtnboipekkahmnaaGreatDoor
