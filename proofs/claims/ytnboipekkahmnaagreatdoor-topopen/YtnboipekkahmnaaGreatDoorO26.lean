import Derived.Test.YtnboipekkahmnaaGreatDoorE25
set_option maxHeartbeats 8000000
set_option maxRecDepth 100000
namespace Go.Proofs.YtnboipekkahmnaaGreatDoor
section
open Go.RowKit Go.Joins Go.Shelf
attribute [local go_sem ↓] Go.wp_at_zero Go.wp_at_succ
theorem topOpen_walk (l:List ActL) (ao:Option Addr) (cap:Nat) (w:World) (hL:Laid w) (hd:iM w ao l):
  Calls Tryz.prog 10 #[.slice ao l.length cap] w fun e w'=>e=.returned (.bool true)/\Below w.heap.size w w':=by
 have nn:=eG
 have HL:=hide hL
 have HD:=hide hd
 clear hL hd
 go_enter Tryz.func10,Tryz.ntmps10
 go_wp2_with fail
 refine(zHJ w).mono ?_
 rintro e w1 ⟨rfl,hb1⟩
 have HB1:=hide hb1
 have HD1:=hide (zHR hb1 HD.out)
 clear hb1
 go_wp2_with fail
 refine(zCZ l 80 cap ao w1 HD1.out (by omega)).mono ?_
 rintro e w2 ⟨rfl,hw2⟩
 rw[hw2]
 clear hw2
 cases hlA:gT l 80
 ·go_wp2
  go_ret
  exact⟨rfl,HB1.out⟩
 obtain⟨hll,hli⟩:=zIQ HD.out hlA
 have HLI:=hide hli
 clear hlA hli
 go_wp2_with fail
 refine(zEi 120 w w1 (by decide) (by decide) HL.out HB1.out).mono ?_
 rintro e w3 ⟨db,eb,rfl,m,s,hrun,rfl,rfl,fr⟩
 have HPL:=hide (zK0 l ao cap hrun HD.out HLI.out (by omega) (by rw[fr.c];omega))
 generalize w1.heap.size=B at *
 clear hrun fr HB1 HD1
 go_wp2_with fail
 refine HPL.out.mono ?_
 rintro e w4 ⟨ov,rfl,m4,hA4,_⟩
 have HR4:=hide hA4.run
 have HE4:=hide hA4.eb
 have HN:=hide (zPh hA4.run)
 rw[hA4.db] at HN
 clear hA4 HPL
 generalize (hO s l).e=s4 at *
 go_wp2_with fail
 refine HN.out.mono ?_
 rintro e w5 ⟨eb2,rfl,hb5,m5,s5,hr5,rfl,hrows,hnow,hses⟩
 have HR5:=hide hr5
 have HRW5:=hide (zOo hr5)
 have HB5:=hide hb5
 have HS5:=hide hses
 rw[hrows] at HRW5
 have hsm:=zNH HR4.out.fit.ok
 clear hr5 hb5 hses HN
 go_wp2_with fail
 refine HRW5.out.mono ?_
 rintro e w6 ⟨ra,rc,rfl,hh6,hb6⟩
 have HH6:=hide hh6
 have HR6:=hide (HR5.out.on hb6)
 have h46:=aB HB5.out (Nat.le_refl _) hb6
 have HRW6:=hide (zOo (HR4.out.on h46))
 rw[HE4.out] at HRW6
 clear hh6 hb6 h46 HRW5 HR5 HB5
 go_wp2_with fail
 refine HRW6.out.mono ?_
 rintro e w7 ⟨rb,rd,rfl,hh7,hb7⟩
 have HSR:=hide (zNv (aS s4.x.rows) ra rb rc rd w7 (lX hb7 HH6.out) hh7 (by omega))
 have HR7:=hide (HR6.out.on hb7)
 clear hh7 hb7 HRW6 HR6 HH6
 go_wp2_with fail
 refine HSR.out.mono ?_
 rintro e w8 ⟨rfl,hb8⟩
 have HR8:=hide (HR7.out.on hb8)
 have HNW:=hide (zNB w8 (HR7.out.on hb8).ek)
 have e0:((s5.now:Nat):Int)=0:=by rw[hnow];rfl
 rw[e0] at HNW
 clear e0
 clear hb8 HR7 HSR
 go_wp2_with fail
 refine HNW.out.mono ?_
 rintro e w9 ⟨rfl,hw9⟩
 rw[hw9]
 clear hw9 HNW
 have HE7:Hid (errV 7=.iface 114 (.int .i64 7)):=rfl
 have HNU:=fun W=>hide (zGI 7 W)
 rw[HE7.out] at HNU
 have HDE:Hid (∀ i:Nat,i<4->Calls Tryz.prog 28 #[.pointer (some ⟨m5.eb,0,none⟩),.int .i64 (i:Int)] w8 fun e w'=>e=.returned (.tuple #[.pointer none,.iface 114 (.int .i64 7)])/\w'=w8):=fun i hi=>by
  have h9:=pC w8 HR8.out.ek hi (HS5.out i)
  rw[HE7.out] at h9
  exact h9
 have HB8:=hide HR8.out.bel
 clear HR8 HR4 HS5
 go_wp2_with fail
 go_loopw [8] (fun iv wr=>∃ k:Nat,k<=4/\iv=.int .i64 (k:Int)/\wr=w8) (fun iv _=>4-(intOf iv).toNat)
 case atStart=>exact⟨0,by omega,rfl,rfl⟩
 case round=>
  obtain⟨k,hk,rfl,hwr⟩:=hrel
  rw[hwr]
  clear hwr
  by_cases hlt:k<4
  ·have hlt':(k:Int)<4:=by omega
   have HD2:=hide (HDE.out k hlt)
   go_wp2_with fail
   refine HD2.out.mono ?_
   rintro e w10 ⟨rfl,hw10⟩
   rw[hw10]
   clear hw10
   go_wp2_with fail
   refine(HNU _).out.mono ?_
   rintro e w11 ⟨rfl,hw11⟩
   rw[hw11]
   clear hw11
   go_wp2_with fail
   exact⟨⟨k+1,by omega,by go_num,by trivial⟩,by simp[intOf];omega⟩
  ·have ek:k=4:=by omega
   subst ek
   go_wp2
   go_ret
   exact⟨rfl,HB8.out⟩
end
end Go.Proofs.YtnboipekkahmnaaGreatDoor
