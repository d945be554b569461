import Derived.Test.YtnboipekkahmnaaGreatDoorE22
set_option maxHeartbeats 8000000
set_option maxRecDepth 100000
namespace Go.Proofs.YtnboipekkahmnaaGreatDoor
section
open Go.RowKit Go.Joins
attribute [local go_sem ↓] Go.wp_at_zero Go.wp_at_succ
theorem zGX (s:ESt) (i:Nat):(dX s i).ses i=some ⟨aS s.x.rows,s.now,[],[]⟩:=by
 show setS s.ses i _ i=_
 exact hE _ _ _
theorem zHj (s:ESt) (i:Nat) (v:VwL) (chs:List Chg) (rds:Rws):(jU s i v chs rds).ses i=some ⟨v.P,v.n,chs,rds⟩:=by
 show setS s.ses i _ i=_
 exact hE _ _ _
structure zDq (s:ESt) (n:Nat):Prop where
 ok:EOk s
 rows:s.x.rows=[]
 left:s.x.d.left=-1
 len:s.x.d.now.length=n
 used:s.x.used=0
 now:s.now=0
 c:s.c=0
 ds:s.ds=[]
 ses:∀ i,s.ses i=none
structure zL2 (w w':World) (n db eb:Nat):Prop where
 ex:∃ m s,EK w' w.heap.size m s/\m.eb=eb/\m.db=db/\zDq s n
 bel:Below w.heap.size w w'
theorem vC (n:Nat) (w:World) (h1:54<=n) (h2:n<=200):Calls Tryz.prog 15 #[.int .i64 (n:Int)] w fun e w'=>∃ db eb,e=.returned (.tuple #[.pointer (some ⟨db,0,none⟩),.pointer (some ⟨eb,0,none⟩),.bool true])/\zL2 w w' n db eb:=by
 have nn:=eG
 have hlen:(qQ n).now.length=n:=by show(List.replicate n (bD 96)).length=n;simp
 have hfg:=zD1 (s:=qQ n) rfl rfl (by rw[hlen];exact h1)
 have HFG:=hide hfg
 have HLEN:=hide hlen
 clear hfg hlen
 generalize aM (qQ n).now=fr at *
 generalize hl:dC 0 [] (qQ n)=r at *
 have HL:=hide hl
 clear hl
 go_enter Tryz.func15,Tryz.ntmps15
 go_wp2_with fail
 refine(zDe n _ (by omega) h2).mono ?_
 rintro e w1 ⟨db,rfl,⟨S1,hk1⟩,hb1⟩
 have HFO:=hide (zFF w1 hk1 (by rw[HLEN.out];exact h1))
 rw[HL.out,HFG.out.1,aR] at HFO
 have HB1:=hide hb1
 clear hk1 hb1
 go_wp2_with fail
 refine HFO.out.mono ?_
 rintro e w2 ⟨rfl,S2,hk2,hs2⟩
 have HOP:=hide (zIf w2 hk2 HFG.out.2.1)
 have HB2:=hide (HB1.out.trans hs2.bel)
 clear hk2 hs2 HFO
 go_wp2_with fail
 refine HOP.out.mono ?_
 rintro e w3 ⟨eb,rfl,hn3⟩
 have HN3:=hide hn3
 clear hn3 HOP
 go_wp2
 go_ret3
 obtain⟨m,hek,he1,he2,_⟩:=HN3.out.ex
 exact⟨db,eb,rfl,⟨m,_,hek,he1,he2,EOk.new HFG.out.2.1,rfl,HFG.out.2.2.1,HFG.out.2.2.2.trans HLEN.out,rfl,rfl,rfl,rfl,fun _=>rfl⟩,aB HB2.out (Nat.le_refl _) HN3.out.bel⟩
def wK:ByteArray:=⟨#[116,47,97]⟩
def wV:ByteArray:=⟨#[120]⟩
theorem zAp:aD ⟨wK,wV,false⟩=0:=by decide +kernel
theorem zFa:cH [] ⟨wK,wV,false⟩=0/\bG [] ⟨wK,wV,false⟩=[⟨wK,wV,false⟩]:=by
 have h:cH [] ⟨wK,wV,false⟩=0:=by
  unfold cH
  rw[if_pos zAp]
  rfl
 exact⟨h,by unfold bG;rw[if_pos h];rfl⟩
theorem zIT {s:ESt} {n:Nat} (h:zDq s n) (hn:54<=n) {c:Chg} (hc:aD c=0) (hg:c.gone=false):comF s.x [c]=0/\(aK s.x.rows [c]).length=1:=by
 have hb:aK s.x.rows [c]=[c]:=by
  rw[h.rows]
  show([c].filter fQ)=[c]
  have:fQ c=true:=by unfold fQ;rw[hg];rfl
  rw[List.filter_cons_of_pos this]
  rfl
 refine⟨?_,by rw[hb];rfl⟩
 unfold comF
 have hd:jW [c]=0:=by
  unfold jW
  rw[if_neg (by show ¬12<1;decide)]
  show(if aD c=0 then 0 else aD c)=0
  rw[if_pos hc]
 rw[if_neg (by rw[hd];decide),if_neg]
 rw[hb,h.len]
 show ¬(40<1∨n-50<1+1)
 omega
theorem zHJ (w:World):Calls Tryz.prog 36 #[] w fun e w'=>e=.returned (.bool true)/\Below w.heap.size w w':=by
 have nn:=eG
 have ne:=pX
 go_enter Tryz.func36,Tryz.ntmps36
 go_wp2_with fail
 refine(vC 80 w (by decide) (by decide)).mono ?_
 rintro e w1 ⟨db,eb,rfl,hst⟩
 obtain⟨m,s,hek,rfl,rfl,fr⟩:=hst.ex
 have HB1:=hide hst.bel
 have HFR:=hide fr
 have HBG:=hide (wB w1 hek (i:=0) (by decide) (fr.ses 0))
 clear hst hek
 go_wp2_with fail
 refine HBG.out.mono ?_
 rintro e w2 ⟨rfl,m2,hek2,he2,_,hs2⟩
 have ok2:=HFR.out.ok.begin 0
 have hses2:(dX s 0).ses 0=some ⟨aS s.x.rows,s.now,[],[]⟩:=zGX s 0
 have HDE:=hide (mT w2 hek2 (i:=0) (by decide) hses2)
 have hc2:(dX s 0).c=0:=HFR.out.c
 have hpv:=hek2.pv ok2 hses2 (by rw[hc2];decide)
 have hpp:=zIB wK wV w2 hpv (by decide) (fun _=>by decide)
 rw[zFa.1,zFa.2,aR] at hpp
 have HPU:=hide hpp
 have HEK2:=hide hek2
 have HB2:=hide (HB1.out.trans hs2.bel)
 rw[he2] at HDE
 clear hek2 hs2 hpv hpp HBG HB1
 go_wp2_with fail
 refine HDE.out.mono ?_
 rintro e w3 ⟨rfl,hw3⟩
 rw[hw3]
 clear hw3 HDE
 go_wp2_with fail
 refine HPU.out.mono ?_
 rintro e w4 ⟨rfl,S4',hp4,hs4⟩
 obtain⟨x4,_,hek4,hst4⟩:=HEK2.out.view hses2 (by decide) hp4 hs4
 have ok4:EOk (jU (dX s 0) 0 ⟨aS s.x.rows,s.now,[],[]⟩ [⟨wK,wV,false⟩] []):=ok2.view hses2 hp4.ok ⟨(ok2.ses 0 _ hses2).oq.rk,fun c hc=>by rw[List.mem_singleton.1 hc];exact zAp⟩
 have hses4:(jU (dX s 0) 0 ⟨aS s.x.rows,s.now,[],[]⟩ [⟨wK,wV,false⟩] []).ses 0=some ⟨aS s.x.rows,s.now,[⟨wK,wV,false⟩],[]⟩:=zHj _ _ _ _ _
 obtain⟨cf,cl⟩:=zIT HFR.out (by decide) zAp rfl
 have hnev:=HFR.out.ok.g.never HFR.out.left [⟨wK,wV,false⟩]
 have hR0:(comR s.x [⟨wK,wV,false⟩]).1=0:=hnev.1.trans cf
 have hrows:(comR s.x [⟨wK,wV,false⟩]).2.rows=aK s.x.rows [⟨wK,wV,false⟩]:=by
  rcases(HFR.out.ok.g.commit [⟨wK,wV,false⟩]).2 with⟨_,_,_,c,_⟩|⟨a,b,_⟩|⟨a,_⟩
  ·exact c
  ·exact absurd cf b
  ·rw[hR0] at a;cases a
 have hce:comE (jU (dX s 0) 0 ⟨aS s.x.rows,s.now,[],[]⟩ [⟨wK,wV,false⟩] []) 0=((s.now+1,0),endE (addE (jU (dX s 0) 0 ⟨aS s.x.rows,s.now,[],[]⟩ [⟨wK,wV,false⟩] []) [⟨wK,wV,false⟩]) 0):=by
  unfold comE
  rw[hses4]
  dsimp only
  rw[if_neg (by simp),if_neg (by rw[zHB];decide),if_neg (by show ¬(comR s.x _).1≠0;rw[hR0];decide)]
  rfl
 have hcm:=vX w4 hek4 ok4 (i:=0) (by decide) (by show s.c<=150;rw[HFR.out.c];decide)
 rw[hce] at hcm
 dsimp only at hcm
 have hn1:((s.now+1:Nat):Int)=1:=by rw[HFR.out.now];rfl
 rw[hn1,aR] at hcm
 have HCM:=hide hcm
 have HRW:Hid (∀ w5 m5,EK w5 w.heap.size m5 (endE (addE (jU (dX s 0) 0 ⟨aS s.x.rows,s.now,[],[]⟩ [⟨wK,wV,false⟩] []) [⟨wK,wV,false⟩]) 0)->Calls Tryz.prog 35 #[.pointer (some ⟨m5.eb,0,none⟩)] w5 fun e w'=>∃ ao cap,e=.returned (.slice ao 1 cap)/\Below w5.heap.size w5 w'):=fun w5 m5 h5=>by
  have hl1:(comR s.x [⟨wK,wV,false⟩]).2.rows.length=1:=by rw[hrows];exact cl
  refine(zBq w5 h5 (by show(comR s.x [⟨wK,wV,false⟩]).2.rows.length<=1000;omega)).mono ?_
  rintro e w' ⟨v,rfl,ho,hb⟩
  obtain⟨ao,cap,rfl,_⟩:=lV ho
  refine⟨ao,cap,?_,hb⟩
  have:(aS (endE (addE (jU (dX s 0) 0 ⟨aS s.x.rows,s.now,[],[]⟩ [⟨wK,wV,false⟩] []) [⟨wK,wV,false⟩]) 0).x.rows).length=1:=by
   show(aS (comR s.x [⟨wK,wV,false⟩]).2.rows).length=1
   unfold aS
   rw[List.length_map];exact hl1
  rw[this]
 have HB4:=hide (HB2.out.trans hst4.bel)
 have he4:m2.eb=m.eb:=he2
 clear hn1 hek4 hst4 ok4 hses4 cf cl hnev hR0 hrows hce hcm HPU hp4 hs4 HEK2 ok2 hses2 hc2 HB2
 have HCM':Hid (Calls Tryz.prog 20 #[.pointer (some ⟨m.eb,0,none⟩),.int .i64 0] w4 fun e w'=>e=.returned (.tuple #[.int .i64 1,.nilIface])/\Below w.heap.size w w'/\∃ m5,m5.eb=m.eb/\EK w' w.heap.size m5 (endE (addE (jU (dX s 0) 0 ⟨aS s.x.rows,s.now,[],[]⟩ [⟨wK,wV,false⟩] []) [⟨wK,wV,false⟩]) 0)):=by
  have h:=HCM.out
  rw[show({ m2 with W:=updW m2.W 0 x4 }:EMem).eb=m.eb from he4] at h
  refine h.mono ?_
  rintro e w' ⟨rfl,m5,k1,k2,_,k4⟩
  exact⟨rfl,HB4.out.trans k4.bel,m5,k2,k1⟩
 clear HCM HB4
 generalize endE (addE (jU (dX s 0) 0 ⟨aS s.x.rows,s.now,[],[]⟩ [⟨wK,wV,false⟩] []) [⟨wK,wV,false⟩]) 0=s5 at *
 go_wp2_with fail
 refine HCM'.out.mono ?_
 rintro e w5 ⟨rfl,hb5,m5,he5,hek5⟩
 have HR5:=hide (HRW.out w5 m5 hek5)
 rw[he5] at HR5
 have HB5:=hide hb5
 clear HCM' hek5 hb5 HRW
 go_wp2_with fail
 refine HR5.out.mono ?_
 rintro e w6 ⟨ao,cap,rfl,hb6⟩
 have HB6:=hide (aB HB5.out (Nat.le_refl _) hb6)
 clear hb6
 go_wp2
 go_ret
 exact⟨rfl,HB6.out⟩
theorem vS (n:Int) (w:World) (h0:-9999999<=n) (h1:n<=9999999):Calls Tryz.prog 96 #[.int .i64 n] w fun e w'=>e=.returned (.string (decZ n))/\Below w.heap.size w w':=by
 by_cases hn:n<0
 ·have e:decZ n=⟨#[45]⟩++decB (-n).toNat:=if_pos hn
  rw[e]
  have HD:∀ W,Hid (Calls Tryz.prog 96 #[.int .i64 (-n)] W fun e w'=>e=.returned (.string (decB (-n).toNat))/\Below W.heap.size W w'):=fun W=>by
   have:=iD (-n).toNat W (by omega)
   rw[show(((-n).toNat:Nat):Int)=-n by omega] at this
   exact this
  have hw:wrap64 (-n)=-n:=by unfold wrap64;omega
  have hw2:wrap64 (0-n)=-n:=by unfold wrap64;omega
  have hw3:IntKind.i64.wrap (-n)=-n:=by rw[IntKind.wrap_i64];omega
  have hsz:=lH (n:=(-n).toNat) (by omega)
  generalize decB (-n).toNat=s at *
  go_enter Tryz.func96,Tryz.ntmps96
  go_wp2_with fail
  refine((HD _).out).mono ?_
  rintro e w1 ⟨rfl,hb⟩
  go_wp2
  go_ret
  exact⟨rfl,hb⟩
 ·have e:decZ n=decB n.toNat:=if_neg hn
  have:=iD n.toNat w (by omega)
  rw[show((n.toNat:Nat):Int)=n by omega] at this
  rw[e]
  exact this
theorem eU (f:Nat) (w:World) (hf:f<=20):Calls Tryz.prog 95 #[errV f] w fun e w'=>e=.returned (.string (eI f))/\Below w.heap.size w w':=by
 have HN:=hide (zGI f w)
 have HD:=fun W=>hide (iD f W (by omega))
 have hsz:=lH (n:=f) (by omega)
 unfold eI
 generalize decB f=s at *
 generalize errV f=ev at *
 go_enter Tryz.func95,Tryz.ntmps95
 go_wp2_with fail
 refine HN.out.mono ?_
 rintro e w1 ⟨rfl,rfl⟩
 go_wp2_with fail
 refine((HD _).out).mono ?_
 rintro e w2 ⟨rfl,hb⟩
 go_wp2
 go_ret
 exact⟨rfl,hb⟩
theorem zDc (m:Msg) (w:World) (h:gU m):Calls Tryz.prog 97 #[mV m] w fun e w'=>e=.returned (.string (msgT m))/\Below w.heap.size w w':=by
 obtain⟨⟨a0,a1⟩,⟨b0,b1⟩,⟨c0,c1⟩,_,sz0⟩:=h
 obtain⟨mk,mt,mu,md,em⟩:=m
 dsimp only at a0 a1 b0 b1 c0 c1 sz0
 have sz1:=jY (n:=mk) (by omega) (by omega)
 have sz2:=jY (n:=mt) (by omega) (by omega)
 have sz3:=jY (n:=mu) (by omega) (by omega)
 have HA:=fun W=>hide (vS mk W (by omega) (by omega))
 have HM:=fun W=>hide (vS mt W (by omega) (by omega))
 have HU:=fun W=>hide (vS mu W (by omega) (by omega))
 unfold msgT
 dsimp only
 have hb0:=below_alloc1 w (Obj.cells #[.int .i64 mk,.int .i64 mt,.int .i64 mu,.string md] 99)
 have y0:(w.alloc (Obj.cells #[.int .i64 mk,.int .i64 mt,.int .i64 mu,.string md] 99)).cell? ⟨w.heap.size,0,none⟩=some (.int .i64 mk):=aC _ _ _ 0
 have y1:(w.alloc (Obj.cells #[.int .i64 mk,.int .i64 mt,.int .i64 mu,.string md] 99)).cell? ⟨w.heap.size,1,none⟩=some (.int .i64 mt):=aC _ _ _ 1
 have y2:(w.alloc (Obj.cells #[.int .i64 mk,.int .i64 mt,.int .i64 mu,.string md] 99)).cell? ⟨w.heap.size,2,none⟩=some (.int .i64 mu):=aC _ _ _ 2
 have y3:(w.alloc (Obj.cells #[.int .i64 mk,.int .i64 mt,.int .i64 mu,.string md] 99)).cell? ⟨w.heap.size,3,none⟩=some (.string md):=aC _ _ _ 3
 generalize decZ mk=sa at *
 generalize decZ mt=sb at *
 generalize decZ mu=sc at *
 go_enter Tryz.func97,Tryz.ntmps97
 go_wp2_with fail
 generalize w.alloc (Obj.cells #[.int .i64 mk,.int .i64 mt,.int .i64 mu,.string md] 99)=W at *
 have n0:∀ m:OnW W,m.w.cell? ⟨w.heap.size,0,none⟩=some (.int .i64 mk):=fun m=>m.cell y0
 have n1:∀ m:OnW W,m.w.cell? ⟨w.heap.size,1,none⟩=some (.int .i64 mt):=fun m=>m.cell y1
 have n2:∀ m:OnW W,m.w.cell? ⟨w.heap.size,2,none⟩=some (.int .i64 mu):=fun m=>m.cell y2
 have n3:∀ m:OnW W,m.w.cell? ⟨w.heap.size,3,none⟩=some (.string md):=fun m=>m.cell y3
 have hne:Nonempty (OnW W):=OnW.some W
 refine dE (by kernel_rfl) (by kernel_rfl) ?_
 repeat (go_big_quiet_step ((first
  | (go_at_call_of 96 (Value.int IntKind.i64 mk);exact fF (HA _).out)
  | (go_at_call_of 96 (Value.int IntKind.i64 mt);exact fF (HM _).out)
  | (go_at_call_of 96 (Value.int IntKind.i64 mu);exact fF (HU _).out))))
 refine wpQuiet_nil ?_
 intro w3 hw3
 replace hw3:=jG hw3
 have hB:=aB hb0 (Nat.le_refl _) hw3
 go_wp2
 go_ret
 exact⟨rfl,hB⟩
end
section
open Go.RowKit Go.Joins Go.Shelf
def fT (x:ActL):Prop:=x.s.size<=120/\x.t.size<=100/\-9223372036854775808<=x.a/\x.a<=9223372036854775807
end
section
open Go.RowKit Go.Joins Go.Shelf
attribute [local go_sem ↓] Go.wp_at_zero Go.wp_at_succ
theorem zEN (x:ActL) {B wb:Nat} {S:Nat->Prop} {P:Rws} {since:Sn} {chs:List Chg} {rds:Rws} (w:World) (h:QV w B wb S P since chs rds) (k0:(x.kind.toList==[99,114,101,97,116,101])=true) (hl:fT x):
  Calls Tryz.prog 39 #[.pointer (some ⟨wb,0,none⟩),.agg #[Value.string x.kind,Value.int .i64 x.a,Value.int .i64 x.b,Value.int .i64 x.c,Value.int .u64 x.k,Value.string x.s,Value.string x.t,Value.slice x.ca x.chs.length x.cc,Value.slice x.sa x.sps.length x.sc]] w fun e w'=>e=.returned (.string (eI (fD P chs rds x.s x.a x.t).1))/\ActQ w w' B wb S P since ((fD P chs rds x.s x.a x.t).2.1) ((fD P chs rds x.s x.a x.t).2.2):=by
 have hs:=hl.1
 have ht:=hl.2.1
 have ha0:=hl.2.2.1
 have ha1:=hl.2.2.2
 have y0:(w.alloc (Obj.cells #[.string x.kind,.int .i64 x.a,.int .i64 x.b,.int .i64 x.c,.int .u64 x.k,.string x.s,.string x.t,.slice x.ca x.chs.length x.cc,.slice x.sa x.sps.length x.sc] 39)).cell? ⟨w.heap.size,0,none⟩=some (.string x.kind):=aC _ _ _ 0
 have y5:(w.alloc (Obj.cells #[.string x.kind,.int .i64 x.a,.int .i64 x.b,.int .i64 x.c,.int .u64 x.k,.string x.s,.string x.t,.slice x.ca x.chs.length x.cc,.slice x.sa x.sps.length x.sc] 39)).cell? ⟨w.heap.size,5,none⟩=some (.string x.s):=aC _ _ _ 5
 have y1:(w.alloc (Obj.cells #[.string x.kind,.int .i64 x.a,.int .i64 x.b,.int .i64 x.c,.int .u64 x.k,.string x.s,.string x.t,.slice x.ca x.chs.length x.cc,.slice x.sa x.sps.length x.sc] 39)).cell? ⟨w.heap.size,1,none⟩=some (.int .i64 x.a):=aC _ _ _ 1
 have y6:(w.alloc (Obj.cells #[.string x.kind,.int .i64 x.a,.int .i64 x.b,.int .i64 x.c,.int .u64 x.k,.string x.s,.string x.t,.slice x.ca x.chs.length x.cc,.slice x.sa x.sps.length x.sc] 39)).cell? ⟨w.heap.size,6,none⟩=some (.string x.t):=aC _ _ _ 6
 have hbA:=below_alloc1 w (Obj.cells #[.string x.kind,.int .i64 x.a,.int .i64 x.b,.int .i64 x.c,.int .u64 x.k,.string x.s,.string x.t,.slice x.ca x.chs.length x.cc,.slice x.sa x.sps.length x.sc] 39)
 have HB:=hide (h.on hbA)
 have HP:Hid (∀ w' c r,ActQ (w.alloc (Obj.cells #[.string x.kind,.int .i64 x.a,.int .i64 x.b,.int .i64 x.c,.int .u64 x.k,.string x.s,.string x.t,.slice x.ca x.chs.length x.cc,.slice x.sa x.sps.length x.sc] 39)) w' B wb S P since c r->ActQ w w' B wb S P since c r):=fun w' c r ha=>h.pre hbA ha
 clear h hbA
 have hle:=zHe P chs rds x.s x.a x.t
 have HC:=hide (zEK x.s x.a x.t _ HB.out (by omega) (by omega))
 generalize fD P chs rds x.s x.a x.t=r at *
 go_enter Tryz.func39,Tryz.ntmps39
 go_wp2_with fail
 generalize w.alloc (Obj.cells #[.string x.kind,.int .i64 x.a,.int .i64 x.b,.int .i64 x.c,.int .u64 x.k,.string x.s,.string x.t,.slice x.ca x.chs.length x.cc,.slice x.sa x.sps.length x.sc] 39)=wx at *
 refine HC.out.mono ?_
 rintro e w1 ⟨rfl,ha⟩
 have HA:=hide ha
 clear ha HC
 go_wp2_with fail
 refine(eU _ w1 hle).mono ?_
 rintro e w2 ⟨rfl,hb2⟩
 have HR:=hide (HP.out _ _ _ (HA.out.post hb2))
 clear hb2
 go_wp2
 go_ret
 exact⟨rfl,HR.out⟩
theorem zLf (x:ActL) {B wb:Nat} {S:Nat->Prop} {P:Rws} {since:Sn} {chs:List Chg} {rds:Rws} (w:World) (h:QV w B wb S P since chs rds) (k0:(x.kind.toList==[99,114,101,97,116,101])=false) (k1:(x.kind.toList==[115,101,110,100])=false) (k2:(x.kind.toList==[114,101,99,101,105,118,101])=false) (k3:(x.kind.toList==[97,99,107])=true) (hl:fT x):
  Calls Tryz.prog 39 #[.pointer (some ⟨wb,0,none⟩),.agg #[Value.string x.kind,Value.int .i64 x.a,Value.int .i64 x.b,Value.int .i64 x.c,Value.int .u64 x.k,Value.string x.s,Value.string x.t,Value.slice x.ca x.chs.length x.cc,Value.slice x.sa x.sps.length x.sc]] w fun e w'=>e=.returned (.string (eI (ackQ P chs rds x.s x.a x.b).1))/\ActQ w w' B wb S P since ((ackQ P chs rds x.s x.a x.b).2.1) ((ackQ P chs rds x.s x.a x.b).2.2):=by
 have hs:=hl.1
 have ht:=hl.2.1
 have ha0:=hl.2.2.1
 have ha1:=hl.2.2.2
 have y0:(w.alloc (Obj.cells #[.string x.kind,.int .i64 x.a,.int .i64 x.b,.int .i64 x.c,.int .u64 x.k,.string x.s,.string x.t,.slice x.ca x.chs.length x.cc,.slice x.sa x.sps.length x.sc] 39)).cell? ⟨w.heap.size,0,none⟩=some (.string x.kind):=aC _ _ _ 0
 have y5:(w.alloc (Obj.cells #[.string x.kind,.int .i64 x.a,.int .i64 x.b,.int .i64 x.c,.int .u64 x.k,.string x.s,.string x.t,.slice x.ca x.chs.length x.cc,.slice x.sa x.sps.length x.sc] 39)).cell? ⟨w.heap.size,5,none⟩=some (.string x.s):=aC _ _ _ 5
 have y1:(w.alloc (Obj.cells #[.string x.kind,.int .i64 x.a,.int .i64 x.b,.int .i64 x.c,.int .u64 x.k,.string x.s,.string x.t,.slice x.ca x.chs.length x.cc,.slice x.sa x.sps.length x.sc] 39)).cell? ⟨w.heap.size,1,none⟩=some (.int .i64 x.a):=aC _ _ _ 1
 have y2:(w.alloc (Obj.cells #[.string x.kind,.int .i64 x.a,.int .i64 x.b,.int .i64 x.c,.int .u64 x.k,.string x.s,.string x.t,.slice x.ca x.chs.length x.cc,.slice x.sa x.sps.length x.sc] 39)).cell? ⟨w.heap.size,2,none⟩=some (.int .i64 x.b):=aC _ _ _ 2
 have hbA:=below_alloc1 w (Obj.cells #[.string x.kind,.int .i64 x.a,.int .i64 x.b,.int .i64 x.c,.int .u64 x.k,.string x.s,.string x.t,.slice x.ca x.chs.length x.cc,.slice x.sa x.sps.length x.sc] 39)
 have HB:=hide (h.on hbA)
 have HP:Hid (∀ w' c r,ActQ (w.alloc (Obj.cells #[.string x.kind,.int .i64 x.a,.int .i64 x.b,.int .i64 x.c,.int .u64 x.k,.string x.s,.string x.t,.slice x.ca x.chs.length x.cc,.slice x.sa x.sps.length x.sc] 39)) w' B wb S P since c r->ActQ w w' B wb S P since c r):=fun w' c r ha=>h.pre hbA ha
 clear h hbA
 have hle:=zMr P chs rds x.s x.a x.b
 have HC:=hide (zKS x.s x.a x.b _ HB.out (by omega) ha0 ha1)
 generalize ackQ P chs rds x.s x.a x.b=r at *
 go_enter Tryz.func39,Tryz.ntmps39
 go_wp2_with fail
 generalize w.alloc (Obj.cells #[.string x.kind,.int .i64 x.a,.int .i64 x.b,.int .i64 x.c,.int .u64 x.k,.string x.s,.string x.t,.slice x.ca x.chs.length x.cc,.slice x.sa x.sps.length x.sc] 39)=wx at *
 refine HC.out.mono ?_
 rintro e w1 ⟨rfl,ha⟩
 have HA:=hide ha
 clear ha HC
 go_wp2_with fail
 refine(eU _ w1 hle).mono ?_
 rintro e w2 ⟨rfl,hb2⟩
 have HR:=hide (HP.out _ _ _ (HA.out.post hb2))
 clear hb2
 go_wp2
 go_ret
 exact⟨rfl,HR.out⟩
theorem zI1 (x:ActL) {B wb:Nat} {S:Nat->Prop} {P:Rws} {since:Sn} {chs:List Chg} {rds:Rws} (w:World) (h:QV w B wb S P since chs rds) (k0:(x.kind.toList==[99,114,101,97,116,101])=false) (k1:(x.kind.toList==[115,101,110,100])=false) (k2:(x.kind.toList==[114,101,99,101,105,118,101])=false) (k3:(x.kind.toList==[97,99,107])=false) (k4:(x.kind.toList==[119,97,105,116])=true) (hl:fT x):
  Calls Tryz.prog 39 #[.pointer (some ⟨wb,0,none⟩),.agg #[Value.string x.kind,Value.int .i64 x.a,Value.int .i64 x.b,Value.int .i64 x.c,Value.int .u64 x.k,Value.string x.s,Value.string x.t,Value.slice x.ca x.chs.length x.cc,Value.slice x.sa x.sps.length x.sc]] w fun e w'=>e=.returned (.string (eI (iZ P chs rds x.s x.a x.b x.c).1))/\ActQ w w' B wb S P since ((iZ P chs rds x.s x.a x.b x.c).2.1) ((iZ P chs rds x.s x.a x.b x.c).2.2):=by
 have hs:=hl.1
 have ht:=hl.2.1
 have ha0:=hl.2.2.1
 have ha1:=hl.2.2.2
 have y0:(w.alloc (Obj.cells #[.string x.kind,.int .i64 x.a,.int .i64 x.b,.int .i64 x.c,.int .u64 x.k,.string x.s,.string x.t,.slice x.ca x.chs.length x.cc,.slice x.sa x.sps.length x.sc] 39)).cell? ⟨w.heap.size,0,none⟩=some (.string x.kind):=aC _ _ _ 0
 have y5:(w.alloc (Obj.cells #[.string x.kind,.int .i64 x.a,.int .i64 x.b,.int .i64 x.c,.int .u64 x.k,.string x.s,.string x.t,.slice x.ca x.chs.length x.cc,.slice x.sa x.sps.length x.sc] 39)).cell? ⟨w.heap.size,5,none⟩=some (.string x.s):=aC _ _ _ 5
 have y1:(w.alloc (Obj.cells #[.string x.kind,.int .i64 x.a,.int .i64 x.b,.int .i64 x.c,.int .u64 x.k,.string x.s,.string x.t,.slice x.ca x.chs.length x.cc,.slice x.sa x.sps.length x.sc] 39)).cell? ⟨w.heap.size,1,none⟩=some (.int .i64 x.a):=aC _ _ _ 1
 have y2:(w.alloc (Obj.cells #[.string x.kind,.int .i64 x.a,.int .i64 x.b,.int .i64 x.c,.int .u64 x.k,.string x.s,.string x.t,.slice x.ca x.chs.length x.cc,.slice x.sa x.sps.length x.sc] 39)).cell? ⟨w.heap.size,2,none⟩=some (.int .i64 x.b):=aC _ _ _ 2
 have y3:(w.alloc (Obj.cells #[.string x.kind,.int .i64 x.a,.int .i64 x.b,.int .i64 x.c,.int .u64 x.k,.string x.s,.string x.t,.slice x.ca x.chs.length x.cc,.slice x.sa x.sps.length x.sc] 39)).cell? ⟨w.heap.size,3,none⟩=some (.int .i64 x.c):=aC _ _ _ 3
 have hbA:=below_alloc1 w (Obj.cells #[.string x.kind,.int .i64 x.a,.int .i64 x.b,.int .i64 x.c,.int .u64 x.k,.string x.s,.string x.t,.slice x.ca x.chs.length x.cc,.slice x.sa x.sps.length x.sc] 39)
 have HB:=hide (h.on hbA)
 have HP:Hid (∀ w' c r,ActQ (w.alloc (Obj.cells #[.string x.kind,.int .i64 x.a,.int .i64 x.b,.int .i64 x.c,.int .u64 x.k,.string x.s,.string x.t,.slice x.ca x.chs.length x.cc,.slice x.sa x.sps.length x.sc] 39)) w' B wb S P since c r->ActQ w w' B wb S P since c r):=fun w' c r ha=>h.pre hbA ha
 clear h hbA
 have hle:=zLi P chs rds x.s x.a x.b x.c
 have HC:=hide (zJo x.s x.a x.b x.c _ HB.out (by omega) ha0 ha1)
 generalize iZ P chs rds x.s x.a x.b x.c=r at *
 go_enter Tryz.func39,Tryz.ntmps39
 go_wp2_with fail
 generalize w.alloc (Obj.cells #[.string x.kind,.int .i64 x.a,.int .i64 x.b,.int .i64 x.c,.int .u64 x.k,.string x.s,.string x.t,.slice x.ca x.chs.length x.cc,.slice x.sa x.sps.length x.sc] 39)=wx at *
 refine HC.out.mono ?_
 rintro e w1 ⟨rfl,ha⟩
 have HA:=hide ha
 clear ha HC
 go_wp2_with fail
 refine(eU _ w1 hle).mono ?_
 rintro e w2 ⟨rfl,hb2⟩
 have HR:=hide (HP.out _ _ _ (HA.out.post hb2))
 clear hb2
 go_wp2
 go_ret
 exact⟨rfl,HR.out⟩
theorem zKJ (x:ActL) {B wb:Nat} {S:Nat->Prop} {P:Rws} {since:Sn} {chs:List Chg} {rds:Rws} (w:World) (h:QV w B wb S P since chs rds) (k0:(x.kind.toList==[99,114,101,97,116,101])=false) (k1:(x.kind.toList==[115,101,110,100])=false) (k2:(x.kind.toList==[114,101,99,101,105,118,101])=false) (k3:(x.kind.toList==[97,99,107])=false) (k4:(x.kind.toList==[119,97,105,116])=false) (k5:(x.kind.toList==[112,117,116])=true) (hl:fT x):
  Calls Tryz.prog 39 #[.pointer (some ⟨wb,0,none⟩),.agg #[Value.string x.kind,Value.int .i64 x.a,Value.int .i64 x.b,Value.int .i64 x.c,Value.int .u64 x.k,Value.string x.s,Value.string x.t,Value.slice x.ca x.chs.length x.cc,Value.slice x.sa x.sps.length x.sc]] w fun e w'=>e=.returned (.string (eI (cH chs ⟨x.s,x.t,false⟩)))/\ActQ w w' B wb S P since (bG chs ⟨x.s,x.t,false⟩) (rds):=by
 have hs:=hl.1
 have ht:=hl.2.1
 have ha0:=hl.2.2.1
 have ha1:=hl.2.2.2
 have y0:(w.alloc (Obj.cells #[.string x.kind,.int .i64 x.a,.int .i64 x.b,.int .i64 x.c,.int .u64 x.k,.string x.s,.string x.t,.slice x.ca x.chs.length x.cc,.slice x.sa x.sps.length x.sc] 39)).cell? ⟨w.heap.size,0,none⟩=some (.string x.kind):=aC _ _ _ 0
 have y5:(w.alloc (Obj.cells #[.string x.kind,.int .i64 x.a,.int .i64 x.b,.int .i64 x.c,.int .u64 x.k,.string x.s,.string x.t,.slice x.ca x.chs.length x.cc,.slice x.sa x.sps.length x.sc] 39)).cell? ⟨w.heap.size,5,none⟩=some (.string x.s):=aC _ _ _ 5
 have y6:(w.alloc (Obj.cells #[.string x.kind,.int .i64 x.a,.int .i64 x.b,.int .i64 x.c,.int .u64 x.k,.string x.s,.string x.t,.slice x.ca x.chs.length x.cc,.slice x.sa x.sps.length x.sc] 39)).cell? ⟨w.heap.size,6,none⟩=some (.string x.t):=aC _ _ _ 6
 have hbA:=below_alloc1 w (Obj.cells #[.string x.kind,.int .i64 x.a,.int .i64 x.b,.int .i64 x.c,.int .u64 x.k,.string x.s,.string x.t,.slice x.ca x.chs.length x.cc,.slice x.sa x.sps.length x.sc] 39)
 have HB:=hide (h.on hbA)
 have HP:Hid (∀ w' c r,ActQ (w.alloc (Obj.cells #[.string x.kind,.int .i64 x.a,.int .i64 x.b,.int .i64 x.c,.int .u64 x.k,.string x.s,.string x.t,.slice x.ca x.chs.length x.cc,.slice x.sa x.sps.length x.sc] 39)) w' B wb S P since c r->ActQ w w' B wb S P since c r):=fun w' c r ha=>h.pre hbA ha
 clear h hbA
 have hle:cH chs ⟨x.s,x.t,false⟩<=20:=Nat.le_trans (lZ chs ⟨x.s,x.t,false⟩) (by decide)
 have HC:=hide (zCM x.s x.t _ HB.out (by unfold maxLen;omega))
 generalize cH chs ⟨x.s,x.t,false⟩=f at *
 generalize bG chs ⟨x.s,x.t,false⟩=l at *
 go_enter Tryz.func39,Tryz.ntmps39
 go_wp2_with fail
 generalize w.alloc (Obj.cells #[.string x.kind,.int .i64 x.a,.int .i64 x.b,.int .i64 x.c,.int .u64 x.k,.string x.s,.string x.t,.slice x.ca x.chs.length x.cc,.slice x.sa x.sps.length x.sc] 39)=wx at *
 refine HC.out.mono ?_
 rintro e w1 ⟨rfl,ha⟩
 have HA:=hide ha
 clear ha HC
 go_wp2_with fail
 refine(eU _ w1 hle).mono ?_
 rintro e w2 ⟨rfl,hb2⟩
 have HR:=hide (HP.out _ _ _ (HA.out.post hb2))
 clear hb2
 go_wp2
 go_ret
 exact⟨rfl,HR.out⟩
theorem zDX (x:ActL) {B wb:Nat} {S:Nat->Prop} {P:Rws} {since:Sn} {chs:List Chg} {rds:Rws} (w:World) (h:QV w B wb S P since chs rds) (k0:(x.kind.toList==[99,114,101,97,116,101])=false) (k1:(x.kind.toList==[115,101,110,100])=false) (k2:(x.kind.toList==[114,101,99,101,105,118,101])=false) (k3:(x.kind.toList==[97,99,107])=false) (k4:(x.kind.toList==[119,97,105,116])=false) (k5:(x.kind.toList==[112,117,116])=false) (k6:(x.kind.toList==[100,101,108,101,116,101])=true) (hl:fT x):
  Calls Tryz.prog 39 #[.pointer (some ⟨wb,0,none⟩),.agg #[Value.string x.kind,Value.int .i64 x.a,Value.int .i64 x.b,Value.int .i64 x.c,Value.int .u64 x.k,Value.string x.s,Value.string x.t,Value.slice x.ca x.chs.length x.cc,Value.slice x.sa x.sps.length x.sc]] w fun e w'=>e=.returned (.string (eI (cH chs ⟨x.s,⟨#[]⟩,true⟩)))/\ActQ w w' B wb S P since (bG chs ⟨x.s,⟨#[]⟩,true⟩) (rds):=by
 have hs:=hl.1
 have ht:=hl.2.1
 have ha0:=hl.2.2.1
 have ha1:=hl.2.2.2
 have y0:(w.alloc (Obj.cells #[.string x.kind,.int .i64 x.a,.int .i64 x.b,.int .i64 x.c,.int .u64 x.k,.string x.s,.string x.t,.slice x.ca x.chs.length x.cc,.slice x.sa x.sps.length x.sc] 39)).cell? ⟨w.heap.size,0,none⟩=some (.string x.kind):=aC _ _ _ 0
 have y5:(w.alloc (Obj.cells #[.string x.kind,.int .i64 x.a,.int .i64 x.b,.int .i64 x.c,.int .u64 x.k,.string x.s,.string x.t,.slice x.ca x.chs.length x.cc,.slice x.sa x.sps.length x.sc] 39)).cell? ⟨w.heap.size,5,none⟩=some (.string x.s):=aC _ _ _ 5
 have hbA:=below_alloc1 w (Obj.cells #[.string x.kind,.int .i64 x.a,.int .i64 x.b,.int .i64 x.c,.int .u64 x.k,.string x.s,.string x.t,.slice x.ca x.chs.length x.cc,.slice x.sa x.sps.length x.sc] 39)
 have HB:=hide (h.on hbA)
 have HP:Hid (∀ w' c r,ActQ (w.alloc (Obj.cells #[.string x.kind,.int .i64 x.a,.int .i64 x.b,.int .i64 x.c,.int .u64 x.k,.string x.s,.string x.t,.slice x.ca x.chs.length x.cc,.slice x.sa x.sps.length x.sc] 39)) w' B wb S P since c r->ActQ w w' B wb S P since c r):=fun w' c r ha=>h.pre hbA ha
 clear h hbA
 have hle:cH chs ⟨x.s,⟨#[]⟩,true⟩<=20:=Nat.le_trans (lZ chs ⟨x.s,⟨#[]⟩,true⟩) (by decide)
 have HC:=hide (uA x.s _ HB.out (by unfold maxLen;omega))
 generalize cH chs ⟨x.s,⟨#[]⟩,true⟩=f at *
 generalize bG chs ⟨x.s,⟨#[]⟩,true⟩=l at *
 go_enter Tryz.func39,Tryz.ntmps39
 go_wp2_with fail
 generalize w.alloc (Obj.cells #[.string x.kind,.int .i64 x.a,.int .i64 x.b,.int .i64 x.c,.int .u64 x.k,.string x.s,.string x.t,.slice x.ca x.chs.length x.cc,.slice x.sa x.sps.length x.sc] 39)=wx at *
 refine HC.out.mono ?_
 rintro e w1 ⟨rfl,ha⟩
 have HA:=hide ha
 clear ha HC
 go_wp2_with fail
 refine(eU _ w1 hle).mono ?_
 rintro e w2 ⟨rfl,hb2⟩
 have HR:=hide (HP.out _ _ _ (HA.out.post hb2))
 clear hb2
 go_wp2
 go_ret
 exact⟨rfl,HR.out⟩
theorem zHZ (x:ActL) {B wb:Nat} {S:Nat->Prop} {P:Rws} {since:Sn} {chs:List Chg} {rds:Rws} (w:World) (h:QV w B wb S P since chs rds) (k0:(x.kind.toList==[99,114,101,97,116,101])=false) (k1:(x.kind.toList==[115,101,110,100])=true) (hl:fT x):
  Calls Tryz.prog 39 #[.pointer (some ⟨wb,0,none⟩),.agg #[Value.string x.kind,Value.int .i64 x.a,Value.int .i64 x.b,Value.int .i64 x.c,Value.int .u64 x.k,Value.string x.s,Value.string x.t,Value.slice x.ca x.chs.length x.cc,Value.slice x.sa x.sps.length x.sc]] w fun e w'=>e=.returned (.string (decZ (fN P chs rds x.s x.t x.a).1++eI (fN P chs rds x.s x.t x.a).2.1))/\ActQ w w' B wb S P since ((fN P chs rds x.s x.t x.a).2.2.1) ((fN P chs rds x.s x.t x.a).2.2.2):=by
 have hs:=hl.1
 have ht:=hl.2.1
 have ha0:=hl.2.2.1
 have ha1:=hl.2.2.2
 have y0:(w.alloc (Obj.cells #[.string x.kind,.int .i64 x.a,.int .i64 x.b,.int .i64 x.c,.int .u64 x.k,.string x.s,.string x.t,.slice x.ca x.chs.length x.cc,.slice x.sa x.sps.length x.sc] 39)).cell? ⟨w.heap.size,0,none⟩=some (.string x.kind):=aC _ _ _ 0
 have y5:(w.alloc (Obj.cells #[.string x.kind,.int .i64 x.a,.int .i64 x.b,.int .i64 x.c,.int .u64 x.k,.string x.s,.string x.t,.slice x.ca x.chs.length x.cc,.slice x.sa x.sps.length x.sc] 39)).cell? ⟨w.heap.size,5,none⟩=some (.string x.s):=aC _ _ _ 5
 have y6:(w.alloc (Obj.cells #[.string x.kind,.int .i64 x.a,.int .i64 x.b,.int .i64 x.c,.int .u64 x.k,.string x.s,.string x.t,.slice x.ca x.chs.length x.cc,.slice x.sa x.sps.length x.sc] 39)).cell? ⟨w.heap.size,6,none⟩=some (.string x.t):=aC _ _ _ 6
 have y1:(w.alloc (Obj.cells #[.string x.kind,.int .i64 x.a,.int .i64 x.b,.int .i64 x.c,.int .u64 x.k,.string x.s,.string x.t,.slice x.ca x.chs.length x.cc,.slice x.sa x.sps.length x.sc] 39)).cell? ⟨w.heap.size,1,none⟩=some (.int .i64 x.a):=aC _ _ _ 1
 have hbA:=below_alloc1 w (Obj.cells #[.string x.kind,.int .i64 x.a,.int .i64 x.b,.int .i64 x.c,.int .u64 x.k,.string x.s,.string x.t,.slice x.ca x.chs.length x.cc,.slice x.sa x.sps.length x.sc] 39)
 have HB:=hide (h.on hbA)
 have HP:Hid (∀ w' c r,ActQ (w.alloc (Obj.cells #[.string x.kind,.int .i64 x.a,.int .i64 x.b,.int .i64 x.c,.int .u64 x.k,.string x.s,.string x.t,.slice x.ca x.chs.length x.cc,.slice x.sa x.sps.length x.sc] 39)) w' B wb S P since c r->ActQ w w' B wb S P since c r):=fun w' c r ha=>h.pre hbA ha
 clear h hbA
 have hle:=zLe P chs rds x.s x.t x.a
 have HC:=hide (zIc x.s x.t x.a _ HB.out (by omega))
 generalize fN P chs rds x.s x.t x.a=r at *
 obtain⟨n,f,c,rd⟩:=r
 dsimp only at hle HC ⊢
 have hz1:=jY (n:=n) (by omega) (by omega)
 have hz2:=lA hle.1
 have HD:=fun W=>hide (vS n W (by omega) (by omega))
 generalize decZ n=dn at *
 go_enter Tryz.func39,Tryz.ntmps39
 go_wp2_with fail
 generalize w.alloc (Obj.cells #[.string x.kind,.int .i64 x.a,.int .i64 x.b,.int .i64 x.c,.int .u64 x.k,.string x.s,.string x.t,.slice x.ca x.chs.length x.cc,.slice x.sa x.sps.length x.sc] 39)=wx at *
 refine HC.out.mono ?_
 rintro e w1 ⟨rfl,ha⟩
 have HA:=hide ha
 clear ha HC
 go_wp2_with fail
 refine(HD w1).out.mono ?_
 rintro e w2 ⟨rfl,hb2⟩
 have HA2:=hide (HA.out.post hb2)
 clear hb2
 go_wp2_with fail
 refine(eU _ w2 hle.1).mono ?_
 rintro e w3 ⟨rfl,hb3⟩
 have HR:=hide (HP.out _ _ _ (HA2.out.post hb3))
 clear hb3
 go_wp2
 go_ret
 exact⟨rfl,HR.out⟩
theorem zCA (x:ActL) {B wb:Nat} {S:Nat->Prop} {P:Rws} {since:Sn} {chs:List Chg} {rds:Rws} (w:World) (h:QV w B wb S P since chs rds) (k0:(x.kind.toList==[99,114,101,97,116,101])=false) (k1:(x.kind.toList==[115,101,110,100])=false) (k2:(x.kind.toList==[114,101,99,101,105,118,101])=true) (hl:fT x):
  Calls Tryz.prog 39 #[.pointer (some ⟨wb,0,none⟩),.agg #[Value.string x.kind,Value.int .i64 x.a,Value.int .i64 x.b,Value.int .i64 x.c,Value.int .u64 x.k,Value.string x.s,Value.string x.t,Value.slice x.ca x.chs.length x.cc,Value.slice x.sa x.sps.length x.sc]] w fun e w'=>e=.returned (.string (msgT (dK P chs rds x.s x.a x.b).1++eI (dK P chs rds x.s x.a x.b).1.2.2.2.2))/\ActQ w w' B wb S P since ((dK P chs rds x.s x.a x.b).2.1) ((dK P chs rds x.s x.a x.b).2.2):=by
 have hs:=hl.1
 have ht:=hl.2.1
 have ha0:=hl.2.2.1
 have ha1:=hl.2.2.2
 have y0:(w.alloc (Obj.cells #[.string x.kind,.int .i64 x.a,.int .i64 x.b,.int .i64 x.c,.int .u64 x.k,.string x.s,.string x.t,.slice x.ca x.chs.length x.cc,.slice x.sa x.sps.length x.sc] 39)).cell? ⟨w.heap.size,0,none⟩=some (.string x.kind):=aC _ _ _ 0
 have y5:(w.alloc (Obj.cells #[.string x.kind,.int .i64 x.a,.int .i64 x.b,.int .i64 x.c,.int .u64 x.k,.string x.s,.string x.t,.slice x.ca x.chs.length x.cc,.slice x.sa x.sps.length x.sc] 39)).cell? ⟨w.heap.size,5,none⟩=some (.string x.s):=aC _ _ _ 5
 have y1:(w.alloc (Obj.cells #[.string x.kind,.int .i64 x.a,.int .i64 x.b,.int .i64 x.c,.int .u64 x.k,.string x.s,.string x.t,.slice x.ca x.chs.length x.cc,.slice x.sa x.sps.length x.sc] 39)).cell? ⟨w.heap.size,1,none⟩=some (.int .i64 x.a):=aC _ _ _ 1
 have y2:(w.alloc (Obj.cells #[.string x.kind,.int .i64 x.a,.int .i64 x.b,.int .i64 x.c,.int .u64 x.k,.string x.s,.string x.t,.slice x.ca x.chs.length x.cc,.slice x.sa x.sps.length x.sc] 39)).cell? ⟨w.heap.size,2,none⟩=some (.int .i64 x.b):=aC _ _ _ 2
 have hbA:=below_alloc1 w (Obj.cells #[.string x.kind,.int .i64 x.a,.int .i64 x.b,.int .i64 x.c,.int .u64 x.k,.string x.s,.string x.t,.slice x.ca x.chs.length x.cc,.slice x.sa x.sps.length x.sc] 39)
 have HB:=hide (h.on hbA)
 have HP:Hid (∀ w' c r,ActQ (w.alloc (Obj.cells #[.string x.kind,.int .i64 x.a,.int .i64 x.b,.int .i64 x.c,.int .u64 x.k,.string x.s,.string x.t,.slice x.ca x.chs.length x.cc,.slice x.sa x.sps.length x.sc] 39)) w' B wb S P since c r->ActQ w w' B wb S P since c r):=fun w' c r ha=>h.pre hbA ha
 clear h hbA
 have hle:=zE0 P chs rds x.s x.a x.b
 have HC:=hide (zCy x.s x.a x.b _ HB.out (by omega))
 generalize dK P chs rds x.s x.a x.b=r at *
 obtain⟨m,c,rd⟩:=r
 dsimp only at hle HC ⊢
 have HM:=fun W=>hide (zDc m W hle)
 have hf:=hle.2.2.2.1
 have hz1:=uP hle
 have hz2:=lA hf
 obtain⟨mk,mt,mu,md,em⟩:=m
 dsimp only at hf HC HM hz1 hz2 ⊢
 generalize msgT (mk,mt,mu,md,em)=mtx at *
 go_enter Tryz.func39,Tryz.ntmps39
 go_wp2_with fail
 generalize w.alloc (Obj.cells #[.string x.kind,.int .i64 x.a,.int .i64 x.b,.int .i64 x.c,.int .u64 x.k,.string x.s,.string x.t,.slice x.ca x.chs.length x.cc,.slice x.sa x.sps.length x.sc] 39)=wx at *
 refine HC.out.mono ?_
 rintro e w1 ⟨rfl,ha⟩
 have hbM:=below_alloc1 w1 (Obj.cells #[.int .i64 mk,.int .i64 mt,.int .i64 mu,.string md] 99)
 have HA:=hide (ha.post hbM)
 clear ha HC hbM
 go_wp2_with fail
 refine(HM _).out.mono ?_
 rintro e w2 ⟨rfl,hb2⟩
 have HA2:=hide (HA.out.post hb2)
 clear hb2
 go_wp2_with fail
 refine(eU _ w2 hf).mono ?_
 rintro e w3 ⟨rfl,hb3⟩
 have HR:=hide (HP.out _ _ _ (HA2.out.post hb3))
 clear hb3
 go_wp2
 go_ret
 exact⟨rfl,HR.out⟩
theorem zJW (x:ActL) {B wb:Nat} {S:Nat->Prop} {P:Rws} {since:Sn} {chs:List Chg} {rds:Rws} (w:World) (h:QV w B wb S P since chs rds) (k0:(x.kind.toList==[99,114,101,97,116,101])=false) (k1:(x.kind.toList==[115,101,110,100])=false) (k2:(x.kind.toList==[114,101,99,101,105,118,101])=false) (k3:(x.kind.toList==[97,99,107])=false) (k4:(x.kind.toList==[119,97,105,116])=false) (k5:(x.kind.toList==[112,117,116])=false) (k6:(x.kind.toList==[100,101,108,101,116,101])=false) (k7:(x.kind.toList==[103,101,116])=true) (hl:fT x):
  Calls Tryz.prog 39 #[.pointer (some ⟨wb,0,none⟩),.agg #[Value.string x.kind,Value.int .i64 x.a,Value.int .i64 x.b,Value.int .i64 x.c,Value.int .u64 x.k,Value.string x.s,Value.string x.t,Value.slice x.ca x.chs.length x.cc,Value.slice x.sa x.sps.length x.sc]] w fun e w'=>e=.returned (.string ((if (getP chs rds P x.s).2.1=true then ⟨#[43]⟩++(getP chs rds P x.s).1 else (getP chs rds P x.s).1)++eI (getP chs rds P x.s).2.2))/\ActQ w w' B wb S P since (chs) (getL chs rds x.s):=by
 have hs:=hl.1
 have ht:=hl.2.1
 have ha0:=hl.2.2.1
 have ha1:=hl.2.2.2
 have y0:(w.alloc (Obj.cells #[.string x.kind,.int .i64 x.a,.int .i64 x.b,.int .i64 x.c,.int .u64 x.k,.string x.s,.string x.t,.slice x.ca x.chs.length x.cc,.slice x.sa x.sps.length x.sc] 39)).cell? ⟨w.heap.size,0,none⟩=some (.string x.kind):=aC _ _ _ 0
 have y5:(w.alloc (Obj.cells #[.string x.kind,.int .i64 x.a,.int .i64 x.b,.int .i64 x.c,.int .u64 x.k,.string x.s,.string x.t,.slice x.ca x.chs.length x.cc,.slice x.sa x.sps.length x.sc] 39)).cell? ⟨w.heap.size,5,none⟩=some (.string x.s):=aC _ _ _ 5
 have hbA:=below_alloc1 w (Obj.cells #[.string x.kind,.int .i64 x.a,.int .i64 x.b,.int .i64 x.c,.int .u64 x.k,.string x.s,.string x.t,.slice x.ca x.chs.length x.cc,.slice x.sa x.sps.length x.sc] 39)
 have HB:=hide (h.on hbA)
 have HP:Hid (∀ w' c r,ActQ (w.alloc (Obj.cells #[.string x.kind,.int .i64 x.a,.int .i64 x.b,.int .i64 x.c,.int .u64 x.k,.string x.s,.string x.t,.slice x.ca x.chs.length x.cc,.slice x.sa x.sps.length x.sc] 39)) w' B wb S P since c r->ActQ w w' B wb S P since c r):=fun w' c r ha=>h.pre hbA ha
 clear h hbA
 have hle:(getP chs rds P x.s).2.2<=20:=Nat.le_trans (zAH chs rds P x.s) (by decide)
 have hz1:=uU HB.out.ok rds x.s
 have hz2:=lA hle
 have HC:=hide (zCw x.s _ HB.out (by unfold maxLen;omega))
 generalize getP chs rds P x.s=r at *
 obtain⟨v,is,f⟩:=r
 dsimp only at hle hz1 hz2 HC ⊢
 cases is
 all_goals
  simp only[if_true,Bool.false_eq_true,if_false]
  go_enter Tryz.func39,Tryz.ntmps39
  go_wp2_with fail
  generalize w.alloc (Obj.cells #[.string x.kind,.int .i64 x.a,.int .i64 x.b,.int .i64 x.c,.int .u64 x.k,.string x.s,.string x.t,.slice x.ca x.chs.length x.cc,.slice x.sa x.sps.length x.sc] 39)=wx at *
  refine HC.out.mono ?_
  rintro e w1 ⟨rfl,ha⟩
  have HA:=hide ha
  clear ha HC
  go_wp2_with fail
  refine(eU _ w1 hle).mono ?_
  rintro e w2 ⟨rfl,hb2⟩
  have HR:=hide (HP.out _ _ _ (HA.out.post hb2))
  clear hb2
  go_wp2
  go_ret
  exact⟨rfl,HR.out⟩
theorem qI (m:Msg):(qM m).length=4:=rfl
theorem zMB {w:World} {B:Nat} {v:Value} {l:List Msg} (h:ownM w B v l):∃ ao cap,v=.slice ao l.length cap/\(l=[]∨∃ g,ao=some ⟨g,0,none⟩/\∀ i (hi:i<l.length),w.cell? ⟨g,i*4,none⟩=some (.int .i64 l[i].1)/\w.cell? ⟨g,i*4+1,none⟩=some (.int .i64 l[i].2.1)/\w.cell? ⟨g,i*4+2,none⟩=some (.int .i64 l[i].2.2.1)/\w.cell? ⟨g,i*4+3,none⟩=some (.string l[i].2.2.2.1)):=by
 rcases aX h with⟨e,e2⟩|⟨g,cap,e,_⟩
 ·exact⟨none,0,by rw[e,e2],.inl (List.length_eq_zero_iff.1 e2)⟩
 ·refine⟨_,cap,e,.inr ⟨g,rfl,fun i hi=>?_⟩⟩
  unfold ownM at h
  rw[e] at h
  exact⟨(dU qI h i 0 hi (by omega)).1,(dU qI h i 1 hi (by omega)).1,(dU qI h i 2 hi (by omega)).1,(dU qI h i 3 hi (by omega)).1⟩
theorem zGC {l:List Msg} {k:Nat} (hk:k<l.length):mG (l.take (k+1))=mG (l.take k)++msgT l[k]++⟨#[59]⟩:=by
 unfold mG
 rw[List.take_succ_eq_append_getElem hk,List.foldl_append]
 rfl
theorem yF {l:Rws} {k:Nat} (hk:k<l.length):iI (l.take (k+1))=iI (l.take k)++l[k].1++⟨#[61]⟩++l[k].2++⟨#[59]⟩:=by
 unfold iI
 rw[List.take_succ_eq_append_getElem hk,List.foldl_append]
 rfl
theorem zCc (x:ActL) {B wb:Nat} {S:Nat->Prop} {P:Rws} {since:Sn} {chs:List Chg} {rds:Rws} (w:World) (h:QV w B wb S P since chs rds) (k0:(x.kind.toList==[99,114,101,97,116,101])=false) (k1:(x.kind.toList==[115,101,110,100])=false) (k2:(x.kind.toList==[114,101,99,101,105,118,101])=false) (k3:(x.kind.toList==[97,99,107])=false) (k4:(x.kind.toList==[119,97,105,116])=false) (k5:(x.kind.toList==[112,117,116])=false) (k6:(x.kind.toList==[100,101,108,101,116,101])=false) (k7:(x.kind.toList==[103,101,116])=false) (k8:(x.kind.toList==[109,101,115,115,97,103,101,115])=true) (hl:fT x):
  Calls Tryz.prog 39 #[.pointer (some ⟨wb,0,none⟩),.agg #[Value.string x.kind,Value.int .i64 x.a,Value.int .i64 x.b,Value.int .i64 x.c,Value.int .u64 x.k,Value.string x.s,Value.string x.t,Value.slice x.ca x.chs.length x.cc,Value.slice x.sa x.sps.length x.sc]] w fun e w'=>e=.returned (.string ((if (cY P chs rds x.s).1=0 then mG (cY P chs rds x.s).2.1 else ⟨#[]⟩)++eI (cY P chs rds x.s).1))/\ActQ w w' B wb S P since (chs) ((cY P chs rds x.s).2.2):=by
 have hs:=hl.1
 have ht:=hl.2.1
 have ha0:=hl.2.2.1
 have ha1:=hl.2.2.2
 have y0:(w.alloc (Obj.cells #[.string x.kind,.int .i64 x.a,.int .i64 x.b,.int .i64 x.c,.int .u64 x.k,.string x.s,.string x.t,.slice x.ca x.chs.length x.cc,.slice x.sa x.sps.length x.sc] 39)).cell? ⟨w.heap.size,0,none⟩=some (.string x.kind):=aC _ _ _ 0
 have y5:(w.alloc (Obj.cells #[.string x.kind,.int .i64 x.a,.int .i64 x.b,.int .i64 x.c,.int .u64 x.k,.string x.s,.string x.t,.slice x.ca x.chs.length x.cc,.slice x.sa x.sps.length x.sc] 39)).cell? ⟨w.heap.size,5,none⟩=some (.string x.s):=aC _ _ _ 5
 have hbA:=below_alloc1 w (Obj.cells #[.string x.kind,.int .i64 x.a,.int .i64 x.b,.int .i64 x.c,.int .u64 x.k,.string x.s,.string x.t,.slice x.ca x.chs.length x.cc,.slice x.sa x.sps.length x.sc] 39)
 have HB:=hide (h.on hbA)
 have HP:Hid (∀ w' c r,ActQ (w.alloc (Obj.cells #[.string x.kind,.int .i64 x.a,.int .i64 x.b,.int .i64 x.c,.int .u64 x.k,.string x.s,.string x.t,.slice x.ca x.chs.length x.cc,.slice x.sa x.sps.length x.sc] 39)) w' B wb S P since c r->ActQ w w' B wb S P since c r):=fun w' c r ha=>h.pre hbA ha
 clear h hbA
 have hle:=zCQ P chs rds x.s
 have HC:=hide (zCk x.s _ HB.out (by omega))
 generalize cY P chs rds x.s=r at *
 obtain⟨f,l,rd⟩:=r
 dsimp only at hle HC ⊢
 have hz2:=lA hle.1
 by_cases hf:f=0
 ·subst hf
  rw[if_pos rfl]
  go_enter Tryz.func39,Tryz.ntmps39
  go_wp2_with fail
  generalize w.alloc (Obj.cells #[.string x.kind,.int .i64 x.a,.int .i64 x.b,.int .i64 x.c,.int .u64 x.k,.string x.s,.string x.t,.slice x.ca x.chs.length x.cc,.slice x.sa x.sps.length x.sc] 39)=wx at *
  refine HC.out.mono ?_
  rintro e w1 ⟨h1,_⟩
  obtain⟨v,rfl,S1,ho,hq1,hs1,_⟩:=h1 rfl
  have HA:=hide (HP.out w1 _ _ ⟨S1,hq1,hs1⟩)
  obtain⟨ao,cap,rfl,hel⟩:=zMB ho
  have HEL:=hide hel
  have hll:l.length<=9223372036854775807:=by
   rcases aX ho with⟨_,e2⟩|⟨g,cap,e,_,_,h3,h4⟩
   ·omega
   ·unfold maxLen at h4;omega
  clear h1 ho hq1 hs1 hel HC
  have hl53:l.length<=1000:=hle.2.2
  have hzl:=yC hle.2.1
  have HF:=fun W=>hide (eU 0 W (by decide))
  rw[aR] at HF
  have hok:=hle.2.1
  go_wp2_with fail
  go_loopw [15,16] (fun sv iv wr=>∃ k:Nat,k<=l.length/\iv=.int .i64 (k:Int)/\sv=.string (mG (l.take k))/\Below w1.heap.size w1 wr) (fun _ iv _=>l.length-(intOf iv).toNat)
  case atStart=>exact⟨0,Nat.zero_le _,rfl,rfl,Below.refl _ _⟩
  case round=>
   obtain⟨k,hk,rfl,rfl,hb⟩:=hrel
   by_cases hlt:k<l.length
   ·have hlt':(k:Int)<(l.length:Int):=by omega
    have hk0:(0:Int)<=(k:Int):=by omega
    rcases HEL.out with e|⟨g,e,hc⟩
    ·rw[e] at hlt;simp at hlt
    subst e
    obtain⟨d0,d1,d2,d3⟩:=hc k hlt
    have HT:=hide (zGC hlt)
    have HM:=fun W=>hide (zDc l[k] W (hok _ (List.getElem_mem hlt)))
    have hz3:=uP (hok _ (List.getElem_mem hlt))
    have hz4:=yC (l:=l.take k) fun m hm=>hok m (List.mem_of_mem_take hm)
    have hz5:(l.take k).length<=1000:=by rw[List.length_take];omega
    replace d0:=aA hb d0
    replace d1:=aA hb d1
    replace d2:=aA hb d2
    replace d3:=aA hb d3
    clear hc
    generalize l[k]=m at *
    obtain⟨mk,mt,mu,md,em⟩:=m
    dsimp only at d0 d1 d2 d3 HM hz3
    have hz6:(mG (l.take k)).size<=61000:=by omega
    clear hz4 hz5 hzl
    generalize msgT (mk,mt,mu,md,em)=mtx at *
    generalize mG (l.take k)=pre at *
    go_wp2_with fail
    refine(HM _).out.mono ?_
    rintro e w2 ⟨rfl,hb2⟩
    have HB2:=hide (aB hb (Nat.le_refl _) hb2)
    clear hb2 d0 d1 d2 d3
    go_wp2_with fail
    exact⟨⟨k+1,by omega,by go_num,by rw[HT.out],HB2.out⟩,by simp[intOf];omega⟩
   ·have ek:k=l.length:=by omega
    subst ek
    rw[List.take_length]
    have hlt':¬(l.length:Int)<(l.length:Int):=by omega
    have hz6:(mG l).size<=61000:=by omega
    clear hzl
    go_wp2_with fail
    refine(HF _).out.mono ?_
    rintro e w3 ⟨rfl,hb3⟩
    have HR:=hide (HA.out.post (aB hb (Nat.le_refl _) hb3))
    clear hb3
    go_wp2
    go_ret
    exact⟨rfl,HR.out⟩
 ·rw[if_neg hf]
  go_enter Tryz.func39,Tryz.ntmps39
  go_wp2_with fail
  generalize w.alloc (Obj.cells #[.string x.kind,.int .i64 x.a,.int .i64 x.b,.int .i64 x.c,.int .u64 x.k,.string x.s,.string x.t,.slice x.ca x.chs.length x.cc,.slice x.sa x.sps.length x.sc] 39)=wx at *
  refine HC.out.mono ?_
  rintro e w1 ⟨_,h2⟩
  obtain⟨rfl,ha⟩:=h2 hf
  have HA:=hide ha
  have HF:=fun W=>hide (eU f W hle.1)
  clear ha HC h2
  generalize errV f=ev at *
  go_wp2_with fail
  refine wp_loop_rounds 1 ?_
  rw[rounds_succ]
  go_wp2_with fail
  refine(HF _).out.mono ?_
  rintro e w3 ⟨rfl,hb3⟩
  have HR:=hide (HP.out _ _ _ (HA.out.post hb3))
  clear hb3
  go_wp2
  go_ret
  exact⟨rfl,HR.out⟩
theorem zAL (x:ActL) {B wb:Nat} {S:Nat->Prop} {P:Rws} {since:Sn} {chs:List Chg} {rds:Rws} (w:World) (h:QV w B wb S P since chs rds) (k0:(x.kind.toList==[99,114,101,97,116,101])=false) (k1:(x.kind.toList==[115,101,110,100])=false) (k2:(x.kind.toList==[114,101,99,101,105,118,101])=false) (k3:(x.kind.toList==[97,99,107])=false) (k4:(x.kind.toList==[119,97,105,116])=false) (k5:(x.kind.toList==[112,117,116])=false) (k6:(x.kind.toList==[100,101,108,101,116,101])=false) (k7:(x.kind.toList==[103,101,116])=false) (k8:(x.kind.toList==[109,101,115,115,97,103,101,115])=false) (hl:fT x) (hn:¬0<x.sps.length):
  Calls Tryz.prog 39 #[.pointer (some ⟨wb,0,none⟩),.agg #[Value.string x.kind,Value.int .i64 x.a,Value.int .i64 x.b,Value.int .i64 x.c,Value.int .u64 x.k,Value.string x.s,Value.string x.t,Value.slice x.ca x.chs.length x.cc,Value.slice x.sa x.sps.length x.sc]] w fun e w'=>e=.returned (.string ((if dL (aF P chs ((⟨#[]⟩,⟨#[]⟩):ByteArray×ByteArray)) rds ((⟨#[]⟩,⟨#[]⟩):ByteArray×ByteArray) x.a=0 then iI ((aF P chs ((⟨#[]⟩,⟨#[]⟩):ByteArray×ByteArray)).take x.a.toNat) else ⟨#[]⟩)++eI (dL (aF P chs ((⟨#[]⟩,⟨#[]⟩):ByteArray×ByteArray)) rds ((⟨#[]⟩,⟨#[]⟩):ByteArray×ByteArray) x.a)))/\ActQ w w' B wb S P since (chs) (eP (aF P chs ((⟨#[]⟩,⟨#[]⟩):ByteArray×ByteArray)) rds ((⟨#[]⟩,⟨#[]⟩):ByteArray×ByteArray) x.a):=by
 have hs:=hl.1
 have ht:=hl.2.1
 have ha0:=hl.2.2.1
 have ha1:=hl.2.2.2
 have y0:(w.alloc (Obj.cells #[.string x.kind,.int .i64 x.a,.int .i64 x.b,.int .i64 x.c,.int .u64 x.k,.string x.s,.string x.t,.slice x.ca x.chs.length x.cc,.slice x.sa x.sps.length x.sc] 39)).cell? ⟨w.heap.size,0,none⟩=some (.string x.kind):=aC _ _ _ 0
 have y8:(w.alloc (Obj.cells #[.string x.kind,.int .i64 x.a,.int .i64 x.b,.int .i64 x.c,.int .u64 x.k,.string x.s,.string x.t,.slice x.ca x.chs.length x.cc,.slice x.sa x.sps.length x.sc] 39)).cell? ⟨w.heap.size,8,none⟩=some (.slice x.sa x.sps.length x.sc):=aC _ _ _ 8
 have y1:(w.alloc (Obj.cells #[.string x.kind,.int .i64 x.a,.int .i64 x.b,.int .i64 x.c,.int .u64 x.k,.string x.s,.string x.t,.slice x.ca x.chs.length x.cc,.slice x.sa x.sps.length x.sc] 39)).cell? ⟨w.heap.size,1,none⟩=some (.int .i64 x.a):=aC _ _ _ 1
 have hbA:=below_alloc1 w (Obj.cells #[.string x.kind,.int .i64 x.a,.int .i64 x.b,.int .i64 x.c,.int .u64 x.k,.string x.s,.string x.t,.slice x.ca x.chs.length x.cc,.slice x.sa x.sps.length x.sc] 39)
 have HB:=hide (h.on hbA)
 have HP:Hid (∀ w' c r,ActQ (w.alloc (Obj.cells #[.string x.kind,.int .i64 x.a,.int .i64 x.b,.int .i64 x.c,.int .u64 x.k,.string x.s,.string x.t,.slice x.ca x.chs.length x.cc,.slice x.sa x.sps.length x.sc] 39)) w' B wb S P since c r->ActQ w w' B wb S P since c r):=fun w' c r ha=>h.pre hbA ha
 clear h hbA
 have hsl:¬(0:Int)<(x.sps.length:Int):=by omega
 have hle:=xY (aF P chs ((⟨#[]⟩,⟨#[]⟩):ByteArray×ByteArray)) rds ((⟨#[]⟩,⟨#[]⟩):ByteArray×ByteArray) x.a
 have HQ:Hid (∀ W,Below (w.alloc (Obj.cells #[.string x.kind,.int .i64 x.a,.int .i64 x.b,.int .i64 x.c,.int .u64 x.k,.string x.s,.string x.t,.slice x.ca x.chs.length x.cc,.slice x.sa x.sps.length x.sc] 39)).heap.size (w.alloc (Obj.cells #[.string x.kind,.int .i64 x.a,.int .i64 x.b,.int .i64 x.c,.int .u64 x.k,.string x.s,.string x.t,.slice x.ca x.chs.length x.cc,.slice x.sa x.sps.length x.sc] 39)) W->Calls Tryz.prog 42 #[.pointer (some ⟨wb,0,none⟩),.agg #[.string ((⟨#[]⟩,⟨#[]⟩):ByteArray×ByteArray).1,.string ((⟨#[]⟩,⟨#[]⟩):ByteArray×ByteArray).2],.int .i64 x.a] W fun e w'=>(dL (aF P chs ((⟨#[]⟩,⟨#[]⟩):ByteArray×ByteArray)) rds ((⟨#[]⟩,⟨#[]⟩):ByteArray×ByteArray) x.a=0->∃ ao cap,e=.returned (.tuple #[.slice ao ((aF P chs ((⟨#[]⟩,⟨#[]⟩):ByteArray×ByteArray)).take x.a.toNat).length cap,.nilIface])/\((aF P chs ((⟨#[]⟩,⟨#[]⟩):ByteArray×ByteArray)).take x.a.toNat).length<=9223372036854775807/\bY w' ao ((aF P chs ((⟨#[]⟩,⟨#[]⟩):ByteArray×ByteArray)).take x.a.toNat)/\ActQ w w' B wb S P since chs (eP (aF P chs ((⟨#[]⟩,⟨#[]⟩):ByteArray×ByteArray)) rds ((⟨#[]⟩,⟨#[]⟩):ByteArray×ByteArray) x.a))/\(dL (aF P chs ((⟨#[]⟩,⟨#[]⟩):ByteArray×ByteArray)) rds ((⟨#[]⟩,⟨#[]⟩):ByteArray×ByteArray) x.a≠0->e=.returned (.tuple #[.slice none 0 0,errV (dL (aF P chs ((⟨#[]⟩,⟨#[]⟩):ByteArray×ByteArray)) rds ((⟨#[]⟩,⟨#[]⟩):ByteArray×ByteArray) x.a)])/\ActQ w w' B wb S P since chs (eP (aF P chs ((⟨#[]⟩,⟨#[]⟩):ByteArray×ByteArray)) rds ((⟨#[]⟩,⟨#[]⟩):ByteArray×ByteArray) x.a))):=fun W hb=>by
  refine(vM ((⟨#[]⟩,⟨#[]⟩):ByteArray×ByteArray) x.a W (HB.out.on hb).pv ha1).mono ?_
  rintro e w' ⟨s1,s2⟩
  refine⟨fun hz=>?_,fun hz=>?_⟩
  ·obtain⟨ao,cap,he,hcap,hh,S',hp,hst,_⟩:=s1 hz
   exact⟨ao,cap,he,by omega,hh,HP.out _ _ _ (HB.out.pre hb ((HB.out.on hb).act (HB.out.ok) ⟨S',hp,hst⟩))⟩
  ·obtain⟨he,ha⟩:=s2 hz
   exact⟨he,HP.out _ _ _ (HB.out.pre hb ((HB.out.on hb).act (HB.out.ok) ha))⟩
 have hz2:=lA hle
 have hrk:∀ r∈(aF P chs ((⟨#[]⟩,⟨#[]⟩):ByteArray×ByteArray)).take x.a.toNat,r.1.size<=60/\r.2.size<=40:=fun r hr=>⟨(jN HB.out.pv.ok ((⟨#[]⟩,⟨#[]⟩):ByteArray×ByteArray)).2 r (List.mem_of_mem_take hr),(tB HB.out.ok ((⟨#[]⟩,⟨#[]⟩):ByteArray×ByteArray) r (List.mem_of_mem_take hr)).2⟩
 have hln:((aF P chs ((⟨#[]⟩,⟨#[]⟩):ByteArray×ByteArray)).take x.a.toNat).length<=62:=by rw[List.length_take];have:=(jN HB.out.pv.ok ((⟨#[]⟩,⟨#[]⟩):ByteArray×ByteArray)).1;omega
 generalize dL (aF P chs ((⟨#[]⟩,⟨#[]⟩):ByteArray×ByteArray)) rds ((⟨#[]⟩,⟨#[]⟩):ByteArray×ByteArray) x.a=f at *
 generalize eP (aF P chs ((⟨#[]⟩,⟨#[]⟩):ByteArray×ByteArray)) rds ((⟨#[]⟩,⟨#[]⟩):ByteArray×ByteArray) x.a=rd at *
 generalize (aF P chs ((⟨#[]⟩,⟨#[]⟩):ByteArray×ByteArray)).take x.a.toNat=l at *
 clear HB HP
 dsimp only at HQ
 by_cases hf:f=0
 ·subst hf
  rw[if_pos rfl]
  go_enter Tryz.func39,Tryz.ntmps39
  go_wp2_with fail
  refine(HQ.out _ ?_).mono ?_
  ·exact below_alloc1 _ _
  rintro e w1 ⟨h1,_⟩
  obtain⟨ao,cap,rfl,hll,hheld,ha⟩:=h1 (by trivial)
  have HA:=hide ha
  have HH:=hide hheld
  clear h1 ha hheld HQ
  have HF:=fun W=>hide (eU 0 W (by decide))
  rw[aR] at HF
  go_wp2_with fail
  go_loopw [20,21] (fun sv iv wr=>∃ k:Nat,k<=l.length/\iv=.int .i64 (k:Int)/\sv=.string (iI (l.take k))/\Below w1.heap.size w1 wr) (fun _ iv _=>l.length-(intOf iv).toNat)
  case atStart=>exact⟨0,Nat.zero_le _,rfl,rfl,Below.refl _ _⟩
  case round=>
   obtain⟨k,hk,rfl,rfl,hb⟩:=hrel
   by_cases hlt:k<l.length
   ·have hlt':(k:Int)<(l.length:Int):=by omega
    have hk0:(0:Int)<=(k:Int):=by omega
    rcases HH.out with e|⟨g,off,e,hc⟩
    ·rw[e] at hlt;simp at hlt
    subst e
    obtain⟨d0,d1⟩:=hc k hlt
    have HT:=hide (yF hlt)
    have hz3:=hrk _ (List.getElem_mem hlt)
    have hz4:=oN (l:=l.take k) fun r hr=>hrk r (List.mem_of_mem_take hr)
    have hz5:(l.take k).length<=62:=by rw[List.length_take];omega
    have hz6:(iI (l.take k)).size<=6400:=by omega
    clear hz4 hz5
    replace d0:=aA hb d0
    replace d1:=aA hb d1
    clear hc
    generalize l[k]=m at *
    obtain⟨mk,mv⟩:=m
    dsimp only at d0 d1 HT hz3
    obtain⟨hz7,hz8⟩:=hz3
    generalize iI (l.take k)=pre at *
    have HBR:=hide hb
    clear hb
    go_wp2_with fail
    go_region
    go_wp2_with fail
    exact⟨⟨k+1,by omega,by go_num,by rw[HT.out],HBR.out.drew⟩,by simp[intOf];omega⟩
   ·have ek:k=l.length:=by omega
    subst ek
    rw[List.take_length]
    have hlt':¬(l.length:Int)<(l.length:Int):=by omega
    have hz6:(iI l).size<=6400:=by have:=oN hrk;omega
    go_wp2_with fail
    refine(HF _).out.mono ?_
    rintro e w3 ⟨rfl,hb3⟩
    have HR:=hide (HA.out.post (aB hb (Nat.le_refl _) hb3))
    clear hb3
    go_wp2
    go_ret
    exact⟨rfl,HR.out⟩
 ·rw[if_neg hf]
  go_enter Tryz.func39,Tryz.ntmps39
  go_wp2_with fail
  refine(HQ.out _ ?_).mono ?_
  ·exact below_alloc1 _ _
  rintro e w1 ⟨_,h2⟩
  obtain⟨rfl,ha⟩:=h2 hf
  have HA:=hide ha
  have HF:=fun W=>hide (eU f W hle)
  clear ha h2 HQ
  generalize errV f=ev at *
  go_wp2_with fail
  refine wp_loop_rounds 1 ?_
  rw[rounds_succ]
  go_wp2_with fail
  refine(HF _).out.mono ?_
  rintro e w3 ⟨rfl,hb3⟩
  have HR:=hide (HA.out.post hb3)
  clear hb3
  go_wp2
  go_ret
  exact⟨rfl,HR.out⟩
theorem zAO (x:ActL) {B wb:Nat} {S:Nat->Prop} {P:Rws} {since:Sn} {chs:List Chg} {rds:Rws} (w:World) (h:QV w B wb S P since chs rds) (k0:(x.kind.toList==[99,114,101,97,116,101])=false) (k1:(x.kind.toList==[115,101,110,100])=false) (k2:(x.kind.toList==[114,101,99,101,105,118,101])=false) (k3:(x.kind.toList==[97,99,107])=false) (k4:(x.kind.toList==[119,97,105,116])=false) (k5:(x.kind.toList==[112,117,116])=false) (k6:(x.kind.toList==[100,101,108,101,116,101])=false) (k7:(x.kind.toList==[103,101,116])=false) (k8:(x.kind.toList==[109,101,115,115,97,103,101,115])=false) (hl:fT x) (s:ByteArray×ByteArray) (b off:Nat) (hsa:x.sa=some ⟨b,off,none⟩) (hn:0<x.sps.length) (s0:w.cell? ⟨b,off,none⟩=some (.string s.1)) (s1:w.cell? ⟨b,off+1,none⟩=some (.string s.2)):
  Calls Tryz.prog 39 #[.pointer (some ⟨wb,0,none⟩),.agg #[Value.string x.kind,Value.int .i64 x.a,Value.int .i64 x.b,Value.int .i64 x.c,Value.int .u64 x.k,Value.string x.s,Value.string x.t,Value.slice x.ca x.chs.length x.cc,Value.slice x.sa x.sps.length x.sc]] w fun e w'=>e=.returned (.string ((if dL (aF P chs s) rds s x.a=0 then iI ((aF P chs s).take x.a.toNat) else ⟨#[]⟩)++eI (dL (aF P chs s) rds s x.a)))/\ActQ w w' B wb S P since (chs) (eP (aF P chs s) rds s x.a):=by
 have hs:=hl.1
 have ht:=hl.2.1
 have ha0:=hl.2.2.1
 have ha1:=hl.2.2.2
 have y0:(w.alloc (Obj.cells #[.string x.kind,.int .i64 x.a,.int .i64 x.b,.int .i64 x.c,.int .u64 x.k,.string x.s,.string x.t,.slice x.ca x.chs.length x.cc,.slice x.sa x.sps.length x.sc] 39)).cell? ⟨w.heap.size,0,none⟩=some (.string x.kind):=aC _ _ _ 0
 have y8:(w.alloc (Obj.cells #[.string x.kind,.int .i64 x.a,.int .i64 x.b,.int .i64 x.c,.int .u64 x.k,.string x.s,.string x.t,.slice x.ca x.chs.length x.cc,.slice x.sa x.sps.length x.sc] 39)).cell? ⟨w.heap.size,8,none⟩=some (.slice x.sa x.sps.length x.sc):=aC _ _ _ 8
 have y1:(w.alloc (Obj.cells #[.string x.kind,.int .i64 x.a,.int .i64 x.b,.int .i64 x.c,.int .u64 x.k,.string x.s,.string x.t,.slice x.ca x.chs.length x.cc,.slice x.sa x.sps.length x.sc] 39)).cell? ⟨w.heap.size,1,none⟩=some (.int .i64 x.a):=aC _ _ _ 1
 have hbA:=below_alloc1 w (Obj.cells #[.string x.kind,.int .i64 x.a,.int .i64 x.b,.int .i64 x.c,.int .u64 x.k,.string x.s,.string x.t,.slice x.ca x.chs.length x.cc,.slice x.sa x.sps.length x.sc] 39)
 have hbS:=hbA
 have HB:=hide (h.on hbA)
 have HP:Hid (∀ w' c r,ActQ (w.alloc (Obj.cells #[.string x.kind,.int .i64 x.a,.int .i64 x.b,.int .i64 x.c,.int .u64 x.k,.string x.s,.string x.t,.slice x.ca x.chs.length x.cc,.slice x.sa x.sps.length x.sc] 39)) w' B wb S P since c r->ActQ w w' B wb S P since c r):=fun w' c r ha=>h.pre hbA ha
 clear h hbA
 have hsl:(0:Int)<(x.sps.length:Int):=by omega
 have hsl2:(0:Int)<=0:=by decide
 have s0':=aA (below_alloc1 (w.alloc (Obj.cells #[.string x.kind,.int .i64 x.a,.int .i64 x.b,.int .i64 x.c,.int .u64 x.k,.string x.s,.string x.t,.slice x.ca x.chs.length x.cc,.slice x.sa x.sps.length x.sc] 39)) (Obj.cells #[.string ⟨#[]⟩,Value.string ⟨#[]⟩] 80)) (aA hbS s0)
 have s1':=aA (below_alloc1 (w.alloc (Obj.cells #[.string x.kind,.int .i64 x.a,.int .i64 x.b,.int .i64 x.c,.int .u64 x.k,.string x.s,.string x.t,.slice x.ca x.chs.length x.cc,.slice x.sa x.sps.length x.sc] 39)) (Obj.cells #[.string ⟨#[]⟩,Value.string ⟨#[]⟩] 80)) (aA hbS s1)
 have hle:=xY (aF P chs s) rds s x.a
 have HQ:Hid (∀ W,Below (w.alloc (Obj.cells #[.string x.kind,.int .i64 x.a,.int .i64 x.b,.int .i64 x.c,.int .u64 x.k,.string x.s,.string x.t,.slice x.ca x.chs.length x.cc,.slice x.sa x.sps.length x.sc] 39)).heap.size (w.alloc (Obj.cells #[.string x.kind,.int .i64 x.a,.int .i64 x.b,.int .i64 x.c,.int .u64 x.k,.string x.s,.string x.t,.slice x.ca x.chs.length x.cc,.slice x.sa x.sps.length x.sc] 39)) W->Calls Tryz.prog 42 #[.pointer (some ⟨wb,0,none⟩),.agg #[.string s.1,.string s.2],.int .i64 x.a] W fun e w'=>(dL (aF P chs s) rds s x.a=0->∃ ao cap,e=.returned (.tuple #[.slice ao ((aF P chs s).take x.a.toNat).length cap,.nilIface])/\((aF P chs s).take x.a.toNat).length<=9223372036854775807/\bY w' ao ((aF P chs s).take x.a.toNat)/\ActQ w w' B wb S P since chs (eP (aF P chs s) rds s x.a))/\(dL (aF P chs s) rds s x.a≠0->e=.returned (.tuple #[.slice none 0 0,errV (dL (aF P chs s) rds s x.a)])/\ActQ w w' B wb S P since chs (eP (aF P chs s) rds s x.a))):=fun W hb=>by
  refine(vM s x.a W (HB.out.on hb).pv ha1).mono ?_
  rintro e w' ⟨s1,s2⟩
  refine⟨fun hz=>?_,fun hz=>?_⟩
  ·obtain⟨ao,cap,he,hcap,hh,S',hp,hst,_⟩:=s1 hz
   exact⟨ao,cap,he,by omega,hh,HP.out _ _ _ (HB.out.pre hb ((HB.out.on hb).act (HB.out.ok) ⟨S',hp,hst⟩))⟩
  ·obtain⟨he,ha⟩:=s2 hz
   exact⟨he,HP.out _ _ _ (HB.out.pre hb ((HB.out.on hb).act (HB.out.ok) ha))⟩
 have hz2:=lA hle
 have hrk:∀ r∈(aF P chs s).take x.a.toNat,r.1.size<=60/\r.2.size<=40:=fun r hr=>⟨(jN HB.out.pv.ok s).2 r (List.mem_of_mem_take hr),(tB HB.out.ok s r (List.mem_of_mem_take hr)).2⟩
 have hln:((aF P chs s).take x.a.toNat).length<=62:=by rw[List.length_take];have:=(jN HB.out.pv.ok s).1;omega
 generalize dL (aF P chs s) rds s x.a=f at *
 generalize eP (aF P chs s) rds s x.a=rd at *
 generalize (aF P chs s).take x.a.toNat=l at *
 clear HB HP
 rw[hsa] at HQ y0 y1 y8 s0' s1' ⊢
 clear hsa hbS s0 s1
 by_cases hf:f=0
 ·subst hf
  rw[if_pos rfl]
  go_enter Tryz.func39,Tryz.ntmps39
  go_wp2_with fail
  refine(HQ.out _ ?_).mono ?_
  ·exact below_alloc1 _ _
  rintro e w1 ⟨h1,_⟩
  obtain⟨ao,cap,rfl,hll,hheld,ha⟩:=h1 (by trivial)
  have HA:=hide ha
  have HH:=hide hheld
  clear h1 ha hheld HQ
  have HF:=fun W=>hide (eU 0 W (by decide))
  rw[aR] at HF
  go_wp2_with fail
  go_loopw [20,21] (fun sv iv wr=>∃ k:Nat,k<=l.length/\iv=.int .i64 (k:Int)/\sv=.string (iI (l.take k))/\Below w1.heap.size w1 wr) (fun _ iv _=>l.length-(intOf iv).toNat)
  case atStart=>exact⟨0,Nat.zero_le _,rfl,rfl,Below.refl _ _⟩
  case round=>
   obtain⟨k,hk,rfl,rfl,hb⟩:=hrel
   by_cases hlt:k<l.length
   ·have hlt':(k:Int)<(l.length:Int):=by omega
    have hk0:(0:Int)<=(k:Int):=by omega
    rcases HH.out with e|⟨g,off,e,hc⟩
    ·rw[e] at hlt;simp at hlt
    subst e
    obtain⟨d0,d1⟩:=hc k hlt
    have HT:=hide (yF hlt)
    have hz3:=hrk _ (List.getElem_mem hlt)
    have hz4:=oN (l:=l.take k) fun r hr=>hrk r (List.mem_of_mem_take hr)
    have hz5:(l.take k).length<=62:=by rw[List.length_take];omega
    have hz6:(iI (l.take k)).size<=6400:=by omega
    clear hz4 hz5
    replace d0:=aA hb d0
    replace d1:=aA hb d1
    clear hc
    generalize l[k]=m at *
    obtain⟨mk,mv⟩:=m
    dsimp only at d0 d1 HT hz3
    obtain⟨hz7,hz8⟩:=hz3
    generalize iI (l.take k)=pre at *
    have HBR:=hide hb
    clear hb
    go_wp2_with fail
    go_region
    go_wp2_with fail
    exact⟨⟨k+1,by omega,by go_num,by rw[HT.out],HBR.out.drew⟩,by simp[intOf];omega⟩
   ·have ek:k=l.length:=by omega
    subst ek
    rw[List.take_length]
    have hlt':¬(l.length:Int)<(l.length:Int):=by omega
    have hz6:(iI l).size<=6400:=by have:=oN hrk;omega
    go_wp2_with fail
    refine(HF _).out.mono ?_
    rintro e w3 ⟨rfl,hb3⟩
    have HR:=hide (HA.out.post (aB hb (Nat.le_refl _) hb3))
    clear hb3
    go_wp2
    go_ret
    exact⟨rfl,HR.out⟩
 ·rw[if_neg hf]
  go_enter Tryz.func39,Tryz.ntmps39
  go_wp2_with fail
  refine(HQ.out _ ?_).mono ?_
  ·exact below_alloc1 _ _
  rintro e w1 ⟨_,h2⟩
  obtain⟨rfl,ha⟩:=h2 hf
  have HA:=hide ha
  have HF:=fun W=>hide (eU f W hle)
  clear ha h2 HQ
  generalize errV f=ev at *
  go_wp2_with fail
  refine wp_loop_rounds 1 ?_
  rw[rounds_succ]
  go_wp2_with fail
  refine(HF _).out.mono ?_
  rintro e w3 ⟨rfl,hb3⟩
  have HR:=hide (HA.out.post hb3)
  clear hb3
  go_wp2
  go_ret
  exact⟨rfl,HR.out⟩
end
end Go.Proofs.YtnboipekkahmnaaGreatDoor
