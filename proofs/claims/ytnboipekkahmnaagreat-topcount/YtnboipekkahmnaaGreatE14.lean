import Derived.Test.YtnboipekkahmnaaGreatE13
import Derived.Test.YtnboipekkahmnaaGreatRows
set_option maxHeartbeats 8000000
set_option maxRecDepth 100000
namespace Go.Proofs.YtnboipekkahmnaaGreat
section
open Go.RowKit Go.Joins
attribute [local go_sem ↓] Go.wp_at_zero Go.wp_at_succ
theorem VS.down {w:World} {B B' vb mb n:Nat} {now:Int} {D:DataW Value} {g:ByteArray->Value} {R:ByteArray->List Ver} (h:VS w B vb mb now n D g R) (hB:B'<=B):VS w B' vb mb now n D g R:=
 { h with rows:=fun key=>ownsRow_le (h.rows key) hB,lov:=Nat.le_trans hB h.lov,lom:=Nat.le_trans hB h.lom }
structure ENew (w w':World) (B eb db:Nat) (S:Nat->Prop) (s:ESt):Prop where
 ex:∃ m,EK w' B m s/\m.eb=eb/\m.db=db/\∀ k,allF m s.ses k->S k∨w.heap.size<=k
 bel:Below w.heap.size w w'
theorem zIf {B db:Nat} {S:Nat->Prop} {d:DSt} {area first u:Nat} {rows:List Chg} (w:World) (hk:DK w B db S d) (hr:cQ d area first u rows):
  Calls Tryz.prog 16 #[.pointer (some ⟨db,0,none⟩)] w fun e w'=>∃ eb,e=.returned (.tuple #[.pointer (some ⟨eb,0,none⟩),.nilIface])/\ENew w w' B eb db S (newE d area first u rows):=by
 have nn:=eG
 have hfew:=hr.few
 have hfine:=hr.fine
 have hBw:=hk.lo
 have hSlt:∀ k,S k->k<w.heap.size:=fun k e=>hk.lt e
 have HO:=hide (zFO w hk hr)
 have HRL:Hid ((aS rows).length<=1000/\∀ r∈aS rows,r.1.size<=1000000):=by
  have ov:=yA hfine hfew
  have h1:=ov.len
  refine⟨by omega,fun r hr=>?_⟩
  have:=ov.keys r hr
  omega
 clear hk
 go_enter Tryz.func16,Tryz.ntmps16
 go_wp2_with fail
 refine HO.out.mono ?_
 rintro e w1 ⟨sb,rfl,hn1⟩
 obtain⟨T,hsa,hT⟩:=hn1.sa
 have hb1:=hn1.bel
 have HRO:=hide (zBm w1 hsa (by show rows.length<=1000;omega))
 have HSA:=hide hsa
 have HT:=hide hT
 have HB1:=hide hb1
 clear hn1 hsa hT hb1 HO
 go_wp2_with fail
 refine HRO.out.mono ?_
 rintro e w2 ⟨rv,rfl,ho,hb2⟩
 obtain⟨ra,rc,rfl,hheld⟩:=lV ho
 have HNV:=hide (zMl (aS rows) ra rc w2 hheld HRL.out.1 HRL.out.2)
 have HB2:=hide hb2
 clear ho hb2 hheld HRO
 go_wp2_with fail
 refine HNV.out.mono ?_
 rintro e w3 ⟨vb,rfl,hb3,mb,D,g,hvs⟩
 have HV:=hide hvs
 have HB3:=hide hb3
 clear hvs hb3 HNV
 go_wp2
 go_ret2
 refine⟨_,rfl,?_⟩
 have hbA:=below_alloc1 w3 (Obj.cells #[.pointer (some ⟨sb,0,none⟩),.pointer (some ⟨vb,0,none⟩),.slice none 0 0,.pointer none,.pointer none,.pointer none,.pointer none] 60)
 have s1:=HB1.out.size
 have s2:=HB2.out.size
 have s3:=HB3.out.size
 have hb13:=aB HB2.out (Nat.le_refl _) HB3.out
 have hb14:=aB hb13 (Nat.le_refl _) hbA
 let m:EMem:=⟨w3.heap.size,sb,db,vb,mb,(aS rows).length,D,g,.slice none 0 0,[],fun _=>(0,.slice none 0 0,.slice none 0 0),T,fun _=>False⟩
 have hTlt:∀ k,T k->k<w1.heap.size:=fun k e=>HSA.out.lt e
 have hVlo:∀ k,inVS vb mb g k->w2.heap.size<=k:=by
  rintro k (rfl|rfl|⟨key,e⟩)
  ·exact HV.out.lov
  ·exact HV.out.lom
  ·exact(World.ownsRow.lt (HV.out.rows key) k e).1
 have hVlt:∀ k,inVS vb mb g k->k<w3.heap.size:=fun k e=>HV.out.lt e
 have hH:∀ k,inH w3.heap.size (.slice none 0 0) [] k->k=w3.heap.size:=by
  rintro k (rfl|e|⟨p,hp,_⟩)
  ·rfl
  ·cases e
  ·cases hp
 refine⟨⟨m,⟨?_,(HSA.out.on hb14),?_,(fun i v hv=>by cases hv),rfl,?_,?_,fun _ _=>rfl⟩,rfl,rfl,?_⟩,?_⟩
 ·exact {
   cell:=aC _ _ _ 2
   soft:=aQ _ _ _ 2
   lo:=by show B<=w3.heap.size;omega
   own:=World.ownsRow_nil _ _ _ _
   keys:=by intro p hp;cases hp
   off:=by simp[m,Value.ownBlock]
   offk:=by intro p hp;cases hp
   apart:=by intro p hp;cases hp
   pair:=List.Pairwise.nil
   rest:=fun j=>⟨fun hj=>by
    show(w3.alloc _).cell? ⟨w3.heap.size,j,none⟩=_
    rw[aC]
    have hj':j=0∨j=1∨j=3∨j=4∨j=5∨j=6∨7<=j:=by omega
    rcases hj' with rfl|rfl|rfl|rfl|rfl|rfl|h7
    ·rfl
    ·rfl
    ·rfl
    ·rfl
    ·rfl
    ·rfl
    ·unfold engX
     rw[if_neg (by omega),if_neg (by omega),if_neg (by omega)]
     exact Array.getElem?_eq_none h7,aQ _ _ _ j⟩ }
 ·exact(HV.out.on hbA).down (by omega)
 ·have hlo:∀ i k,engF m (newE d area first u rows).ses i k->(i=0/\k=w3.heap.size)∨(i=1/\k<w1.heap.size)∨(i=2/\w2.heap.size<=k/\k<w3.heap.size):=by
   intro i k hk
   match i,hk with
   | 0,hk=>exact .inl ⟨rfl,hH k hk⟩
   | 1,hk=>exact .inr (.inl ⟨rfl,hTlt k hk⟩)
   | 2,hk=>exact .inr (.inr ⟨rfl,hVlo k hk,hVlt k hk⟩)
   | i+3,hk=>exact absurd rfl hk.1
  intro i j k h1 h2
  rcases hlo i k h1 with⟨a,b⟩|⟨a,b⟩|⟨a,b,c⟩<;>rcases hlo j k h2 with⟨a',b'⟩|⟨a',b'⟩|⟨a',b',c'⟩<;>omega
 ·have:=HRL.out.1
  show(aS rows).length<=2000*(0+1)
  omega
 ·rintro k ⟨i,hk⟩
  match i,hk with
  | 0,hk=>have:=hH k hk;exact .inr (by omega)
  | 1,hk=>exact HT.out k hk
  | 2,hk=>have:=hVlo k hk;exact .inr (by omega)
  | i+3,hk=>exact absurd rfl hk.1
 ·exact aB HB1.out (Nat.le_refl _) hb14
theorem pX (W:World):(binOp .eql 30 .nilIface .nilIface).run Tryz.prog W=.ok (.bool true) W:=by kernel_rfl
theorem zGI (f:Nat) (w:World):Calls Tryz.prog 11 #[errV f] w fun e w'=>e=.returned (.int .i64 f)/\w'=w:=by
 have n0:=pX
 have n1:=rD 52
 by_cases h:f=0
 ·subst h
  rw[aR]
  go_enter Tryz.func11,Tryz.ntmps11
  go_wp2
  go_ret
  exact⟨rfl,rfl⟩
 ·have h1:=zDu (.int .i64 f)
  rw[aP h]
  go_enter Tryz.func11,Tryz.ntmps11
  go_wp2
  go_ret
  exact⟨rfl,rfl⟩
theorem zGX (s:ESt) (i:Nat):(dX s i).ses i=some ⟨aS s.x.rows,s.now,[],[]⟩:=by
 show setS s.ses i _ i=_
 exact hE _ _ _
theorem zHj (s:ESt) (i:Nat) (v:VwL) (chs:List Chg) (rds:Rws):(jU s i v chs rds).ses i=some ⟨v.P,v.n,chs,rds⟩:=by
 show setS s.ses i _ i=_
 exact hE _ _ _
structure zDq (s:ESt) (n:Nat):Prop where
 ok:EOk s
 rows:s.x.rows=[]
 left:s.x.d.left=-1
 len:s.x.d.now.length=n
 used:s.x.used=0
 now:s.now=0
 c:s.c=0
 ds:s.ds=[]
 ses:∀ i,s.ses i=none
structure zL2 (w w':World) (n db eb:Nat):Prop where
 ex:∃ m s,EK w' w.heap.size m s/\m.eb=eb/\m.db=db/\zDq s n
 bel:Below w.heap.size w w'
theorem vC (n:Nat) (w:World) (h1:54<=n) (h2:n<=200):Calls Tryz.prog 5 #[.int .i64 (n:Int)] w fun e w'=>∃ db eb,e=.returned (.tuple #[.pointer (some ⟨db,0,none⟩),.pointer (some ⟨eb,0,none⟩),.bool true])/\zL2 w w' n db eb:=by
 have nn:=eG
 have hlen:(qQ n).now.length=n:=by show(List.replicate n (bD 96)).length=n;simp
 have hfg:=zD1 (s:=qQ n) rfl rfl (by rw[hlen];exact h1)
 have HFG:=hide hfg
 have HLEN:=hide hlen
 clear hfg hlen
 generalize aM (qQ n).now=fr at *
 generalize hl:dC 0 [] (qQ n)=r at *
 have HL:=hide hl
 clear hl
 go_enter Tryz.func5,Tryz.ntmps5
 go_wp2_with fail
 refine(zDe n _ (by omega) h2).mono ?_
 rintro e w1 ⟨db,rfl,⟨S1,hk1⟩,hb1⟩
 have HFO:=hide (zFF w1 hk1 (by rw[HLEN.out];exact h1))
 rw[HL.out,HFG.out.1,aR] at HFO
 have HB1:=hide hb1
 clear hk1 hb1
 go_wp2_with fail
 refine HFO.out.mono ?_
 rintro e w2 ⟨rfl,S2,hk2,hs2⟩
 have HOP:=hide (zIf w2 hk2 HFG.out.2.1)
 have HB2:=hide (HB1.out.trans hs2.bel)
 clear hk2 hs2 HFO
 go_wp2_with fail
 refine HOP.out.mono ?_
 rintro e w3 ⟨eb,rfl,hn3⟩
 have HN3:=hide hn3
 clear hn3 HOP
 go_wp2
 go_ret3
 obtain⟨m,hek,he1,he2,_⟩:=HN3.out.ex
 exact⟨db,eb,rfl,⟨m,_,hek,he1,he2,EOk.new HFG.out.2.1,rfl,HFG.out.2.2.1,HFG.out.2.2.2.trans HLEN.out,rfl,rfl,rfl,rfl,fun _=>rfl⟩,aB HB2.out (Nat.le_refl _) HN3.out.bel⟩
def wK:ByteArray:=⟨#[116,47,97]⟩
def wV:ByteArray:=⟨#[120]⟩
theorem zAp:aD ⟨wK,wV,false⟩=0:=by decide +kernel
theorem zFa:cH [] ⟨wK,wV,false⟩=0/\bG [] ⟨wK,wV,false⟩=[⟨wK,wV,false⟩]:=by
 have h:cH [] ⟨wK,wV,false⟩=0:=by
  unfold cH
  rw[if_pos zAp]
  rfl
 exact⟨h,by unfold bG;rw[if_pos h];rfl⟩
theorem zIT {s:ESt} {n:Nat} (h:zDq s n) (hn:54<=n) {c:Chg} (hc:aD c=0) (hg:c.gone=false):comF s.x [c]=0/\(aK s.x.rows [c]).length=1:=by
 have hb:aK s.x.rows [c]=[c]:=by
  rw[h.rows]
  show([c].filter fQ)=[c]
  have:fQ c=true:=by unfold fQ;rw[hg];rfl
  rw[List.filter_cons_of_pos this]
  rfl
 refine⟨?_,by rw[hb];rfl⟩
 unfold comF
 have hd:jW [c]=0:=by
  unfold jW
  rw[if_neg (by show ¬12<1;decide)]
  show(if aD c=0 then 0 else aD c)=0
  rw[if_pos hc]
 rw[if_neg (by rw[hd];decide),if_neg]
 rw[hb,h.len]
 show ¬(40<1∨n-50<1+1)
 omega
theorem zHJ (w:World):Calls Tryz.prog 4 #[] w fun e w'=>e=.returned (.bool true)/\Below w.heap.size w w':=by
 have nn:=eG
 have ne:=pX
 go_enter Tryz.func4,Tryz.ntmps4
 go_wp2_with fail
 refine(vC 80 w (by decide) (by decide)).mono ?_
 rintro e w1 ⟨db,eb,rfl,hst⟩
 obtain⟨m,s,hek,rfl,rfl,fr⟩:=hst.ex
 have HB1:=hide hst.bel
 have HFR:=hide fr
 have HBG:=hide (wB w1 hek (i:=0) (by decide) (fr.ses 0))
 clear hst hek
 go_wp2_with fail
 refine HBG.out.mono ?_
 rintro e w2 ⟨rfl,m2,hek2,he2,_,hs2⟩
 have ok2:=HFR.out.ok.begin 0
 have hses2:(dX s 0).ses 0=some ⟨aS s.x.rows,s.now,[],[]⟩:=zGX s 0
 have HDE:=hide (mT w2 hek2 (i:=0) (by decide) hses2)
 have hc2:(dX s 0).c=0:=HFR.out.c
 have hpv:=hek2.pv ok2 hses2 (by rw[hc2];decide)
 have hpp:=zIB wK wV w2 hpv (by decide) (fun _=>by decide)
 rw[zFa.1,zFa.2,aR] at hpp
 have HPU:=hide hpp
 have HEK2:=hide hek2
 have HB2:=hide (HB1.out.trans hs2.bel)
 rw[he2] at HDE
 clear hek2 hs2 hpv hpp HBG HB1
 go_wp2_with fail
 refine HDE.out.mono ?_
 rintro e w3 ⟨rfl,hw3⟩
 rw[hw3]
 clear hw3 HDE
 go_wp2_with fail
 refine HPU.out.mono ?_
 rintro e w4 ⟨rfl,S4',hp4,hs4⟩
 obtain⟨x4,_,hek4,hst4⟩:=HEK2.out.view hses2 (by decide) hp4 hs4
 have ok4:EOk (jU (dX s 0) 0 ⟨aS s.x.rows,s.now,[],[]⟩ [⟨wK,wV,false⟩] []):=ok2.view hses2 hp4.ok ⟨(ok2.ses 0 _ hses2).oq.rk,fun c hc=>by rw[List.mem_singleton.1 hc];exact zAp⟩
 have hses4:(jU (dX s 0) 0 ⟨aS s.x.rows,s.now,[],[]⟩ [⟨wK,wV,false⟩] []).ses 0=some ⟨aS s.x.rows,s.now,[⟨wK,wV,false⟩],[]⟩:=zHj _ _ _ _ _
 obtain⟨cf,cl⟩:=zIT HFR.out (by decide) zAp rfl
 have hnev:=HFR.out.ok.g.never HFR.out.left [⟨wK,wV,false⟩]
 have hR0:(comR s.x [⟨wK,wV,false⟩]).1=0:=hnev.1.trans cf
 have hrows:(comR s.x [⟨wK,wV,false⟩]).2.rows=aK s.x.rows [⟨wK,wV,false⟩]:=by
  rcases(HFR.out.ok.g.commit [⟨wK,wV,false⟩]).2 with⟨_,_,_,c,_⟩|⟨a,b,_⟩|⟨a,_⟩
  ·exact c
  ·exact absurd cf b
  ·rw[hR0] at a;cases a
 have hce:comE (jU (dX s 0) 0 ⟨aS s.x.rows,s.now,[],[]⟩ [⟨wK,wV,false⟩] []) 0=((s.now+1,0),endE (addE (jU (dX s 0) 0 ⟨aS s.x.rows,s.now,[],[]⟩ [⟨wK,wV,false⟩] []) [⟨wK,wV,false⟩]) 0):=by
  unfold comE
  rw[hses4]
  dsimp only
  rw[if_neg (by simp),if_neg (by rw[zHB];decide),if_neg (by show ¬(comR s.x _).1≠0;rw[hR0];decide)]
  rfl
 have hcm:=vX w4 hek4 ok4 (i:=0) (by decide) (by show s.c<=150;rw[HFR.out.c];decide)
 rw[hce] at hcm
 dsimp only at hcm
 have hn1:((s.now+1:Nat):Int)=1:=by rw[HFR.out.now];rfl
 rw[hn1,aR] at hcm
 have HCM:=hide hcm
 have HRW:Hid (∀ w5 m5,EK w5 w.heap.size m5 (endE (addE (jU (dX s 0) 0 ⟨aS s.x.rows,s.now,[],[]⟩ [⟨wK,wV,false⟩] []) [⟨wK,wV,false⟩]) 0)->Calls Tryz.prog 13 #[.pointer (some ⟨m5.eb,0,none⟩)] w5 fun e w'=>∃ ao cap,e=.returned (.slice ao 1 cap)/\Below w5.heap.size w5 w'):=fun w5 m5 h5=>by
  have hl1:(comR s.x [⟨wK,wV,false⟩]).2.rows.length=1:=by rw[hrows];exact cl
  refine(zBq w5 h5 (by show(comR s.x [⟨wK,wV,false⟩]).2.rows.length<=1000;omega)).mono ?_
  rintro e w' ⟨v,rfl,ho,hb⟩
  obtain⟨ao,cap,rfl,_⟩:=lV ho
  refine⟨ao,cap,?_,hb⟩
  have:(aS (endE (addE (jU (dX s 0) 0 ⟨aS s.x.rows,s.now,[],[]⟩ [⟨wK,wV,false⟩] []) [⟨wK,wV,false⟩]) 0).x.rows).length=1:=by
   show(aS (comR s.x [⟨wK,wV,false⟩]).2.rows).length=1
   unfold aS
   rw[List.length_map];exact hl1
  rw[this]
 have HB4:=hide (HB2.out.trans hst4.bel)
 have he4:m2.eb=m.eb:=he2
 clear hn1 hek4 hst4 ok4 hses4 cf cl hnev hR0 hrows hce hcm HPU hp4 hs4 HEK2 ok2 hses2 hc2 HB2
 have HCM':Hid (Calls Tryz.prog 10 #[.pointer (some ⟨m.eb,0,none⟩),.int .i64 0] w4 fun e w'=>e=.returned (.tuple #[.int .i64 1,.nilIface])/\Below w.heap.size w w'/\∃ m5,m5.eb=m.eb/\EK w' w.heap.size m5 (endE (addE (jU (dX s 0) 0 ⟨aS s.x.rows,s.now,[],[]⟩ [⟨wK,wV,false⟩] []) [⟨wK,wV,false⟩]) 0)):=by
  have h:=HCM.out
  rw[show({ m2 with W:=updW m2.W 0 x4 }:EMem).eb=m.eb from he4] at h
  refine h.mono ?_
  rintro e w' ⟨rfl,m5,k1,k2,_,k4⟩
  exact⟨rfl,HB4.out.trans k4.bel,m5,k2,k1⟩
 clear HCM HB4
 generalize endE (addE (jU (dX s 0) 0 ⟨aS s.x.rows,s.now,[],[]⟩ [⟨wK,wV,false⟩] []) [⟨wK,wV,false⟩]) 0=s5 at *
 go_wp2_with fail
 refine HCM'.out.mono ?_
 rintro e w5 ⟨rfl,hb5,m5,he5,hek5⟩
 have HR5:=hide (HRW.out w5 m5 hek5)
 rw[he5] at HR5
 have HB5:=hide hb5
 clear HCM' hek5 hb5 HRW
 go_wp2_with fail
 refine HR5.out.mono ?_
 rintro e w6 ⟨ao,cap,rfl,hb6⟩
 have HB6:=hide (aB HB5.out (Nat.le_refl _) hb6)
 clear hb6
 go_wp2
 go_ret
 exact⟨rfl,HB6.out⟩
end
section
open Go.RowKit Go.Joins Go.Shelf
def ctK:ByteArray:=⟨#[116,47,110]⟩
theorem bJ:keyL ctK.data.toList=true:=by decide +kernel
def CRow (rows:List Chg) (many:Nat):Prop:=(many=0/\rows=[])∨(0<many/\∃ v,v.size=many/\rows=[⟨ctK,v,false⟩])
theorem CRow.val {rows:List Chg} {many:Nat} (h:CRow rows many):(valR (aS rows) ctK).1.size=many/\(valR (aS rows) ctK).2=decide (0<many):=by
 rcases h with⟨e,rfl⟩|⟨hp,v,hv,rfl⟩
 ·subst e;exact⟨rfl,rfl⟩
 ·show(valR [(ctK,v)] ctK).1.size=many/\(valR [(ctK,v)] ctK).2=_
  have e:valR [(ctK,v)] ctK=(v,true):=by
   rw[zBR,if_pos (by show eqS ctK ctK=true;decide +kernel)]
  rw[e]
  exact⟨hv,by simp[hp]⟩
theorem CRow.put {rows:List Chg} {many:Nat} (h:CRow rows many) (hf:fH rows) (v:ByteArray) (hv:v.size=many+1):CRow (aK rows [⟨ctK,v,false⟩]) (many+1):=by
 right
 refine⟨Nat.succ_pos _,v,hv,?_⟩
 rw[cY hf rfl]
 rcases h with⟨_,rfl⟩|⟨_,u,_,rfl⟩
 ·rfl
 ·have e:ltS ctK ctK=false:=bA _
  simp[e]
theorem CRow.len {rows:List Chg} {many:Nat} (h:CRow rows many):rows.length<=1:=by
 rcases h with⟨_,rfl⟩|⟨_,u,_,rfl⟩
 ·exact Nat.zero_le _
 ·exact Nat.le_refl _
structure CVw (v:VwL) (mark:ByteArray):Prop where
 chs:v.chs=[]
 rds:v.rds=[(ctK,cX ctK)]
 val:(valR v.P ctK).1=mark
 big:mark.size<=40
structure CT (s:ESt) (marks:Nat->ByteArray) (many k:Nat):Prop where
 fit:Fit s 120
 row:CRow s.x.rows many
 c:s.c<=k
 ses:∀ i v,s.ses i=some v->CVw v (marks i)
def setM (f:Nat->ByteArray) (i:Nat) (v:ByteArray):Nat->ByteArray:=fun j=>if j=i then v else f j
theorem eN:hasS ctK (cX ctK) ctK=true:=by decide +kernel
theorem eM (P:Rws):getP [] [] P ctK=((valR P ctK).1,(valR P ctK).2,0):=by
 unfold getP
 rw[if_pos bJ]
 rfl
theorem dP:getL [] [] ctK=[(ctK,cX ctK)]:=by decide +kernel
theorem eE {P:Rws} {chs:List Chg} (h:OkQ P chs) (key:ByteArray) (hk:keyL key.data.toList=true):(valR P key).1.size<=40:=by
 have h0:OkQ P []:=⟨h.rk,fun c hc=>absurd hc List.not_mem_nil⟩
 have:=uU h0 [] key
 have e:getP [] [] P key=((valR P key).1,(valR P key).2,0):=by
  unfold getP
  rw[if_pos hk]
  rfl
 rw[e] at this
 exact this
section
variable {s:ESt} {marks:Nat->ByteArray} {many k:Nat}
theorem CT.begun (h:CT s marks many k) {i:Nat} (hi:i<4) (h0:s.ses i=none):
  CT (jU (dX s i) i ⟨aS s.x.rows,s.now,[],[]⟩ [] (getL [] [] ctK)) (setM marks i (valR (aS s.x.rows) ctK).1) many (k+1):=by
 have hf:=h.fit.begin hi
 have hv:(dX s i).ses i=some ⟨aS s.x.rows,s.now,[],[]⟩:=zGX s i
 have ho:=hf.ok.ses i _ hv
 have h2:Ok2 (aS s.x.rows) [] (getL [] [] ctK):=Ok2.get ⟨ho.ov,ho.oq⟩ ctK
 refine⟨⟨hf.ok.view hv h2.ov h2.oq,hf.s4.set hi _,hf.left,hf.len⟩,h.row,Nat.le_succ_of_le h.c,fun j v hj=>?_⟩
 by_cases e:j=i
 ·subst e
  rw[zHj] at hj
  cases hj
  refine⟨rfl,dP,(if_pos rfl).symm,?_⟩
  rw[show setM marks j (valR (aS s.x.rows) ctK).1 j=_ from if_pos rfl]
  exact eE ho.oq ctK bJ
 ·have hj':s.ses j=some v:=by
   have e1:(jU (dX s i) i ⟨aS s.x.rows,s.now,[],[]⟩ [] (getL [] [] ctK)).ses j=s.ses j:=(hU _ e).trans (hU _ e)
   rw[<-e1];exact hj
  have:=h.ses j v hj'
  rw[show setM marks i (valR (aS s.x.rows) ctK).1 j=marks j from if_neg e]
  exact this
def xSt (m:ByteArray):ByteArray:=m++⟨#[120]⟩
theorem cP (m:ByteArray):(xSt m).size=m.size+1:=by unfold xSt;rw[ByteArray.size_append];rfl
theorem aN (m:ByteArray):aD ⟨ctK,xSt m,false⟩=if m.size<40 then 0 else 1:=by
 unfold aD
 rw[if_neg (by show ¬(!keyL ctK.data.toList)=true;rw[bJ];decide),if_neg (by simp)]
 show(if 40<(xSt m).size then 1 else 0)=_
 rw[cP]
 by_cases e:m.size<40
 ·rw[if_neg (by omega),if_pos e]
 ·rw[if_pos (by omega),if_neg e]
theorem eL (m:ByteArray):cH [] ⟨ctK,xSt m,false⟩=if m.size<40 then 0 else 1:=by
 unfold cH
 rw[aN]
 by_cases e:m.size<40
 ·rw[if_pos e];rfl
 ·rw[if_neg e];rfl
theorem CT.com (h:CT s marks many k) {i:Nat} (hi:i<4) {v:VwL} (hv:s.ses i=some v) (hm:(marks i).size<40):
  ((comE (jU s i v [⟨ctK,xSt (marks i),false⟩] v.rds) i).1.2=0/\CT (comE (jU s i v [⟨ctK,xSt (marks i),false⟩] v.rds) i).2 marks (many+1) (k+1))∨
  ((comE (jU s i v [⟨ctK,xSt (marks i),false⟩] v.rds) i).1.2=9/\CT (comE (jU s i v [⟨ctK,xSt (marks i),false⟩] v.rds) i).2 marks many (k+1)):=by
 have hw:=h.ses i v hv
 have ho:=h.fit.ok.ses i v hv
 have hcf:aD ⟨ctK,xSt (marks i),false⟩=0:=by rw[aN,if_pos hm]
 have ha:=aT hcf
 have h2:Ok2 v.P (bG v.chs ⟨ctK,xSt (marks i),false⟩) v.rds:=Ok2.alter ⟨ho.ov,ho.oq⟩ _
 rw[hw.chs,ha.2] at h2
 have hfv:Fit (jU s i v [⟨ctK,xSt (marks i),false⟩] v.rds) 120:=⟨h.fit.ok.view hv h2.ov h2.oq,h.fit.s4.set hi _,h.fit.left,h.fit.len⟩
 have hu:=zHj s i v [⟨ctK,xSt (marks i),false⟩] v.rds
 have hoth:∀ j u,j≠i->(jU s i v [⟨ctK,xSt (marks i),false⟩] v.rds).ses j=some u->CVw u (marks j):=fun j u hj e=>h.ses j u (by rw[<-e];exact(hU _ hj).symm)
 have hsv:(jU s i v [⟨ctK,xSt (marks i),false⟩] v.rds).x=s.x/\(jU s i v [⟨ctK,xSt (marks i),false⟩] v.rds).c=s.c/\(jU s i v [⟨ctK,xSt (marks i),false⟩] v.rds).ds=s.ds:=⟨rfl,rfl,rfl⟩
 obtain⟨q1,q2⟩:=hfv.com hi
 generalize jU s i v [⟨ctK,xSt (marks i),false⟩] v.rds=t at *
 have hend:∀ (t':ESt) (j:Nat) (u:VwL),t'.ses=t.ses->(endE t' i).ses j=some u->CVw u (marks j):=fun t' j u ht hj=>by
  have hne:j≠i:=fun e=>by
   subst e
   have:(endE t' j).ses j=none:=hE _ _ _
   rw[this] at hj;cases hj
  refine hoth j u hne ?_
  have:(endE t' i).ses j=t'.ses j:=hU _ hne
  rw[<-ht,<-this];exact hj
 have hc:t.c<=k:=by rw[hsv.2.1];exact h.c
 by_cases hcl:lC t.ds v.rds v.n=false
 ·right
  have e:comE t i=((0,9),endE t i):=by
   unfold comE
   rw[hu]
   dsimp only
   rw[if_neg (by exact nofun),if_pos hcl]
  rw[e] at q1 q2 ⊢
  refine⟨rfl,q1,?_,Nat.le_trans q2 (Nat.succ_le_succ hc),fun j u hj=>hend t j u rfl hj⟩
  show CRow t.x.rows many
  rw[hsv.1];exact h.row
 ·left
  have hsem:valR (aS s.x.rows) ctK=valR v.P ctK:=ho.sem ctK fun d hd hn hk=>by
   refine hcl ?_
   rw[hsv.2.2,hw.rds,bC h.fit.ok.rd,List.all_eq_false]
   refine⟨d,List.mem_filter.2 ⟨hd,by simpa using hn⟩,?_⟩
   have:zLM [(ctK,cX ctK)] d=true:=by
    unfold zLM
    rw[List.any_eq_true]
    exact⟨ctK,hk,by simp[eN]⟩
   rw[this];decide
  have hms:(marks i).size=many:=by rw[<-hw.val,<-hsem];exact h.row.val.1
  have hbl:(aK t.x.rows [⟨ctK,xSt (marks i),false⟩]).length<=40:=by
   have:=zGt t.x.rows [⟨ctK,xSt (marks i),false⟩]
   have h1:=h.row.len
   rw[hsv.1] at this ⊢
   have:([⟨ctK,xSt (marks i),false⟩]:List Chg).length=1:=rfl
   omega
  have n1:=(hfv.ok.g.never hfv.left [⟨ctK,xSt (marks i),false⟩]).1
  have hcm:=(hfv.ok.g.commit [⟨ctK,xSt (marks i),false⟩]).2
  have hcF:comF t.x [⟨ctK,xSt (marks i),false⟩]=0:=by
   unfold comF
   rw[if_neg (by rw[dQ hcf];decide),hfv.len,if_neg]
   rintro(e|e)
   ·omega
   ·have:([⟨ctK,xSt (marks i),false⟩]:List Chg).length=1:=rfl
    rw[this] at e
    omega
  have hrows:(comR t.x [⟨ctK,xSt (marks i),false⟩]).2.rows=aK t.x.rows [⟨ctK,xSt (marks i),false⟩]:=by
   rcases hcm with⟨_,_,_,e,_⟩|⟨_,e,_⟩|⟨a,_⟩
   ·exact e
   ·exact absurd hcF e
   ·rw[n1,hcF] at a;cases a
  have e:comE t i=((t.now+1,0),endE (addE t [⟨ctK,xSt (marks i),false⟩]) i):=by
   unfold comE
   rw[hu]
   dsimp only
   rw[if_neg (by exact nofun),if_neg hcl,if_neg (by rw[n1,hcF];decide)]
  rw[e] at q1 q2 ⊢
  refine⟨rfl,q1,?_,Nat.le_trans q2 (Nat.succ_le_succ hc),fun j u hj=>hend _ j u rfl hj⟩
  show CRow (comR t.x [⟨ctK,xSt (marks i),false⟩]).2.rows (many+1)
  rw[hrows,hsv.1]
  exact h.row.put h.fit.ok.fine _ (by rw[cP,hms])
end
structure RunZ (w0 w:World) (B:Nat) (m:EMem) (s:ESt) (n:Nat):Prop where
 ek:EK w B m s
 fit:Fit s n
 bel:Below w0.heap.size w0 w
 lo:w0.heap.size<=B
structure RunY (w0 w w':World) (B:Nat) (m:EMem) (s s':ESt) (n:Nat) (m':EMem):Prop where
 run:RunZ w0 w' B m' s' n
 eb:m'.eb=m.eb
 st:aG w w' B (allF m s.ses) (allF m' s'.ses)
section
variable {w0 w w':World} {B n:Nat} {m:EMem} {s s':ESt}
theorem RunZ.on (h:RunZ w0 w B m s n) (hb:Below w.heap.size w w'):RunZ w0 w' B m s n:={ h with ek:=h.ek.on hb,bel:=aB h.bel (Nat.le_refl _) hb }
theorem RunZ.act (h:RunZ w0 w B m s n) (ha:ActE w w' B m s s') (hf:Fit s' n):∃ m',RunY w0 w w' B m s s' n m':=by
 obtain⟨m',k1,k2,_,k4⟩:=ha
 exact⟨m',⟨k1,hf,h.bel.trans (k4.bel.mono h.lo),h.lo⟩,k2,k4⟩
theorem cJ (k:Nat) (w0 w:World) (h1:54<=k) (h2:k<=200) (hb:Below w0.heap.size w0 w):Calls Tryz.prog 5 #[.int .i64 (k:Int)] w fun e w'=>∃ db eb,e=.returned (.tuple #[.pointer (some ⟨db,0,none⟩),.pointer (some ⟨eb,0,none⟩),.bool true])/\∃ m s,RunZ w0 w' w.heap.size m s k/\m.eb=eb/\zDq s k:=by
 refine(vC k w h1 h2).mono ?_
 rintro e w' ⟨db,eb,rfl,hst⟩
 obtain⟨m,s,hek,he,hd,fr⟩:=hst.ex
 exact⟨db,eb,rfl,m,s,⟨hek,⟨fr.ok,hek.s4,fr.left,fr.len⟩,aB hb (Nat.le_refl _) hst.bel,hb.size⟩,he,fr⟩
theorem dA (h:RunZ w0 w B m s n) {i:Nat} (hi:i<4) (hv:s.ses i=none):
  Calls Tryz.prog 6 #[.pointer (some ⟨m.eb,0,none⟩),.int .i64 (i:Int)] w fun e w'=>e=.returned .nilIface/\∃ m',RunY w0 w w' B m s (dX s i) n m':=
 (wB w h.ek hi hv).mono fun _ _ ⟨he,ha⟩=>⟨he,h.act ha (h.fit.begin hi)⟩
theorem cK (h:RunZ w0 w B m s n) {i:Nat} (hi:i<4) (hc:s.c<=150):
  Calls Tryz.prog 10 #[.pointer (some ⟨m.eb,0,none⟩),.int .i64 (i:Int)] w fun e w'=>e=.returned (.tuple #[.int .i64 ((comE s i).1.1:Int),errV (comE s i).1.2])/\∃ m',RunY w0 w w' B m s (comE s i).2 n m':=
 (vX w h.ek h.fit.ok hi hc).mono fun _ _ ⟨he,ha⟩=>⟨he,h.act ha (h.fit.com hi).1⟩
theorem aZ (h:RunZ w0 w B m s n) {i:Nat} {v:VwL} (hv:s.ses i=some v) (hi:i<4) {chs:List Chg} {rds:Rws} (ha:ActV w w' B (m.W i).1 (inPV m i) v.P (snE B m s v.n) chs rds) (h2:Ok2 v.P chs rds):∃ m',RunY w0 w w' B m s (jU s i v chs rds) n m':=by
 obtain⟨S',hq,hst⟩:=ha
 obtain⟨y,hy,k1,k2⟩:=h.ek.view hv hi hq hst
 exact⟨_,⟨k1,⟨h.fit.ok.view hv h2.ov h2.oq,h.fit.s4.set hi _,h.fit.left,h.fit.len⟩,h.bel.trans (k2.bel.mono h.lo),h.lo⟩,rfl,k2⟩
theorem RunZ.ok2 (h:RunZ w0 w B m s n) {i:Nat} {v:VwL} (hv:s.ses i=some v):Ok2 v.P v.chs v.rds:=⟨(h.fit.ok.ses i v hv).ov,(h.fit.ok.ses i v hv).oq⟩
theorem dS (key:ByteArray) (h:RunZ w0 w B m s n) {i:Nat} {v:VwL} (hv:s.ses i=some v) (hi:i<4) (hc:s.c<=190) (hk:key.size<=maxLen):
  Calls Tryz.prog 8 #[.pointer (some ⟨(m.W i).1,0,none⟩),.string key] w fun e w'=>e=.returned (.tuple #[.string (getP v.chs v.rds v.P key).1,.bool (getP v.chs v.rds v.P key).2.1,errV (getP v.chs v.rds v.P key).2.2])/\∃ m',RunY w0 w w' B m s (jU s i v v.chs (getL v.chs v.rds key)) n m':=
 (zMZ key w (h.ek.pv h.fit.ok hv hc) hk).mono fun _ _ ⟨he,ha⟩=>⟨he,aZ h hv hi ha ((h.ok2 hv).get _)⟩
theorem dV (key val:ByteArray) (h:RunZ w0 w B m s n) {i:Nat} {v:VwL} (hv:s.ses i=some v) (hi:i<4) (hc:s.c<=190) (hk:key.size<=maxLen):
  Calls Tryz.prog 9 #[.pointer (some ⟨(m.W i).1,0,none⟩),.string key,.string val] w fun e w'=>e=.returned (errV (cH v.chs ⟨key,val,false⟩))/\∃ m',RunY w0 w w' B m s (jU s i v (bG v.chs ⟨key,val,false⟩) v.rds) n m':=
 (zIB key val w (h.ek.pv h.fit.ok hv hc) hk lD).mono fun _ _ ⟨he,ha⟩=>⟨he,aZ h hv hi ha ((h.ok2 hv).alter _)⟩
theorem dL (h:RunZ w0 w B m s n):Calls Tryz.prog 13 #[.pointer (some ⟨m.eb,0,none⟩)] w fun e w'=>∃ ra rc,e=.returned (.slice ra (aS s.x.rows).length rc)/\bY w' ra (aS s.x.rows)/\Below w.heap.size w w':=by
 refine(zBq w h.ek (by have:=h.fit.ok.few;omega)).mono ?_
 rintro e w' ⟨v,rfl,ho,hb⟩
 obtain⟨ra,rc,rfl,hh⟩:=lV ho
 exact⟨ra,rc,rfl,hh,hb⟩
end
end
section
open Go.RowKit Go.Joins Go.Shelf
attribute [local go_sem ↓] Go.wp_at_zero Go.wp_at_succ
def eI (w:World) (ao:Option Addr) (l:List Int):Prop:=l=[]∨∃ b off,ao=some ⟨b,off,none⟩/\∀ i (hi:i<l.length),w.cell? ⟨b,off+i,none⟩=some (.int .i64 l[i])
structure Mks (W:World) (lo:Nat) (m:EMem) (s:ESt) (mb:Nat) (f:Nat->ByteArray):Prop where
 c:∀ i,i<4->W.cell? ⟨mb,i,none⟩=some (.string (f i))
 fz:∀ j,W.frozen? ⟨mb,j,none⟩=false
 na:¬allF m s.ses mb
 lt:mb<W.heap.size
 lo:lo<=mb
section
variable {w0 W W':World} {B lo mb n:Nat} {m m':EMem} {s s':ESt} {f:Nat->ByteArray}
theorem Mks.step (h:Mks W lo m s mb f) (hs:aG W W' B (allF m s.ses) (allF m' s'.ses)):Mks W' lo m' s' mb f:=by
 obtain⟨e,n⟩:=hs.far mb h.lt h.na
 exact⟨fun i hi=>(World.cell?_of_block (a:=⟨mb,i,none⟩) e).trans (h.c i hi),fun j=>(World.frozen?_of_block (w:=W) e).trans (h.fz j),n,Nat.lt_of_lt_of_le h.lt hs.bel.size,h.lo⟩
theorem Mks.set (h:Mks W lo m s mb f) {i:Nat} (hi:i<4) (v:ByteArray):Mks (W.setCell ⟨mb,i,none⟩ (.string v)) lo m s mb (setM f i v):=by
 refine⟨fun j hj=>?_,fun j=>by rw[World.frozen?_setCell];exact h.fz j,h.na,by simpa using h.lt,h.lo⟩
 by_cases e:j=i
 ·subst e
  rw[show setM f j v j=v from if_pos rfl]
  exact World.cell?_setCell_same _ _ _ (h.c j hj)
 ·rw[show setM f i v j=f j from if_neg e]
  exact(World.cell?_setCell_other _ _ _ _ (by simp<;>omega)).trans (h.c j hj)
theorem RunZ.mark (h:RunZ w0 W B m s n) (hm:Mks W w0.heap.size m s mb f) (i:Nat) (v:Value):RunZ w0 (W.setCell ⟨mb,i,none⟩ v) B m s n:=
 { h with ek:=h.ek.kept (by simp) fun k hk=>Below.heap_setCell _ _ _ _ fun e=>hm.na (by have e':k=mb:=e;rw[<-e'];exact hk),bel:=h.bel.setCell (p:=⟨mb,i,none⟩) hm.lo v }
end
theorem and3 (t:Int):bits .and .i64 t 3=((t % 4).toNat:Int):=by rw[zJT];omega
theorem topCount_walk (l:List Int) (ao:Option Addr) (cap:Nat) (w:World) (hd:eI w ao l):
  Calls Tryz.prog 3 #[.slice ao l.length cap] w fun e w'=>e=.returned (.bool true)/\Below w.heap.size w w':=by
 have nn:=eG
 have ne:=pX
 have n1:=bM 52
 have n2:=rD 52
 have HD:=hide hd
 clear hd
 go_enter Tryz.func3,Tryz.ntmps3
 go_wp2_with fail
 refine(zHJ w).mono ?_
 rintro e w1 ⟨rfl,hb1⟩
 have HB1:=hide hb1
 clear hb1
 by_cases h60:(60:Int)<(l.length:Int)
 ·go_wp2
  go_ret
  exact⟨rfl,HB1.out⟩
 go_wp2_with fail
 refine(cJ 120 w w1 (by decide) (by decide) HB1.out).mono ?_
 rintro e w3 ⟨db,eb,rfl,m,s,hrun,rfl,fr⟩
 have HM0:Hid (RunZ w (w3.alloc (Obj.cells #[.string ⟨#[]⟩,Value.string ⟨#[]⟩,Value.string ⟨#[]⟩,Value.string ⟨#[]⟩] 28)) w1.heap.size m s 120/\Mks (w3.alloc (Obj.cells #[.string ⟨#[]⟩,Value.string ⟨#[]⟩,Value.string ⟨#[]⟩,Value.string ⟨#[]⟩] 28)) w.heap.size m s w3.heap.size fun _=>⟨#[]⟩):=by
  refine⟨hrun.on (below_alloc1 _ _),fun i hi=>?_,fun j=>aQ _ _ _ j,fun ⟨i,hi⟩=>?_,by simp,hrun.bel.size⟩
  ·rw[aC]
   have e:i=0∨i=1∨i=2∨i=3:=by omega
   rcases e with rfl|rfl|rfl|rfl<;>rfl
  ·have:=hrun.ek.lt hi
   omega
 have HCT:Hid (CT s (fun _=>⟨#[]⟩) 0 0):=⟨hrun.fit,.inl ⟨rfl,fr.rows⟩,by rw[fr.c];exact Nat.le_refl _,fun i v hv=>by rw[fr.ses i] at hv;cases hv⟩
 generalize w1.heap.size=B at *
 clear hrun fr HB1
 go_wp2_with fail
 go_loopw [7,8] (fun mv iv wr=>∃ (k many:Nat) (m':EMem) (s':ESt) (f:Nat->ByteArray),k<=l.length/\iv=.int .i64 (k:Int)/\mv=.int .i64 (many:Int)/\many<=k/\RunZ w wr B m' s' 120/\m'.eb=m.eb/\Mks wr w.heap.size m' s' w3.heap.size f/\CT s' f many k) (fun _ iv _=>l.length-(intOf iv).toNat)
 case atStart=>
  obtain⟨h1,h2⟩:=HM0.out
  exact⟨0,0,m,s,_,Nat.zero_le _,rfl,rfl,Nat.le_refl _,h1,rfl,h2,HCT.out⟩
 case round=>
  obtain⟨k,many,m',s',f,hk,rfl,rfl,hmk,hR,heb,hM,hC⟩:=hrel
  clear HM0 HCT
  generalize w3.heap.size=mb at *
  have HR:=hide hR
  have HM:=hide hM
  have HC:=hide hC
  clear hR hM hC
  by_cases hlt:k<l.length
  ·have hlt':(k:Int)<(l.length:Int):=by omega
   have hk0:(0:Int)<=(k:Int):=by omega
   rcases HD.out with e|⟨b,off,e,hc⟩
   ·rw[e] at hlt;simp at hlt
   subst e
   have x0:=aA HR.out.bel (hc k hlt)
   clear hc
   generalize l[k]=t at *
   have hse:=and3 t
   have hslt:(t % 4).toNat<4:=by omega
   generalize (t % 4).toNat=si at *
   have hck:=HC.out.c
   cases hv:s'.ses si with
   | none=>
    have HBG:=hide (dA HR.out hslt hv)
    rw[heb] at HBG
    have HGO:Hid (∀ w5 m5,RunY w wr w5 B m' s' (dX s' si) 120 m5->m5.eb=m.eb/\Mks w5 w.heap.size m5 (dX s' si) mb f/\∃ wb,Calls Tryz.prog 7 #[.pointer (some ⟨m.eb,0,none⟩),.int .i64 (si:Int)] w5 (fun e w'=>e=.returned (.tuple #[.pointer (some ⟨wb,0,none⟩),.nilIface])/\w'=w5)/\Calls Tryz.prog 8 #[.pointer (some ⟨wb,0,none⟩),.string ctK] w5 fun e w'=>e=.returned (.tuple #[.string (valR (aS s'.x.rows) ctK).1,.bool (valR (aS s'.x.rows) ctK).2,.nilIface])/\∃ m6,RunY w w5 w' B m5 (dX s' si) (jU (dX s' si) si ⟨aS s'.x.rows,s'.now,[],[]⟩ [] (getL [] [] ctK)) 120 m6):=fun w5 m5 h5=>by
     have he:=h5.eb.trans heb
     have hb:=zGX s' si
     have q1:=mT w5 h5.run.ek hslt hb
     have q2:=dS ctK h5.run hb hslt (by show s'.c<=190;omega) (by decide)
     rw[he] at q1
     dsimp only at q2
     rw[eM,aR] at q2
     exact⟨he,HM.out.step h5.st,_,q1,q2⟩
    have HCN:=hide (HC.out.begun hslt hv)
    generalize jU (dX s' si) si ⟨aS s'.x.rows,s'.now,[],[]⟩ [] (getL [] [] ctK)=s6 at *
    generalize dX s' si=s5 at *
    generalize (valR (aS s'.x.rows) ctK).2=is at *
    generalize (valR (aS s'.x.rows) ctK).1=val at *
    clear hv
    go_wp2_with fail
    refine HBG.out.mono ?_
    rintro e w5 ⟨rfl,m5,hA5⟩
    obtain⟨he5,hM5,wb,hde,hge⟩:=HGO.out w5 m5 hA5
    have HDE:=hide hde
    have HGE:=hide hge
    have HM5:=hide hM5
    clear hde hge hM5 hA5 HGO HBG
    go_wp2_with fail
    refine HDE.out.mono ?_
    rintro e w6 ⟨rfl,hw6⟩
    rw[hw6]
    clear hw6 HDE
    go_wp2_with fail
    refine HGE.out.mono ?_
    rintro e w6 ⟨rfl,m6,hA6⟩
    have hM6:=HM5.out.step hA6.st
    have c6:=hM6.c si hslt
    have f6:=hM6.fz si
    have HM6:=hide (hM6.set hslt val)
    have HR6:=hide (hA6.run.mark hM6 si (.string val))
    have he6:=hA6.eb.trans he5
    clear hA6 hM6 HGE HM5
    go_wp2_with fail
    exact⟨⟨k+1,many,m6,s6,_,by omega,by go_num,rfl,by omega,HR6.out,he6,HM6.out,HCN.out⟩,by simp[intOf];omega⟩
   | some v=>
    have HE7:Hid (errV 7=.iface 52 (.int .i64 7)):=rfl
    have HBG:=hide (zDY wr HR.out.ek hslt hv)
    rw[heb,HE7.out] at HBG
    have HDE:=hide (mT wr HR.out.ek hslt hv)
    rw[heb] at HDE
    have hw:=HC.out.ses si v hv
    have hpu:=dV ctK (xSt (f si)) HR.out hv hslt (by omega) (by decide)
    rw[hw.chs,eL] at hpu
    have c6:=HM.out.c si hslt
    have hbig:=hw.big
    by_cases hm:(f si).size<40
    ·have hca:aD ⟨ctK,xSt (f si),false⟩=0:=by rw[aN,if_pos hm]
     rw[if_pos hm,aR,(aT hca).2] at hpu
     have HPU:=hide hpu
     have hcom:=HC.out.com hslt hv hm
     have HCM:Hid (∀ w5 m5,RunY w wr w5 B m' s' (jU s' si v [⟨ctK,xSt (f si),false⟩] v.rds) 120 m5->m5.eb=m.eb/\Mks w5 w.heap.size m5 (jU s' si v [⟨ctK,xSt (f si),false⟩] v.rds) mb f/\Calls Tryz.prog 10 #[.pointer (some ⟨m.eb,0,none⟩),.int .i64 (si:Int)] w5 fun e w'=>e=.returned (.tuple #[.int .i64 ((comE (jU s' si v [⟨ctK,xSt (f si),false⟩] v.rds) si).1.1:Int),errV (comE (jU s' si v [⟨ctK,xSt (f si),false⟩] v.rds) si).1.2])/\∃ m6,RunY w w5 w' B m5 (jU s' si v [⟨ctK,xSt (f si),false⟩] v.rds) (comE (jU s' si v [⟨ctK,xSt (f si),false⟩] v.rds) si).2 120 m6):=fun w5 m5 h5=>by
      have he:=h5.eb.trans heb
      have q1:=cK h5.run hslt (by show s'.c<=150;omega)
      rw[he] at q1
      exact⟨he,HM.out.step h5.st,q1⟩
     generalize jU s' si v [⟨ctK,xSt (f si),false⟩] v.rds=s5 at *
     generalize comE s5 si=C at *
     generalize (m'.W si).1=wb at *
     have HXS:Hid (xSt (f si)=f si++⟨#[120]⟩):=rfl
     rw[HXS.out] at HPU
     generalize f si=mk at *
     clear hpu hv hw hca HXS
     go_wp2_with fail
     refine HBG.out.mono ?_
     rintro e w4 ⟨rfl,hw4⟩
     rw[hw4]
     clear hw4 HBG
     go_wp2_with fail
     refine HDE.out.mono ?_
     rintro e w4 ⟨rfl,hw4⟩
     rw[hw4]
     clear hw4 HDE
     go_wp2_with fail
     refine HPU.out.mono ?_
     rintro e w5 ⟨rfl,m5,hA5⟩
     obtain⟨he5,hM5,hco⟩:=HCM.out w5 m5 hA5
     have HM5:=hide hM5
     clear hA5 hM5 HPU HCM
     rcases hcom with⟨e0,hct⟩|⟨e9,hct⟩
     ·rw[e0,aR] at hco
      have HCO:=hide hco
      have HCT:=hide hct
      clear hco hct
      go_wp2_with fail
      refine HCO.out.mono ?_
      rintro e w6 ⟨rfl,m6,hA6⟩
      have HM6:=hide (HM5.out.step hA6.st)
      have HR6:=hide hA6.run
      have he6:=hA6.eb.trans he5
      clear hA6 HCO HM5
      go_wp2_with fail
      exact⟨⟨k+1,many+1,m6,C.2,_,by omega,by go_num,by go_num,by omega,HR6.out,he6,HM6.out,HCT.out⟩,by simp[intOf];omega⟩
     ·have HE9:Hid (errV 9=.iface 52 (.int .i64 9)):=rfl
      rw[e9,HE9.out] at hco
      have HN9:=fun W=>hide (zGI 9 W)
      rw[HE9.out] at HN9
      have HCO:=hide hco
      have HCT:=hide hct
      clear hco hct
      go_wp2_with fail
      refine HCO.out.mono ?_
      rintro e w6 ⟨rfl,m6,hA6⟩
      have HM6:=hide (HM5.out.step hA6.st)
      have HR6:=hide hA6.run
      have he6:=hA6.eb.trans he5
      clear hA6 HCO HM5
      go_wp2_with fail
      refine(HN9 _).out.mono ?_
      rintro e w7 ⟨rfl,hw7⟩
      rw[hw7]
      clear hw7
      go_wp2_with fail
      exact⟨⟨k+1,many,m6,C.2,_,by omega,by go_num,rfl,by omega,HR6.out,he6,HM6.out,HCT.out⟩,by simp[intOf];omega⟩
    ·have HE1:Hid (errV 1=.iface 52 (.int .i64 1)):=rfl
     rw[if_neg hm,HE1.out] at hpu
     have HPU:=hide hpu
     have h40:((f si).size:Int)=40:=by omega
     have HXS:Hid (xSt (f si)=f si++⟨#[120]⟩):=rfl
     rw[HXS.out] at HPU
     generalize (m'.W si).1=wb at *
     generalize bG [] ⟨ctK,xSt (f si),false⟩=al at *
     have HMM:=hide HM.out
     clear hpu hv hw HXS
     go_wp2_with fail
     refine HBG.out.mono ?_
     rintro e w4 ⟨rfl,hw4⟩
     rw[hw4]
     clear hw4 HBG
     go_wp2_with fail
     refine HDE.out.mono ?_
     rintro e w4 ⟨rfl,hw4⟩
     rw[hw4]
     clear hw4 HDE
     go_wp2_with fail
     refine HPU.out.mono ?_
     rintro e w5 ⟨rfl,m5,hA5⟩
     have c5:=(HMM.out.step hA5.st).c si hslt
     have HB5:=hide hA5.run.bel
     clear hA5 HPU
     generalize f si=mk at *
     go_wp2
     go_ret
     exact⟨rfl,HB5.out⟩
  ·have ek:k=l.length:=by omega
   subst ek
   have hlt':¬(l.length:Int)<(l.length:Int):=by omega
   have HRW:=hide (dL HR.out)
   rw[heb] at HRW
   obtain⟨hv1,hv2⟩:=HC.out.row.val
   have hrl:=HC.out.row.len
   have hv1':(((valR (aS s'.x.rows) ctK).1.size:Nat):Int)=(many:Int):=by rw[hv1]
   have hv2':(valR (aS s'.x.rows) ctK).2=decide ((0:Int)<(many:Int)):=by
    rw[hv2]
    by_cases e:0<many
    ·rw[decide_eq_true e,decide_eq_true (by omega)]
    ·rw[decide_eq_false e,decide_eq_false (by omega)]
   have HRB:=hide HR.out.bel
   clear hv1 hv2 HC HM
   go_wp2_with fail
   refine HRW.out.mono ?_
   rintro e w7 ⟨ra,rc,rfl,hh7,hb7⟩
   have HVA:=hide (dH (aS s'.x.rows) ra rc ctK w7 hh7 (by unfold aS;rw[List.length_map];omega))
   have HB7:=hide (aB HRB.out (Nat.le_refl _) hb7)
   clear hh7 hb7 HRW
   generalize valR (aS s'.x.rows) ctK=vv at *
   obtain⟨val,is⟩:=vv
   dsimp only at hv1' hv2'
   go_wp2_with fail
   refine HVA.out.mono ?_
   rintro e w8 ⟨rfl,hb8⟩
   have HB8:=hide (aB HB7.out (Nat.le_refl _) hb8)
   clear hb8 HVA
   subst hv2'
   go_wp2
   go_ret
   exact⟨rfl,HB8.out⟩
end
section
open Go.ChangeShapes Go.WideShapes Go.ChangeAt Go.RowKit
theorem Tryz.own:ownKnob Tryz.prog.godebug=none:=by kernel_rfl
theorem Tryz.laidOut:laidOutB Tryz.prog=true:=by kernel_rfl
theorem yO {H:Type} {enc:TypeId×Value->H} {P:Program} (hl:laidOutB P=true) {W W':World} (hb:Below W.heap.size W W'):
  ∀ (ts:List TypeId) (vs:List Value) (ds:List (DataW H)) (ps:List MemPlace),(∀ t∈ts,P.readableRec t=true/\t<P.types.size)->
   DataW.TrodAll enc P W 0 (fun _=>true) true ts vs ds ps->(∀ x∈ps,x.block<W.heap.size)->
   DataW.TrodAll enc P W' 0 (fun b=>decide (b<W.heap.size)) true ts vs ds ps
 | [],vs,ds,ps,_,h,_=>by
  obtain⟨rfl,rfl,rfl⟩:=trodAll_nil h
  exact trodAll_mk0
 | t::ts,vs,ds,ps,hr,h,hlt=>by
  obtain⟨v,vs',d,ds',p,q,rfl,rfl,rfl,h0,r0⟩:=trodAll_cons h
  exact trodAll_cons_mk (Below.trod hl (hr t (by simp)).1 (hr t (by simp)).2 h0 hb (fun x hx=>hlt x (by simp[hx])))
   (yO hl hb ts vs' ds' q (fun t' ht=>hr t' (by simp[ht])) r0 (fun x hx=>hlt x (by simp[hx])))
theorem zKX {H:Type} {enc:TypeId×Value->H} {P:Program} {f:Func} {s:ChangeSpec} {tb:TypeId} {W W':World} {args:Array Value} {ds gs:List (DataW H)} {before:List MemPlace}
  (hl:laidOutB P=true) (hrt:f.resultTypes=#[tb]) (htb:P.underlying tb=some .bool) (hv:s.vars=[])
  (hrd:∀ t∈f.params.toList,P.readableRec t=true/\t<P.types.size)
  (hW:DataW.Whole enc P f.params.toList s.vars false W args.toList ds gs before) (hs:s.fn H (ds++gs)={ results:=[.lit (.bool true)],args:=ds }) (hb:Below W.heap.size W W'):
  s.post enc P f false true false false W args (.bool true) W':=by
 have hlt:∀ x∈before,x.block<W.heap.size:=fun x hx=>hW.lt x hx
 have hW':=hW
 obtain⟨p,q,hA,hV,rfl,_,_⟩:=hW
 rw[hv] at hV
 obtain⟨rfl,rfl⟩:=trodVars_none hV
 refine⟨ds,[],p++[],[],p,[],hW',?_,?_,?_,hb.frame _,fun h=>by cases h⟩
 ·rw[hs,hrt];exact trodAll_mk1 (shut_bool htb true)
 ·rw[hs];exact yO hl hb _ _ _ _ hrd hA (fun x hx=>hlt x (by simp[hx]))
 ·rw[hs,hv];rfl
end
end Go.Proofs.YtnboipekkahmnaaGreat
