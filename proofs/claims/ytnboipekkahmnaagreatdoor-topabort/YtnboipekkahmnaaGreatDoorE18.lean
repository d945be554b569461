import Derived.Test.YtnboipekkahmnaaGreatDoorE17
set_option maxHeartbeats 8000000
set_option maxRecDepth 100000
namespace Go.Proofs.YtnboipekkahmnaaGreatDoor
section
open Go.RowKit Go.Joins
attribute [local go_sem ↓] Go.wp_at_zero Go.wp_at_succ
theorem zGU {l rows:List Chg} {k:Nat} (hk:k<l.length):(l.take (k+1)).foldl insL rows=insL ((l.take k).foldl insL rows) l[k]:=by
 rw[List.take_succ_eq_append_getElem hk,List.foldl_append];rfl
theorem lG (rows l:List Chg) (v:Value) (ao:Option Addr) (cap B:Nat) (w:World) (ho:bO w B v rows) (hd:bW w ao l) (hr:rows.length<=100) (hl:l.length<=100):
  Calls Tryz.prog 141 #[v,.slice ao l.length cap] w fun e w'=>∃ v',e=.returned v'/\bO w' w.heap.size v' (aK rows l)/\Below w.heap.size w w':=by
 have HCL:=hide (uO rows v B w ho (by omega))
 have HD:=hide hd
 clear ho hd
 go_enter Tryz.func141,Tryz.ntmps141
 go_wp2_with (go_at_call 121;refine HCL.out.mono ?_;rintro e w1 ⟨v1,rfl,ho1,hb1⟩;have HO1:=hide ho1;have HB1:=hide hb1;clear ho1 hb1)
 go_loopw [0,11] (fun v iv wr=>∃ k:Nat,k<=l.length/\iv=.int .i64 (k:Int)/\bO wr w.heap.size v ((l.take k).foldl insL rows)/\Below w.heap.size w wr) (fun _ iv _=>l.length-(intOf iv).toNat)
 case atStart=>exact⟨0,Nat.zero_le _,rfl,HO1.out,HB1.out⟩
 case round=>
  obtain⟨k,hk,rfl,ho,hb⟩:=hrel
  clear HO1 HB1
  have hfl:=tW (l.take k) rows
  rw[List.length_take] at hfl
  by_cases hlt:k<l.length
  ·have hlt':(k:Int)<(l.length:Int):=by omega
   have hk0:(0:Int)<=(k:Int):=by omega
   rcases HD.out with e|⟨b,off,e,hch⟩
   ·rw[e] at hlt;simp at hlt
   subst e
   obtain⟨x0,x1,x2⟩:=hch k hlt
   have hft:=zGU (rows:=rows) hlt
   clear hch
   generalize l[k]=x at *
   generalize (l.take k).foldl insL rows=m at *
   replace x0:=aA hb x0
   replace x1:=aA hb x1
   replace x2:=aA hb x2
   have HO:=hide ho
   have HBR:=hide hb
   have HFT:=hide hft
   have HBX:=hide (below_alloc1 wr (Obj.cells #[.string x.key,.string x.val,.bool x.gone] 133))
   have HPU:Hid (∀ W,Below wr.heap.size wr W->Calls Tryz.prog 171 #[u0,.agg #[.string x.key,.string x.val,.bool x.gone]] W fun e w'=>∃ v',e=.returned v'/\bO w' w.heap.size v' (insL m x)/\Below W.heap.size W w'):=fun W hW=>by
    refine(zAB m x u0 w.heap.size W (bQ HO.out hW) (by omega)).mono ?_
    rintro e w' ⟨g,cap',rfl,h1,h2⟩
    exact⟨_,rfl,dJ h1 (Nat.le_trans HBR.out.size hW.size),h2⟩
   clear ho hb hft
   go_wp2_with (go_at_call 171;refine(HPU.out _ HBX.out).mono ?_;rintro e w7 ⟨v7,rfl,ho7,hb7⟩;have HO7:=hide ho7;have HB7:=hide (aB HBR.out (Nat.le_refl _) (aB HBX.out (Nat.le_refl _) hb7));clear ho7 hb7)
   exact⟨⟨k+1,by omega,by go_num,by rw[HFT.out];exact HO7.out,HB7.out⟩,by simp[intOf];omega⟩
  ·have ek:k=l.length:=by omega
   subst ek
   have hlt':¬(l.length:Int)<(l.length:Int):=by omega
   rw[List.take_length] at ho
   have HO:=hide ho
   have HBR:=hide hb
   have HDE:=hide (zJR u0 (l.foldl insL rows) w.heap.size wr ⟨HO.out,fun _ _=>trivial⟩ (by have:=tW l rows;omega) HBR.out.size)
   clear ho hb
   go_wp2_with (go_at_call 209;refine HDE.out.mono ?_;rintro e w7 ⟨a7,n7,c7,rfl,hD7⟩;have HD7:=hide hD7;clear hD7)
   go_ret
   exact⟨_,rfl,HD7.out.own.1,HBR.out.trans HD7.out.bel⟩
section
variable {w w':World} {N B:Nat} {S S':Nat->Prop} {v:Value} {l:List Dd}
theorem zGr {d:Dd} (h:zGV w N d):bW w d.ao d.chs:=by
 by_cases h0:d.chs=[]
 ·exact .inl h0
 ·obtain⟨g,cap,hv,hc⟩:=zDr h (List.length_pos_iff.2 h0)
  have e:d.ao=some ⟨g,0,none⟩:=by unfold ddV at hv;simp only[Value.slice.injEq] at hv;exact hv.1
  exact .inr ⟨g,0,e,hc.2⟩
end
section
variable {B db:Nat} {S:Nat->Prop} {s:DSt}
theorem iK (w:World) (hk:DK w B db S s) (hn:50<=s.now.length):Calls Tryz.prog 192 #[.pointer (some ⟨db,0,none⟩)] w fun e w'=>e=.returned (.int .i64 ((s.now.length-50:Nat):Int))/\w'=w:=by
 have HS:=hide (mU w hk)
 have hm:=hk.many
 clear hk
 generalize s.now.length=n at *
 have h0:(50:Int)<=(n:Int):=by omega
 have h1:(n:Int)<=200:=by omega
 go_enter Tryz.func192,Tryz.ntmps192
 go_wp2_with (go_at_call 123;refine HS.out.mono ?_;rintro e w1 ⟨rfl,rfl⟩)
 go_ret
 exact⟨iJ (by omega),rfl⟩
theorem mC.le {w0 w w':World} {lb fr many first u:Nat} {dv:Value} {ds:List (List Chg)} (h:mC w0 w' lb db fr many first dv ds u) (hb:Below w.heap.size w w0):mC w w' lb db fr many first dv ds u:=by
 obtain⟨l,h1,h2,h3⟩:=h.de
 exact⟨⟨l,⟨ownsRow_le h1.1 hb.size,fun d hd=>dJ (h1.2.1 d hd) hb.size,h1.2.2⟩,h2,h3⟩,h.dn,h.hd,Nat.le_trans hb.size h.new,aB hb (Nat.le_refl _) h.bel⟩
theorem tM (area first size:Nat) (w:World) (hk:DK w B db S s) (hd:s.down=false) (h1:51<=s.now.length) (h2:1<=first) (hf:first<=2):
  Calls Tryz.prog 138 #[.pointer (some ⟨db,0,none⟩),.agg #[.int .i64 (area:Int),.int .i64 (first:Int),.int .i64 (size:Int)]] w fun e w'=>∃ lb dv,e=.returned (.tuple #[.pointer (some ⟨lb,0,none⟩),dv,.nilIface])/\mC w w' lb db 50 (s.now.length-50) first dv (mX (eB s 50 (s.now.length-50)) first) (mH (eB s 50 (s.now.length-50)) first):=by
 have hB0:=below_alloc1 w (Obj.cells #[.int .i64 (area:Int),.int .i64 (first:Int),.int .i64 (size:Int)] 202)
 have r1:(w.alloc (Obj.cells #[.int .i64 (area:Int),.int .i64 (first:Int),.int .i64 (size:Int)] 202)).cell? ⟨w.heap.size,1,none⟩=some (.int .i64 (first:Int)):=aC _ _ _ 1
 have HLS:Hid (∀ W,Below w.heap.size w W->Calls Tryz.prog 192 #[.pointer (some ⟨db,0,none⟩)] W fun e w'=>e=.returned (.int .i64 ((s.now.length-50:Nat):Int))/\w'=W):=fun W hb=>iK W (hk.on hb) (by omega)
 have HOP:Hid (∀ W,Below w.heap.size w W->Calls Tryz.prog 201 #[.pointer (some ⟨db,0,none⟩),.int .i64 50,.int .i64 ((s.now.length-50:Nat):Int),.int .i64 (first:Int)] W fun e w'=>∃ lb dv,e=.returned (.tuple #[.pointer (some ⟨lb,0,none⟩),dv,.nilIface])/\mC w w' lb db 50 (s.now.length-50) first dv (mX (eB s 50 (s.now.length-50)) first) (mH (eB s 50 (s.now.length-50)) first)):=fun W hb=>by
  refine(zHf 50 (s.now.length-50) first W (hk.on hb) hd (by omega) h2 (by omega) (by omega)).mono ?_
  rintro e w' ⟨lb,dv,he,ho⟩
  exact⟨lb,dv,he,ho.le hb⟩
 clear hk hd
 generalize mX (eB s 50 (s.now.length-50)) first=ds at *
 generalize mH (eB s 50 (s.now.length-50)) first=u at *
 generalize s.now.length-50=m at *
 have HB0:=hide hB0
 clear hB0
 go_enter Tryz.func138,Tryz.ntmps138
 go_wp2_with fail
 go_region_with (first
  | (go_at_call 192;refine(HLS.out _ (by exact aB HB0.out (Nat.le_refl _) (below_draws _ _ _))).mono ?_;rintro e w7 ⟨rfl,rfl⟩)
  | (go_at_call 201;refine(HOP.out _ (by exact aB HB0.out (Nat.le_refl _) (below_draws _ _ _))).mono ?_;rintro e w8 ⟨lb,dv,rfl,ho8⟩;have HO8:=hide ho8;clear ho8;dsimp only))
 all_goals
  go_wp2
  go_ret3
  exact⟨lb,dv,rfl,HO8.out⟩
end
section
variable {B db:Nat} {S:Nat->Prop} {s:DSt}
structure SNew (w w':World) (B sb db:Nat) (S:Nat->Prop) (x:SSt):Prop where
 ex:∃ lb v,SK w' B sb lb db S v x/\w.heap.size<=lb/\∀ k,v.ownBlock=some k->w.heap.size<=k
 new:w.heap.size<=sb
 bel:Below w.heap.size w w'
theorem zGH {ds:List (List Chg)} {rows:List Chg} {k:Nat} (hk:k<ds.length):(ds.take (k+1)).foldl aK rows=aK ((ds.take k).foldl aK rows) ds[k]:=by
 rw[List.take_succ_eq_append_getElem hk,List.foldl_append];rfl
theorem zFO {area first u:Nat} {rows:List Chg} (w:World) (hk:DK w B db S s) (hr:cQ s area first u rows):
  Calls Tryz.prog 74 #[.pointer (some ⟨db,0,none⟩)] w fun e w'=>∃ sb,e=.returned (.tuple #[.pointer (some ⟨sb,0,none⟩),.nilIface])/\SNew w w' B sb db S ⟨s,area,first,u,rows⟩:=by
 obtain⟨rows0,ds,hod,hro⟩:=hr.ex
 have hps:=jA hod.fine hod.few
 have ha1:=hod.a1
 have hf1:=hod.f1
 have h54:=hod.n54
 have hB:=hk.lo
 have hus:=cQ.us hr
 have hsc:dB first 0 (eB s 50 (s.now.length-50)) ([],[]) 0=(ds,u):=hod.has
 have hde:mX (eB s 50 (s.now.length-50)) first=ds/\mH (eB s 50 (s.now.length-50)) first=u:=by unfold mX mH;rw[hsc];exact⟨rfl,rfl⟩
 have HRR:=hide (zBX area first (aO rows0).size w hk hr.down ha1 hf1.1 hf1.2 hps h54 hod.root)
 have HRO:Hid (∀ W,Below w.heap.size w W->Calls Tryz.prog 140 #[.pointer (some ⟨db,0,none⟩),.agg #[.int .i64 (area:Int),.int .i64 (first:Int),.int .i64 ((aO rows0).size:Int)]] W fun e w'=>∃ v,e=.returned (.tuple #[v,.nilIface])/\bO w' W.heap.size v rows0/\Below W.heap.size W w'):=fun W hb=>zCo area first rows0 W (hk.on hb) hr.down ha1 (by omega) hod.fine hod.few hod.text
 have HOL:Hid (∀ W,Below w.heap.size w W->Calls Tryz.prog 138 #[.pointer (some ⟨db,0,none⟩),.agg #[.int .i64 (area:Int),.int .i64 (first:Int),.int .i64 ((aO rows0).size:Int)]] W fun e w'=>∃ lb dv,e=.returned (.tuple #[.pointer (some ⟨lb,0,none⟩),dv,.nilIface])/\mC W w' lb db 50 (s.now.length-50) first dv ds u):=fun W hb=>by
  have:=tM area first (aO rows0).size W (hk.on hb) hr.down (by omega) hf1.1 hf1.2
  rw[hde.1,hde.2] at this
  exact this
 have HHK:=hide hk
 have HHR:=hide hr
 have HOD:=hide hod
 have HRW:=hide hro
 clear hk hr hod hro hsc hde
 generalize hsz:(aO rows0).size=size at *
 clear hsz
 go_enter Tryz.func74,Tryz.ntmps74
 go_wp2_with fail
 refine HRR.out.mono ?_
 rintro e w1 ⟨rfl,hb1⟩
 have hbA:=aB hb1 (Nat.le_refl _) (below_alloc1 w1 (Obj.cells #[.int IntKind.i64 (area:Int),.int IntKind.i64 (first:Int),.int IntKind.i64 (size:Int)] 202))
 have g0:(w1.alloc (Obj.cells #[.int IntKind.i64 (area:Int),.int IntKind.i64 (first:Int),.int IntKind.i64 (size:Int)] 202)).cell? ⟨w1.heap.size,0,none⟩=some (.int .i64 (area:Int)):=aC _ _ _ 0
 have g1:(w1.alloc (Obj.cells #[.int IntKind.i64 (area:Int),.int IntKind.i64 (first:Int),.int IntKind.i64 (size:Int)] 202)).cell? ⟨w1.heap.size,1,none⟩=some (.int .i64 (first:Int)):=aC _ _ _ 1
 have g2:(w1.alloc (Obj.cells #[.int IntKind.i64 (area:Int),.int IntKind.i64 (first:Int),.int IntKind.i64 (size:Int)] 202)).cell? ⟨w1.heap.size,2,none⟩=some (.int .i64 (size:Int)):=aC _ _ _ 2
 have HG:=hide (And.intro g0 (And.intro g1 g2))
 have HBA:=hide hbA
 clear g0 g1 g2 hb1 hbA HRR
 go_wp2_with fail
 refine(HRO.out _ HBA.out).mono ?_
 rintro e w2 ⟨v2,rfl,ho2,hb2⟩
 have HB2:=hide (aB HBA.out (Nat.le_refl _) hb2)
 have HO2:=hide (dJ ho2 HBA.out.size)
 have g0:=aA hb2 HG.out.1
 have g1:=aA hb2 HG.out.2.1
 have g2:=aA hb2 HG.out.2.2
 clear ho2 hb2 HG HRO HBA
 go_wp2_with fail
 refine(HOL.out _ HB2.out).mono ?_
 rintro e w3 ⟨lb,dv,rfl,ho3⟩
 obtain⟨dl,hdv,hdm,hdn⟩:=ho3.de
 have g0':=aA ho3.bel g0
 have HB3:=hide (aB HB2.out (Nat.le_refl _) ho3.bel)
 have HO3:=hide (bQ HO2.out ho3.bel)
 have HLH:=hide ho3.hd
 have HLN:Hid (w.heap.size<=lb):=Nat.le_trans HB2.out.size ho3.new
 have hlbn:∀ k,v2.ownBlock=some k->k≠lb:=fun k e e2=>by have h1:=(World.ownsRow.lt HO2.out k e).2;have h2:=ho3.new;omega
 have HLB:=hide hlbn
 obtain⟨da,dc,hdf⟩:∃ da dc,dv=.slice da dl.length dc:=by
  rcases hdv.1.2 with⟨e,e2⟩|⟨g,cap,cur,e,_⟩
  ·exact⟨none,0,by rw[e,e2]⟩
  ·exact⟨_,cap,e⟩
 have hcell:∀ k (h:k<dl.length),∃ g,da=some ⟨g,0,none⟩/\w3.cell? ⟨g,k,none⟩=some (ddV dl[k]):=fun k h=>by
  rcases hdv.1.2 with⟨e,e2⟩|⟨g,cap,cur,e,_⟩
  ·omega
  ·rw[hdf] at e
   have e3:da=some ⟨g,0,none⟩:=by cases e;rfl
   have:=World.ownsRow.cells hdv.1 (g:=g) (by rw[hdf,e3];rfl) k (ddV dl[k]) (by rw[List.getElem?_map,List.getElem?_eq_getElem h];rfl)
   rw[Go.WideShapes.add_plain,Nat.zero_add] at this
   exact⟨g,e3,this⟩
 subst hdf
 have HCE:=hide hcell
 have HHE:Hid (∀ d∈dl,bW w3 d.ao d.chs):=fun d hd=>zGr (hdv.2.1 d hd)
 have HDM:=hide hdm
 have hdl:dl.length<=9223372036854775807:=by
  rcases hdv.1.2 with⟨_,e2⟩|⟨g,cap,cur,_,_,_,h1,h2,_⟩
  ·omega
  ·unfold maxLen at h2;omega
 clear ho3 hdv hdm hdn hcell g0 g1 g2 HOL HO2 HB2 hlbn
 have HDI:Hid (∀ k (h:k<dl.length),∃ h2:k<ds.length,ds[k]=dl[k].chs):=fun k h=>by
  have e:=HDM.out
  subst e
  exact⟨by rw[List.length_map];exact h,by rw[List.getElem_map]⟩
 have HDN:Hid (ds.length=dl.length):=hide (by rw[<-HDM.out,List.length_map])
 go_wp2_with fail
 go_loopw [6,40] (fun v iv wr=>∃ k:Nat,k<=dl.length/\iv=.int .i64 (k:Int)/\bO wr w.heap.size v ((ds.take k).foldl aK rows0)/\(∀ q,v.ownBlock=some q->q≠lb)/\Below w3.heap.size w3 wr) (fun _ iv _=>dl.length-(intOf iv).toNat)
 case atStart=>exact⟨0,Nat.zero_le _,rfl,HO3.out,HLB.out,Below.refl _ _⟩
 case round=>
  obtain⟨k,hk,rfl,ho,hvl,hb⟩:=hrel
  clear HO3 HLB
  have hfew:=HRW.out.few k
  by_cases hlt:k<dl.length
  ·have hlt':(k:Int)<(dl.length:Int):=by omega
   have hk0:(0:Int)<=(k:Int):=by omega
   obtain⟨g,hg,hce⟩:=HCE.out k hlt
   subst hg
   obtain⟨hk2,hdk⟩:=HDI.out k hlt
   have hfd:=zGH (rows:=rows0) hk2
   have hld:=HRW.out.dl _ (List.getElem_mem hk2)
   have hhe:=eA hb (HHE.out _ (List.getElem_mem hlt))
   rw[hdk] at hfd hld
   replace hce:=aA hb hce
   unfold ddV at hce
   generalize dl[k]=dd at *
   generalize (ds.take k).foldl aK rows0=m at *
   have HBH:=hide (lG m dd.chs u6 dd.ao dd.cap w.heap.size wr ho hhe (by omega) (by omega))
   have HFD:=hide hfd
   have HBR:=hide hb
   have HZ:Hid (w.heap.size<=wr.heap.size/\lb<wr.heap.size):=⟨Nat.le_trans HB3.out.size hb.size,Nat.lt_of_lt_of_le HLH.out.lt hb.size⟩
   clear ho hb hfd hhe hvl hdk hld hfew hk2
   go_wp2_with (go_at_call 141;refine HBH.out.mono ?_;rintro e w7 ⟨v7,rfl,ho7,hb7⟩;have HO7:=hide ho7;have HB7:=hide hb7;clear ho7 hb7)
   exact⟨⟨k+1,by omega,by go_num,by rw[HFD.out];exact dJ HO7.out HZ.out.1,fun q e e2=>by have h1:=(World.ownsRow.lt HO7.out q e).1;have h2:=HZ.out.2;omega,aB HBR.out (Nat.le_refl _) HB7.out⟩,by simp[intOf];omega⟩
  ·have ek:k=dl.length:=by omega
   subst ek
   have hlt':¬(dl.length:Int)<(dl.length:Int):=by omega
   rw[<-HDN.out,List.take_length] at ho hfew
   rw[HRW.out.eq] at ho hfew
   have c0:=aA hb g0'
   obtain⟨va,vc,rfl⟩:∃ va vc,u6=.slice va rows.length vc:=by
    rcases aX ho with⟨e,e2⟩|⟨g,cap,e,_⟩
    ·exact⟨none,0,by rw[e,e2]⟩
    ·exact⟨_,cap,e⟩
   have HO:=hide ho
   have HVL:=hide hvl
   have HBR:=hide hb
   have h40:¬(40:Int)<(rows.length:Int):=by omega
   clear ho hvl hb g0' HCE HHE
   have HSB:=hide (below_alloc1 wr (Obj.cells #[.pointer (some ⟨db,0,none⟩),.pointer (some ⟨lb,0,none⟩),.int .i64 (area:Int),.slice va rows.length vc] 224))
   go_wp2_with fail
   go_ret2
   have hlt3:=HLH.out.lt
   have hbw:=aB HB3.out (Nat.le_refl _) HBR.out
   have hSl:∀ k,w.heap.size<=k->¬S k:=fun k h e=>by have:=HHK.out.lt e;omega
   refine⟨wr.heap.size,rfl,⟨⟨lb,.slice va rows.length vc,⟨⟨aC _ _ _ 0,aC _ _ _ 1,aC _ _ _ 2,aC _ _ _ 3,fun j=>aQ _ _ _ j⟩,⟨HHK.out.on (aB hbw (Nat.le_refl _) HSB.out),HLH.out.kept ((HSB.out.block lb (Nat.lt_of_lt_of_le hlt3 HBR.out.size)).trans (HBR.out.block lb hlt3)),hSl _ HLN.out,Nat.le_trans hB HLN.out,hus,by show 50+(s.now.length-50)<=s.now.length;omega,hf1.1,by show first<=1500000;omega⟩,dJ (bQ HO.out HSB.out) hB,hSl _ hbw.size,?_,?_,Nat.le_trans hB hbw.size⟩,HLN.out,fun k e=>(World.ownsRow.lt HO.out k e).1⟩,hbw.size,aB hbw (Nat.le_refl _) HSB.out⟩⟩
   ·have:=HBR.out.size
    omega
   ·intro k e
    have h1:=World.ownsRow.lt HO.out k e
    exact⟨by omega,HVL.out k e,hSl _ h1.1⟩
theorem zFF (w:World) (hk:DK w B db S s) (hn:54<=s.now.length):Calls Tryz.prog 60 #[.pointer (some ⟨db,0,none⟩)] w fun e w'=>e=.returned (errV (dC 0 [] s).1)/\ActD w w' B db S (dC 0 [] s).2:=by
 have HS:=hide (mU w hk)
 have HLY:=hide (zCI 0 [] none 0 w hk (by decide) hn (.inl rfl) xS (by decide))
 clear hk
 generalize (dC 0 [] s).1=f at *
 generalize (dC 0 [] s).2=s2 at *
 generalize s.now.length=n at *
 have h1:¬(n:Int)<54:=by omega
 go_enter Tryz.func60,Tryz.ntmps60
 go_wp2_with (first
  | (go_at_call 123;refine HS.out.mono ?_;rintro e w1 ⟨rfl,rfl⟩)
  | (go_at_call 124;refine HLY.out.mono ?_;rintro e w2 ⟨rv,rfl,⟨x,y,z,rfl,_⟩,ha2⟩;have HA2:=hide ha2;clear ha2)
  | fail)
 go_ret
 exact⟨rfl,HA2.out.post (below_alloc1 _ _)⟩
end
section
variable {w w':World} {B sb lb db:Nat} {S S' T:Nat->Prop} {v:Value} {x:SSt}
theorem SK.step (h:SK w B sb lb db S v x) {s':DSt} (hk:DK w' B db S' s') (hs:aG w w' B S S') (hl:s'.now.length=x.d.now.length):SK w' B sb lb db S' v { x with d:=s' }:=by
  have f1:=hs.far sb h.hd.lt h.ns
  refine⟨h.hd.kept f1.1,?_,aI h.own fun k e=>(hs.far k (World.ownsRow.lt h.own k e).2 (h.nv k e).2.2).1,f1.2,h.nl,fun k e=>⟨(h.nv k e).1,(h.nv k e).2.1,(hs.far k (World.ownsRow.lt h.own k e).2 (h.nv k e).2.2).2⟩,h.lo⟩
  have:=h.lk.step hk hs hl
  show LK w' B lb db S' 50 (s'.now.length-50) x.first x.used s'
  rw[hl]
  exact this
theorem zMG {S1 S2:Nat->Prop} (hs:aG w w' B S1 S2):aG w w' B (inS sb lb v S1) (inS sb lb v S2):=
  ⟨hs.bel,fun j hj hn=>⟨(hs.far j hj fun e=>hn (.inr (.inr (.inr e)))).1,fun e=>e.elim (fun e=>hn (.inl e)) fun e=>e.elim (fun e=>hn (.inr (.inl e))) fun e=>e.elim (fun e=>hn (.inr (.inr (.inl e)))) (hs.far j hj fun e=>hn (.inr (.inr (.inr e)))).2⟩⟩
theorem SK.turn {W1 W2:World} (h:SK w B sb lb db S v x) {s':DSt} {S2:Nat->Prop} {lb' area' first':Nat} {dv:Value} {ds:List (List Chg)} (hk:DK W1 B db S2 s') (hs:aG w W1 B S S2) (hl:s'.now.length=x.d.now.length) (ho:mC W1 W2 lb' db 50 (s'.now.length-50) first' dv ds 0) (hn:50<=s'.now.length) (hf:1<=first'/\first'<=2):
    ActS w ((W2.setCell ⟨sb,1,none⟩ (.pointer (some ⟨lb',0,none⟩))).setCell ⟨sb,2,none⟩ (.int .i64 (area':Int))) B sb db (inS sb lb v S) ⟨s',area',first',0,x.rows⟩:=by
  have h1:=h.step hk hs hl
  have h2:=h1.hd.kept (ho.bel.block sb h1.hd.lt)
  have hsl:sb<W2.heap.size:=h2.lt
  have hnew:=ho.new
  have hs1:=h1.hd.lt
  have hk2:∀ k,k≠sb->((W2.setCell ⟨sb,1,none⟩ (.pointer (some ⟨lb',0,none⟩))).setCell ⟨sb,2,none⟩ (.int .i64 (area':Int))).heap[k]?=W2.heap[k]?:=fun k hn=>(Below.heap_setCell _ _ _ _ hn).trans (Below.heap_setCell _ _ _ _ hn)
  have hown2:=bQ h1.own ho.bel
  have hne:lb'≠sb:=by omega
  have hvb:∀ k,v.ownBlock=some k->k≠lb':=fun k e=>by have:=(World.ownsRow.lt h1.own k e).2;omega
  have hnS:¬S2 lb':=fun e=>by have:=hk.lt e;omega
  refine⟨_,⟨lb',S2,v,⟨⟨?_,?_,?_,?_,fun j=>by rw[World.frozen?_setCell,World.frozen?_setCell];exact h2.soft j⟩,⟨(hk.on ho.bel).kept (by simp) fun k e=>hk2 k fun e2=>h1.ns (e2▸e),ho.hd.kept (hk2 lb' hne),hnS,Nat.le_trans hk.lo hnew,Nat.zero_le _,by show 50+(s'.now.length-50)<=s'.now.length;omega,hf.1,by show first'<=1500000;omega⟩,aI hown2 fun k e=>hk2 k (h.nv k e).1,h1.ns,hne.symm,fun k e=>⟨(h.nv k e).1,hvb k e,(h1.nv k e).2.2⟩,h.lo⟩,rfl⟩,?_,fun j hj hnj=>?_⟩
  · exact(World.cell?_setCell_other _ _ _ _ (by simp)).trans ((World.cell?_setCell_other _ _ _ _ (by simp)).trans h2.c0)
  · exact(World.cell?_setCell_other _ _ _ _ (by simp)).trans (World.cell?_setCell_same _ _ _ h2.c1)
  · exact World.cell?_setCell_same _ _ _ ((World.cell?_setCell_other _ _ _ _ (by simp)).trans h2.c2)
  · exact(World.cell?_setCell_other _ _ _ _ (by simp)).trans ((World.cell?_setCell_other _ _ _ _ (by simp)).trans h2.c3)
  · exact((hs.bel.trans (ho.bel.mono hk.lo)).setCell (p:=⟨sb,1,none⟩) h.lo _).setCell (p:=⟨sb,2,none⟩) h.lo _
  · have n1:¬S j:=fun e=>hnj (.inr (.inr (.inr e)))
    have n2:j≠sb:=fun e=>hnj (.inl e)
    have n3:¬v.ownBlock=some j:=fun e=>hnj (.inr (.inr (.inl e)))
    have f1:=hs.far j hj n1
    have hj1:=Nat.lt_of_lt_of_le hj hs.bel.size
    refine⟨(hk2 j n2).trans ((ho.bel.block j hj1).trans f1.1),fun e=>?_⟩
    rcases e with e|e|e|e
    · exact n2 e
    · omega
    · exact n3 e
    · exact f1.2 e
structure CPX (w W:World) (B db rb:Nat) (S:Nat->Prop) (s:DSt) (x y z:Int):Prop where
  ex:∃ S2,DK W B db S2 s/\aG w W B S S2
  ge:w.heap.size<=rb
  k0:W.cell? ⟨rb,0,none⟩=some (.int .i64 x)
  k1:W.cell? ⟨rb,1,none⟩=some (.int .i64 y)
  k2:W.cell? ⟨rb,2,none⟩=some (.int .i64 z)
theorem CPX.ofA {w7:World} {s:DSt} {a b c:Int} (hk:DK w7 B db S' s) (hs:aG w.drew w7 B S S') (hB:B<=w.heap.size):CPX w (w7.alloc (Obj.cells #[.int IntKind.i64 a,.int IntKind.i64 b,.int IntKind.i64 c] 202)) B db w7.heap.size S s a b c:=by
  have hd:aG w w.drew B S S:=.on hB (Below.refl _ w).drew
  exact⟨⟨S',hk.on (below_alloc1 _ _),(hd.trans hs).trans (.on hk.lo (below_alloc1 _ _))⟩,hs.bel.size,aC _ _ _ 0,aC _ _ _ 1,aC _ _ _ 2⟩
theorem CPX.ofB {w7:World} {s:DSt} {a b c:Int} (hk:DK w7 B db S' s) (hs:aG (w.alloc (Obj.cells #[.int IntKind.i64 0,.int IntKind.i64 0,.int IntKind.i64 0] 202)).drew w7 B S S') (hB:B<=w.heap.size) (hn:¬S w.heap.size) (t0:w7.cell? ⟨w.heap.size,0,none⟩=some (.int .i64 0)) (t1:w7.cell? ⟨w.heap.size,1,none⟩=some (.int .i64 0)) (t2:w7.cell? ⟨w.heap.size,2,none⟩=some (.int .i64 0)):
    CPX w (((w7.setCell ⟨w.heap.size,0,none⟩ (.int .i64 a)).setCell ⟨w.heap.size,1,none⟩ (.int .i64 b)).setCell ⟨w.heap.size,2,none⟩ (.int .i64 c)) B db w.heap.size S s a b c:=by
  have hd:aG w (w.alloc (Obj.cells #[.int IntKind.i64 0,.int IntKind.i64 0,.int IntKind.i64 0] 202)).drew B S S:=.on hB (below_alloc1 w _).drew
  have hz:w.heap.size<(w.alloc (Obj.cells #[.int IntKind.i64 0,.int IntKind.i64 0,.int IntKind.i64 0] 202)).drew.heap.size:=by simp
  have fn:=hs.far w.heap.size hz hn
  have hk3:∀ k,k≠w.heap.size->(((w7.setCell ⟨w.heap.size,0,none⟩ (.int .i64 a)).setCell ⟨w.heap.size,1,none⟩ (.int .i64 b)).setCell ⟨w.heap.size,2,none⟩ (.int .i64 c)).heap[k]?=w7.heap[k]?:=fun k hn=>(Below.heap_setCell _ _ _ _ hn).trans ((Below.heap_setCell _ _ _ _ hn).trans (Below.heap_setCell _ _ _ _ hn))
  obtain⟨k0,k1,k2⟩:=keep3' (x:=.int .i64 a) (y:=.int .i64 b) (z:=.int .i64 c) t0 t1 t2
  have hst:=hd.trans hs
  refine⟨⟨S',hk.kept (by simp) fun k e=>hk3 k fun e2=>fn.2 (e2▸e),⟨((hst.bel.setCell (p:=⟨w.heap.size,0,none⟩) hB _).setCell (p:=⟨w.heap.size,1,none⟩) hB _).setCell (p:=⟨w.heap.size,2,none⟩) hB _,fun j hj hnj=>?_⟩⟩,Nat.le_refl _,k0,k1,k2⟩
  obtain⟨f1,f2⟩:=hst.far j hj hnj
  exact⟨(hk3 j (by omega)).trans f1,f2⟩
theorem zHP {W:World} {b b':Nat} {x y z a0 a1 a2:Value} (hne:b'≠b) (h:W.cell? ⟨b',0,none⟩=some a0/\W.cell? ⟨b',2,none⟩=some a1/\W.cell? ⟨b',3,none⟩=some a2):
    (((W.setCell ⟨b,0,none⟩ x).setCell ⟨b,1,none⟩ y).setCell ⟨b,2,none⟩ z).cell? ⟨b',0,none⟩=some a0/\(((W.setCell ⟨b,0,none⟩ x).setCell ⟨b,1,none⟩ y).setCell ⟨b,2,none⟩ z).cell? ⟨b',2,none⟩=some a1/\(((W.setCell ⟨b,0,none⟩ x).setCell ⟨b,1,none⟩ y).setCell ⟨b,2,none⟩ z).cell? ⟨b',3,none⟩=some a2:=by
  have hk:∀ k,k≠b->(((W.setCell ⟨b,0,none⟩ x).setCell ⟨b,1,none⟩ y).setCell ⟨b,2,none⟩ z).heap[k]?=W.heap[k]?:=fun k hn=>(Below.heap_setCell _ _ _ _ hn).trans ((Below.heap_setCell _ _ _ _ hn).trans (Below.heap_setCell _ _ _ _ hn))
  exact⟨(World.cell?_of_block (a:=⟨b',0,none⟩) (hk b' hne)).trans h.1,(World.cell?_of_block (a:=⟨b',2,none⟩) (hk b' hne)).trans h.2.1,(World.cell?_of_block (a:=⟨b',3,none⟩) (hk b' hne)).trans h.2.2⟩
theorem zDC (w:World) (h:SA w B sb db T x) (hg:fA x):Calls Tryz.prog 73 #[.pointer (some ⟨sb,0,none⟩)] w fun e w'=>e=.returned (errV (chkR x).1)/\ActS w w' B sb db T (chkR x).2:=by
  obtain⟨lb,S,v,hsk,rfl⟩:=h
  have ha1:=cQ.a1 hg
  have h54:=cQ.n54 hg
  have hfew:=cQ.few hg
  have hB:=hsk.lk.dk.lo
  have c0:=hsk.hd.c0
  have c2:=hsk.hd.c2
  have c3:=hsk.hd.c3
  have hsl:=hsk.hd.lt
  obtain⟨va,vc,hv,hh⟩:∃ va vc,v=.slice va x.rows.length vc/\bW w va x.rows:=by
    rcases aX hsk.own with⟨e,e2⟩|⟨g,cap,e,_⟩
    · exact⟨none,0,by rw[e,e2],.inl (List.length_eq_zero_iff.1 e2)⟩
    · refine⟨some ⟨g,0,none⟩,cap,e,.inr ⟨g,0,rfl,eW x.rows 0 fun j u hj=>?_⟩⟩
      have:=World.ownsRow.cells hsk.own (g:=g) (by rw[e];rfl) j u hj
      rwa [Go.WideShapes.add_plain] at this
  have HLY:Hid (∀ W,Below w.heap.size w W->Calls Tryz.prog 124 #[.pointer (some ⟨db,0,none⟩),.int .i64 ((1-x.area:Nat):Int),.slice va x.rows.length vc] W fun e w'=>∃ rv,e=.returned (.tuple #[rv,errV (dC (1-x.area) x.rows x.d).1])/\zIp rv (dC (1-x.area) x.rows x.d).1 (1-x.area) (aM x.d.now) (aO x.rows).size/\ActD W w' B db S (dC (1-x.area) x.rows x.d).2):=fun W hb=>zCI (1-x.area) x.rows va vc W (hsk.lk.dk.on hb) (by omega) h54 (eA hb hh) (cQ.fine hg) hfew
  have hlen:=uQ (1-x.area) x.rows x.d
  have ea:(1:Int)-(x.area:Int)=((1-x.area:Nat):Int):=by omega
  have a0:(0:Int)<=(x.area:Int):=by omega
  have a1:(x.area:Int)<=1:=by omega
  have hwr:IntKind.i64.wrap (1-(x.area:Int))=((1-x.area:Nat):Int):=by rw[ea];simp[IntKind.wrap,IntKind.bits];omega
  subst hv
  have HSK:=hide hsk
  have HGD:=hide hg
  clear hsk hg hh ea
  unfold chkR
  by_cases hf:(dC (1-x.area) x.rows x.d).1=0
  · rw[if_pos hf]
    have hgn:=hf
    rw[hf,aR] at HLY
    have hchk:=HGD.out.chk
    unfold chkR at hchk
    rw[if_pos hf] at hchk
    obtain⟨_,_,hck⟩:=hchk
    have hgd2:fA ⟨(dC (1-x.area) x.rows x.d).2,1-x.area,aM x.d.now,0,x.rows⟩:=by
      rcases hck with⟨_,a,_⟩|⟨a,_⟩
      · exact a
      · cases a
    have HGD2:=hide hgd2
    have hfr:=rB x.d.now
    have HLE:=hide hlen
    clear hf hlen hgn hck hgd2
    generalize dC (1-x.area) x.rows x.d=r at *
    generalize (aO x.rows).size=size at *
    generalize aM x.d.now=fr at *
    generalize 1-x.area=ar at *
    obtain⟨rows0,ds0,hod,hrw⟩:=HGD2.out.ex
    have hdn:=HGD2.out.down
    have HOL:Hid (∀ W S2,DK W B db S2 r.2->Calls Tryz.prog 138 #[.pointer (some ⟨db,0,none⟩),.agg #[.int .i64 (ar:Int),.int .i64 (fr:Int),.int .i64 (size:Int)]] W fun e w'=>∃ lb dv,e=.returned (.tuple #[.pointer (some ⟨lb,0,none⟩),dv,.nilIface])/\∃ dd,mC W w' lb db 50 (r.2.now.length-50) fr dv dd 0):=fun W S2 hk2=>by
      have h1:=tM ar fr size W hk2 hdn (by rw[HLE.out];omega) hfr.1 hfr.2
      have hsc:dB fr 0 (eB r.2 50 (r.2.now.length-50)) ([],[]) 0=(ds0,0):=hod.has
      have hus:mH (eB r.2 50 (r.2.now.length-50)) fr=0:=by unfold mH;rw[hsc]
      rw[hus] at h1
      exact h1.mono fun e w' ⟨lb,dv,he,ho⟩=>⟨lb,dv,he,_,ho⟩
    clear hod hrw hdn
    go_enter Tryz.func73,Tryz.ntmps73
    go_wp2_with fail
    have HZA:Hid (w.heap.size<(w.alloc (Obj.cells #[.int IntKind.i64 0,.int IntKind.i64 0,.int IntKind.i64 0] 202)).heap.size):=hide (by simp)
    have HNS:Hid (¬S w.heap.size):=fun e=>by have:=HSK.out.lk.dk.lt e;omega
    have HSN:Hid (sb≠w.heap.size):=hide (by omega)
    go_region_held3 (fun w'=>w'.cell? ⟨sb,0,none⟩=some (.pointer (some ⟨db,0,none⟩))/\w'.cell? ⟨sb,2,none⟩=some (.int .i64 (x.area:Int))/\w'.cell? ⟨sb,3,none⟩=some (.slice va x.rows.length vc)) (first|exact⟨c0,c2,c3⟩|exact HC7.out|exact⟨aA (below_alloc1 _ _) HC7.out.1,aA (below_alloc1 _ _) HC7.out.2.1,aA (below_alloc1 _ _) HC7.out.2.2⟩|exact zHP HSN.out HC7.out|exact⟨aA (below_alloc1 _ _).drew c0,aA (below_alloc1 _ _).drew c2,aA (below_alloc1 _ _).drew c3⟩|go_keep) (first|(go_at_call 124;refine(HLY.out _ (by first|exact(Below.refl _ w).drew|exact(below_alloc1 w _).drew)).mono ?_;rintro e w7 ⟨rv7,rfl,⟨x7,y7,z7,rfl,hrv7⟩,⟨S7,hk7,hs7⟩⟩;have f7:=hs7.far sb (by first|exact hsl|exact Nat.lt_of_lt_of_le hsl (below_alloc1 w _).size) HSK.out.ns;have HC7:Hid (w7.cell? ⟨sb,0,none⟩=some (.pointer (some ⟨db,0,none⟩))/\w7.cell? ⟨sb,2,none⟩=some (.int .i64 (x.area:Int))/\w7.cell? ⟨sb,3,none⟩=some (.slice va x.rows.length vc)):=(by first|exact⟨(World.cell?_of_block (a:=⟨sb,0,none⟩) f7.1).trans c0,(World.cell?_of_block (a:=⟨sb,2,none⟩) f7.1).trans c2,(World.cell?_of_block (a:=⟨sb,3,none⟩) f7.1).trans c3⟩|exact⟨(World.cell?_of_block (a:=⟨sb,0,none⟩) f7.1).trans (aA (below_alloc1 w _).drew c0),(World.cell?_of_block (a:=⟨sb,2,none⟩) f7.1).trans (aA (below_alloc1 w _).drew c2),(World.cell?_of_block (a:=⟨sb,3,none⟩) f7.1).trans (aA (below_alloc1 w _).drew c3)⟩);(first|(have z7:=(hs7.far w.heap.size (by exact HZA.out) HNS.out).1;have t0:w7.cell? ⟨w.heap.size,0,none⟩=some (.int .i64 0):=(World.cell?_of_block (a:=⟨w.heap.size,0,none⟩) z7).trans (aC w _ _ 0);have t1:w7.cell? ⟨w.heap.size,1,none⟩=some (.int .i64 0):=(World.cell?_of_block (a:=⟨w.heap.size,1,none⟩) z7).trans (aC w _ _ 1);have t2:w7.cell? ⟨w.heap.size,2,none⟩=some (.int .i64 0):=(World.cell?_of_block (a:=⟨w.heap.size,2,none⟩) z7).trans (aC w _ _ 2);have tf:∀ j,w7.frozen? ⟨w.heap.size,j,none⟩=false:=(fun j=>(World.frozen?_of_block (a:=⟨w.heap.size,j,none⟩) z7).trans (aQ w _ _ j));clear z7)|skip);dsimp only))
    all_goals
      obtain⟨e1,e2,e3⟩:=hrv7 rfl
      subst e1 e2 e3
    all_goals
      first
        | (have hcp:=CPX.ofA (a:=(ar:Int)) (b:=(fr:Int)) (c:=(size:Int)) hk7 hs7 hB
           generalize w7.alloc (Obj.cells #[.int IntKind.i64 (ar:Int),.int IntKind.i64 (fr:Int),.int IntKind.i64 (size:Int)] 202)=W at *
           generalize w7.heap.size=rb at *)
        | (have hcp:=CPX.ofB (a:=(ar:Int)) (b:=(fr:Int)) (c:=(size:Int)) hk7 hs7 hB HNS.out t0 t1 t2
           generalize ((w7.setCell ⟨w.heap.size,0,none⟩ (Value.int IntKind.i64 (ar:Int))).setCell ⟨w.heap.size,1,none⟩ (Value.int IntKind.i64 (fr:Int))).setCell ⟨w.heap.size,2,none⟩ (Value.int IntKind.i64 (size:Int))=W at *
           obtain⟨rb,hrb⟩:∃ rb,w.heap.size=rb:=⟨_,rfl⟩
           rw[hrb] at hcp ⊢
           clear hrb t0 t1 t2 tf)
      have HCP:=hide hcp
      clear hcp hk7 hs7 f7 HC7
    all_goals
      obtain⟨S2,q1,q2⟩:=HCP.out.ex
      have k0:=HCP.out.k0
      have k1:=HCP.out.k1
      have k2:=HCP.out.k2
      have hsk2:=HSK.out.step q1 q2 HLE.out
      have d0:=hsk2.hd.c0
      have HS2:=hide hsk2
      have HQ1:=hide q1
      have HQ2:=hide q2
      have HRS:Hid (rb≠sb):=hide (by have:=HCP.out.ge;omega)
      clear hsk2 q1 q2 HCP
      go_wp2_with fail
      go_region_held3 (fun w'=>w'.cell? ⟨sb,0,none⟩=some (.pointer (some ⟨db,0,none⟩))/\w'.cell? ⟨rb,0,none⟩=some (.int .i64 (ar:Int))/\w'.cell? ⟨rb,1,none⟩=some (.int .i64 (fr:Int))/\w'.cell? ⟨rb,2,none⟩=some (.int .i64 (size:Int))) (first|exact⟨d0,k0,k1,k2⟩|exact HC8.out|go_keep) (first|(go_at_call 138;refine(HOL.out _ S2 (HQ1.out.on (Below.refl _ _).drew)).mono ?_;rintro e w8 ⟨lb8,dv8,rfl,dd8,ho8⟩;have HC8:Hid (w8.cell? ⟨sb,0,none⟩=some (.pointer (some ⟨db,0,none⟩))/\w8.cell? ⟨rb,0,none⟩=some (.int .i64 (ar:Int))/\w8.cell? ⟨rb,1,none⟩=some (.int .i64 (fr:Int))/\w8.cell? ⟨rb,2,none⟩=some (.int .i64 (size:Int))):=⟨aA ho8.bel d0,aA ho8.bel k0,aA ho8.bel k1,aA ho8.bel k2⟩;dsimp only))
      have hsk8:=(HS2.out.on (Below.refl _ _).drew).hd.kept (ho8.bel.block sb (HS2.out.on (Below.refl _ _).drew).hd.lt)
      have m1:=hsk8.c1
      have m2:=hsk8.c2
      have mf:=hsk8.soft
      have n0:=HC8.out.2.1
      have HO8:=hide ho8
      clear hsk8 ho8 HC8 d0 k0 k1 k2
      have hrs:=HRS.out
      have hsr:sb≠rb:=fun e=>hrs e.symm
      go_wp2_with fail
      go_region_held3 (fun w'=>w'.cell? ⟨rb,0,none⟩=some (.int .i64 (ar:Int))) (first|exact n0|go_keep) (fail)
      go_wp2
      go_ret
      refine⟨rfl,?_⟩
      have hend:=HSK.out.turn (area':=ar) (HQ1.out.on (Below.refl _ _).drew) (HQ2.out.trans (.on HQ1.out.lo (Below.refl _ _).drew)) HLE.out HO8.out (by rw[HLE.out];omega) hfr
      exact hend.post (Below.refl _ _).drew
  · rw[if_neg hf]
    have HER:Hid (errV (dC (1-x.area) x.rows x.d).1=.iface 114 (.int .i64 (dC (1-x.area) x.rows x.d).1)):=aP hf
    rw[HER.out] at HLY ⊢
    have HF:=hide hf
    have HLE:=hide hlen
    clear hf hlen
    generalize dC (1-x.area) x.rows x.d=r at *
    generalize (aO x.rows).size=size at *
    generalize aM x.d.now=fr at *
    generalize 1-x.area=ar at *
    go_enter Tryz.func73,Tryz.ntmps73
    go_wp2_with fail
    have HZA:Hid (w.heap.size<(w.alloc (Obj.cells #[.int IntKind.i64 0,.int IntKind.i64 0,.int IntKind.i64 0] 202)).heap.size):=hide (by simp)
    have HNS:Hid (¬S w.heap.size):=fun e=>by have:=HSK.out.lk.dk.lt e;omega
    have HSN:Hid (sb≠w.heap.size):=hide (by omega)
    go_region_held3 (fun w'=>w'.cell? ⟨sb,0,none⟩=some (.pointer (some ⟨db,0,none⟩))/\w'.cell? ⟨sb,2,none⟩=some (.int .i64 (x.area:Int))/\w'.cell? ⟨sb,3,none⟩=some (.slice va x.rows.length vc)) (first|exact⟨c0,c2,c3⟩|exact HC7.out|exact⟨aA (below_alloc1 _ _) HC7.out.1,aA (below_alloc1 _ _) HC7.out.2.1,aA (below_alloc1 _ _) HC7.out.2.2⟩|exact zHP HSN.out HC7.out|exact⟨aA (below_alloc1 _ _).drew c0,aA (below_alloc1 _ _).drew c2,aA (below_alloc1 _ _).drew c3⟩|go_keep) (first|(go_at_call 124;refine(HLY.out _ (by first|exact(Below.refl _ w).drew|exact(below_alloc1 w _).drew)).mono ?_;rintro e w7 ⟨rv7,rfl,⟨x7,y7,z7,rfl,hrv7⟩,⟨S7,hk7,hs7⟩⟩;have f7:=hs7.far sb (by first|exact hsl|exact Nat.lt_of_lt_of_le hsl (below_alloc1 w _).size) HSK.out.ns;have HC7:Hid (w7.cell? ⟨sb,0,none⟩=some (.pointer (some ⟨db,0,none⟩))/\w7.cell? ⟨sb,2,none⟩=some (.int .i64 (x.area:Int))/\w7.cell? ⟨sb,3,none⟩=some (.slice va x.rows.length vc)):=(by first|exact⟨(World.cell?_of_block (a:=⟨sb,0,none⟩) f7.1).trans c0,(World.cell?_of_block (a:=⟨sb,2,none⟩) f7.1).trans c2,(World.cell?_of_block (a:=⟨sb,3,none⟩) f7.1).trans c3⟩|exact⟨(World.cell?_of_block (a:=⟨sb,0,none⟩) f7.1).trans (aA (below_alloc1 w _).drew c0),(World.cell?_of_block (a:=⟨sb,2,none⟩) f7.1).trans (aA (below_alloc1 w _).drew c2),(World.cell?_of_block (a:=⟨sb,3,none⟩) f7.1).trans (aA (below_alloc1 w _).drew c3)⟩);(first|(have z7:=(hs7.far w.heap.size (by exact HZA.out) HNS.out).1;have t0:w7.cell? ⟨w.heap.size,0,none⟩=some (.int .i64 0):=(World.cell?_of_block (a:=⟨w.heap.size,0,none⟩) z7).trans (aC w _ _ 0);have t1:w7.cell? ⟨w.heap.size,1,none⟩=some (.int .i64 0):=(World.cell?_of_block (a:=⟨w.heap.size,1,none⟩) z7).trans (aC w _ _ 1);have t2:w7.cell? ⟨w.heap.size,2,none⟩=some (.int .i64 0):=(World.cell?_of_block (a:=⟨w.heap.size,2,none⟩) z7).trans (aC w _ _ 2);have tf:∀ j,w7.frozen? ⟨w.heap.size,j,none⟩=false:=(fun j=>(World.frozen?_of_block (a:=⟨w.heap.size,j,none⟩) z7).trans (aQ w _ _ j));clear z7)|skip);dsimp only))
    all_goals
      first
        | (have hcp:=CPX.ofA (a:=x7) (b:=y7) (c:=z7) hk7 hs7 hB
           generalize w7.alloc (Obj.cells #[.int IntKind.i64 x7,.int IntKind.i64 y7,.int IntKind.i64 z7] 202)=W at *
           generalize w7.heap.size=rb at *)
        | (have hcp:=CPX.ofB (a:=x7) (b:=y7) (c:=z7) hk7 hs7 hB HNS.out t0 t1 t2
           generalize ((w7.setCell ⟨w.heap.size,0,none⟩ (Value.int IntKind.i64 x7)).setCell ⟨w.heap.size,1,none⟩ (Value.int IntKind.i64 y7)).setCell ⟨w.heap.size,2,none⟩ (Value.int IntKind.i64 z7)=W at *
           obtain⟨rb,hrb⟩:∃ rb,w.heap.size=rb:=⟨_,rfl⟩
           rw[hrb] at hcp ⊢
           clear hrb t0 t1 t2 tf)
      have HCP:=hide hcp
      clear hcp hk7 hs7 f7 HC7
    all_goals
      go_wp2
      go_ret
      obtain⟨S2,q1,q2⟩:=HCP.out.ex
      exact⟨rfl,_,⟨lb,S2,_,HSK.out.step q1 q2 HLE.out,rfl⟩,zMG q2⟩
end
section
variable {w w':World} {B sb lb db:Nat} {S S' T:Nat->Prop} {v:Value} {x:SSt}
theorem SK.added (h:SK w B sb lb db S v x) {s':DSt} {u:Nat} (hk:LK w' B lb db S' 50 (x.d.now.length-50) x.first u s') (hs:aG w w' B (inL lb S) (inL lb S')) (hl:s'.now.length=x.d.now.length):SK w' B sb lb db S' v { x with d:=s',used:=u }/\aG w w' B (inS sb lb v S) (inS sb lb v S'):=by
 have nsb:¬inL lb S sb:=fun e=>e.elim h.nl h.ns
 have nvb:∀ k,v.ownBlock=some k->¬inL lb S k:=fun k e e2=>e2.elim (h.nv k e).2.1 (h.nv k e).2.2
 have f1:=hs.far sb h.hd.lt nsb
 refine⟨⟨h.hd.kept f1.1,?_,aI h.own fun k e=>(hs.far k (World.ownsRow.lt h.own k e).2 (nvb k e)).1,fun e=>f1.2 (.inr e),h.nl,fun k e=>⟨(h.nv k e).1,(h.nv k e).2.1,fun e2=>(hs.far k (World.ownsRow.lt h.own k e).2 (nvb k e)).2 (.inr e2)⟩,h.lo⟩,hs.bel,fun j hj hn=>?_⟩
 ·show LK w' B lb db S' 50 (s'.now.length-50) x.first u s'
  rw[hl]
  exact hk
 ·obtain⟨a,b⟩:=hs.far j hj (fun e=>e.elim (fun e=>hn (.inr (.inl e))) fun e=>hn (.inr (.inr (.inr e))))
  exact⟨a,fun e=>e.elim (fun e=>hn (.inl e)) fun e=>e.elim (fun e=>hn (.inr (.inl e))) fun e=>e.elim (fun e=>hn (.inr (.inr (.inl e)))) fun e=>b (.inr e)⟩
theorem SK.finish {w3:World} {y:SSt} {v2:Value} {rows2:List Chg} (h:SK w3 B sb lb db S v y) (hst:aG w w3 B T (inS sb lb v S)) (hB:B<=w.heap.size) (ho:bO w3 w.heap.size v2 rows2) (hap:∀ k,v2.ownBlock=some k->¬inS sb lb v S k):ActS w (w3.setCell ⟨sb,3,none⟩ v2) B sb db T { y with rows:=rows2 }:=by
 have hk2:∀ k,k≠sb->(w3.setCell ⟨sb,3,none⟩ v2).heap[k]?=w3.heap[k]?:=fun k hn=>Below.heap_setCell _ _ _ _ hn
 have hv:∀ k,v2.ownBlock=some k->k≠sb/\k≠lb/\¬S k:=fun k e=>⟨fun e2=>hap k e (.inl e2),fun e2=>hap k e (.inr (.inl e2)),fun e2=>hap k e (.inr (.inr (.inr e2)))⟩
 refine⟨_,⟨lb,S,v2,⟨⟨(World.cell?_setCell_other _ _ _ _ (by simp)).trans h.hd.c0,(World.cell?_setCell_other _ _ _ _ (by simp)).trans h.hd.c1,(World.cell?_setCell_other _ _ _ _ (by simp)).trans h.hd.c2,World.cell?_setCell_same _ _ _ h.hd.c3,fun j=>by rw[World.frozen?_setCell];exact h.hd.soft j⟩,?_,?_,h.ns,h.nl,hv,h.lo⟩,rfl⟩,hst.bel.setCell (p:=⟨sb,3,none⟩) h.lo v2,fun j hj hn=>?_⟩
 ·exact⟨h.lk.dk.kept (by simp) fun k e=>hk2 k fun e2=>h.ns (e2▸e),h.lk.hd.kept (hk2 lb fun e=>h.nl e.symm),h.lk.nl,h.lk.lo,h.lk.us,h.lk.fit,h.lk.f1⟩
 ·exact dJ (aI ho fun k e=>hk2 k (hv k e).1) hB
 ·obtain⟨a,b⟩:=hst.far j hj hn
  refine⟨(hk2 j fun e=>b (.inl e)).trans a,fun e=>?_⟩
  rcases e with e|e|e|e
  ·exact b (.inl e)
  ·exact b (.inr (.inl e))
  ·have:=(World.ownsRow.lt ho j e).1;omega
  ·exact b (.inr (.inr (.inr e)))
theorem zCC (fr many first used:Nat) (s:DSt) (l:List Chg):(addR fr many first used s l).2.2.now.length=s.now.length:=by
 unfold addR
 split
 ·rfl
 ·exact fS _ _
def apart (T:Nat->Prop) (ao:Option Addr) (l:List Chg):Prop:=l=[]∨∀ a,ao=some a->¬T a.block
theorem apart.step {T':Nat->Prop} {ao:Option Addr} {l:List Chg} (h:apart T ao l) (hh:bW w ao l) (hs:aG w w' B T T'):apart T' ao l/\bW w' ao l:=by
 rcases h with h|h
 ·exact⟨.inl h,.inl h⟩
 ·rcases hh with hh|⟨b,off,e,hc⟩
  ·exact⟨.inl hh,.inl hh⟩
  ·subst e
   by_cases hl:l=[]
   ·exact⟨.inl hl,.inl hl⟩
   ·have hb:b<w.heap.size:=World.block_lt_of_cell? _ _ (hc 0 (List.length_pos_iff.2 hl)).1
    obtain⟨a,n⟩:=hs.far b hb (h _ rfl)
    exact⟨.inr fun a e=>by cases e;exact n,.inr ⟨b,off,rfl,fun i hi=>⟨(World.cell?_of_block (a:=⟨b,_,none⟩) a).trans (hc i hi).1,(World.cell?_of_block (a:=⟨b,_,none⟩) a).trans (hc i hi).2.1,(World.cell?_of_block (a:=⟨b,_,none⟩) a).trans (hc i hi).2.2⟩⟩⟩
end
section
variable {w w':World} {B sb lb db:Nat} {S S' T:Nat->Prop} {v:Value} {x:SSt}
theorem zEV (l:List Chg) (ao:Option Addr) (cap:Nat) (w:World) (h:SA w B sb db T x) (hg:fA x) (hd:bW w ao l) (hap:apart T ao l) (hl:l.length<=100) (hsz:∀ c∈l,c.key.size<=1000/\c.val.size<=1000):
  Calls Tryz.prog 131 #[.pointer (some ⟨sb,0,none⟩),.slice ao l.length cap] w fun e w'=>e=.returned (errV (comR x l).1)/\ActS w w' B sb db T (comR x l).2:=by
 have hfew:=cQ.few hg
 have h54:=cQ.n54 hg
 have hus:=cQ.us hg
 have hB:=h.blo
 have HCK:=hide (zFX l ao cap w hd (by omega) (fun c hc=>by have:=hsz c hc;unfold maxLen;omega))
 have HSA:=hide h
 have HGD:=hide hg
 have HHD0:=hide hd
 have HAP0:=hide hap
 have HSZ:=hide hsz
 clear h hg hd hap hsz
 by_cases h1:jW l=0
 ·obtain⟨lb0,S0,v0,hsk0,hT0⟩:=HSA.out
  have c0:=hsk0.hd.c0
  have c3:=hsk0.hd.c3
  have HSK0:=hide hsk0
  have hm:=hsk0.lk.dk.many
  have HD0:=hide h1
  have hbl:=zGt x.rows l
  have hl0:(l.length:Int)<=100:=by omega
  rw[h1,aR] at HCK
  clear hsk0 h1 hT0
  by_cases h2:40<(aK x.rows l).length∨x.d.now.length-50<l.length+1
  ·have ecom:comR x l=(8,x):=by
    have ef:comF x l=8:=by unfold comF;rw[if_neg (by rw[HD0.out];decide),if_pos h2]
    unfold comR
    rw[ef,if_pos (by decide)]
   rw[ecom]
   clear ecom
   have HE8:Hid (errV 8=.iface 114 (.int .i64 8)):=rfl
   have H2:=hide h2
   clear h2
   go_enter Tryz.func131,Tryz.ntmps131
   go_wp2_with fail
   refine HCK.out.mono ?_
   rintro e w1 ⟨rfl,hb1⟩
   have HB1:=hide hb1
   replace c0:=aA hb1 c0
   replace c3:=aA hb1 c3
   have HBH:=hide (lG x.rows l v0 ao cap B w1 (bQ HSK0.out.own hb1) (eA hb1 HHD0.out) (by omega) (by omega))
   clear hb1
   go_wp2_with fail
   refine HBH.out.mono ?_
   rintro e w2 ⟨v2,rfl,ho2,hb2⟩
   have HB2:=hide (aB HB1.out (Nat.le_refl _) hb2)
   have HO2:=hide (dJ ho2 HB1.out.size)
   replace c0:=aA hb2 c0
   replace c3:=aA hb2 c3
   obtain⟨va,vc,rfl⟩:∃ va vc,v2=.slice va (aK x.rows l).length vc:=by
    rcases aX ho2 with⟨e,e2⟩|⟨g,cap',e,_⟩
    ·exact⟨none,0,by rw[e,e2]⟩
    ·exact⟨_,cap',e⟩
   have HLS:=hide (iK w2 (HSK0.out.lk.dk.on HB2.out) (by omega))
   have HRM:=hide (qF w2 (HSA.out.on HB2.out))
   have HSTD:Hid (∀ n,aG w (w2.drewN n) B T T):=fun n=>.on hB (below_drewN HB2.out n)
   clear ho2 hb2 HBH HCK HB1
   generalize hn2e:(aK x.rows l).length=n2 at *
   have HNE:=hide hn2e
   clear hn2e
   have h2:=H2.out
   have HEND:=hide (HSA.out.stay HB2.out)
   by_cases h3:40<n2
   ·have h3':(40:Int)<(n2:Int):=by omega
    clear h2
    go_wp2
    go_ret
    exact⟨by rw[HE8.out];rfl,HEND.out⟩
   ·have h3':¬(40:Int)<(n2:Int):=by omega
    have h4':((x.d.now.length-50:Nat):Int)<(l.length:Int)+1:=by omega
    clear h2 H2
    generalize x.d.now.length-50=m at *
    go_wp2_with fail
    refine HLS.out.mono ?_
    rintro e w3 ⟨rfl,rfl⟩
    go_wp2
    go_ret
    exact⟨by rw[HE8.out];rfl,HEND.out⟩
  ·have HN2:Hid ((aK x.rows l).length<=40/\l.length+1<=x.d.now.length-50):=hide (by omega)
   have ef:comF x l=0:=by unfold comF;rw[if_neg (by rw[HD0.out];decide),if_neg h2]
   have ecom:comR x l=if (gO x l).1≠0 then gO x l else gM (gO x l).2 l (aK x.rows l):=by unfold comR;rw[if_neg (by rw[ef];decide)]
   rw[ecom]
   clear ecom ef h2
   have h3':¬(40:Int)<((aK x.rows l).length:Int):=by have:=HN2.out;omega
   have h4':¬((x.d.now.length-50:Nat):Int)<(l.length:Int)+1:=by have:=HN2.out;omega
   have hrI:((x.d.now.length-50-x.used:Nat):Int)<=200:=by omega
   by_cases hroom:x.d.now.length-50-x.used<l.length+1
   ·have hroom':((x.d.now.length-50-x.used:Nat):Int)<(l.length:Int)+1:=by omega
    have e1:gO x l=chkR x:=if_pos hroom
    rw[e1]
    clear e1 hroom
    have HCP:Hid (∀ W,Below w.heap.size w W->Calls Tryz.prog 73 #[.pointer (some ⟨sb,0,none⟩)] W fun e w'=>e=.returned (errV (chkR x).1)/\ActS W w' B sb db T (chkR x).2):=fun W hb=>zDC W (HSA.out.on hb) HGD.out
    by_cases hc0:(chkR x).1=0
    ·rw[if_neg (by rw[hc0];decide)]
     rw[hc0,aR] at HCP
     clear hc0
     generalize (chkR x).2=Y at *
     obtain⟨R,hRe⟩:∃ R,addR 50 (Y.d.now.length-50) Y.first Y.used Y.d l=R:=⟨_,rfl⟩
     have HRE:=hide hRe
     have HAL:Hid (R.2.2.now.length=Y.d.now.length):=by rw[<-hRe];exact zCC 50 (Y.d.now.length-50) Y.first Y.used Y.d l
     unfold gM
     rw[hRe]
     obtain⟨RW,hRW⟩:∃ RW,RW=if R.1=0 then aK x.rows l else Y.rows:=⟨_,rfl⟩
     rw[<-hRW]
     have HRW:=hide hRW
     clear hRe hRW
     go_enter Tryz.func131,Tryz.ntmps131
     go_wp2_with fail
     refine HCK.out.mono ?_
     rintro e w1 ⟨rfl,hb1⟩
     have HB1:=hide hb1
     replace c0:=aA hb1 c0
     replace c3:=aA hb1 c3
     have HBH:=hide (lG x.rows l v0 ao cap B w1 (bQ HSK0.out.own hb1) (eA hb1 HHD0.out) (by omega) (by omega))
     clear hb1
     go_wp2_with fail
     refine HBH.out.mono ?_
     rintro e w2 ⟨v2,rfl,ho2,hb2⟩
     have HB2:=hide (aB HB1.out (Nat.le_refl _) hb2)
     have HO2:=hide (dJ ho2 HB1.out.size)
     replace c0:=aA hb2 c0
     replace c3:=aA hb2 c3
     obtain⟨va,vc,rfl⟩:∃ va vc,v2=.slice va (aK x.rows l).length vc:=by
      rcases aX ho2 with⟨e,e2⟩|⟨g,cap',e,_⟩
      ·exact⟨none,0,by rw[e,e2]⟩
      ·exact⟨_,cap',e⟩
     have HLS:=hide (iK w2 (HSK0.out.lk.dk.on HB2.out) (by omega))
     have HRM:=hide (qF w2 (HSA.out.on HB2.out))
     have HSTD:Hid (∀ n,aG w (w2.drewN n) B T T):=fun n=>.on hB (below_drewN HB2.out n)
     clear ho2 hb2 HBH HCK HB1
     generalize hn2e:(aK x.rows l).length=n2 at *
     have HNE:=hide hn2e
     clear hn2e
     generalize hrme:x.d.now.length-50-x.used=rm at *
     clear hrme
     generalize hme:x.d.now.length-50=m at *
     have HME:=hide hme
     clear hme
     go_wp2_with fail
     refine HLS.out.mono ?_
     rintro e w3 ⟨rfl,rfl⟩
     go_wp2_with fail
     refine HRM.out.mono ?_
     rintro e w4 ⟨rfl,nq,rfl⟩
     go_wp2_with fail
     refine(HCP.out _ (below_drewN HB2.out nq)).mono ?_
     rintro e W ⟨rfl,TY,hsa5,hst5⟩
     have hst6:=(HSTD.out nq).trans hst5
     have HHD:=hide (HAP0.out.step HHD0.out hst6).2
     have HA:=hide hsa5
     have HSTW:=hide hst6
     have hfar5:∀ k,Value.ownBlock (.slice va n2 vc)=some k->W.heap[k]?=w3.heap[k]?/\¬TY k:=fun k e=>hst5.far k (World.ownsRow.lt HO2.out k e).2 (fun e2=>by have h1:=(World.ownsRow.lt HO2.out k e).1;have h2:=HSA.out.lt e2;omega)
     have HOW:Hid (bO W w.heap.size (.slice va n2 vc) (aK x.rows l)):=aI HO2.out fun k e=>(hfar5 k e).1
     have HAP:Hid (∀ k,Value.ownBlock (.slice va n2 vc)=some k->¬TY k):=fun k e=>(hfar5 k e).2
     clear hsa5 hst5 hst6 hfar5 HCP HRM HLS HO2 c0 c3
     obtain⟨lb5,S5,v5,hsk5,hT5⟩:=HA.out
     have g1:=hsk5.hd.c1
     have HSK5:=hide hsk5
     have HT5:=hide hT5
     have HAD:Hid (Calls Tryz.prog 194 #[.pointer (some ⟨lb5,0,none⟩),.slice ao l.length cap] W fun e w'=>e=.returned (errV R.1)/\pB W w' B lb5 db S5 50 (Y.d.now.length-50) Y.first R.2.1 R.2.2):=by
      have h1:=zDn l ao cap W hsk5.lk HHD.out HSZ.out (by omega)
      rw[HRE.out] at h1
      exact h1
     clear hsk5 hT5
     by_cases hr0:R.1=0
     ·rw[hr0,aR] at HAD
      have HR0:=hide hr0
      clear hr0
      go_wp2_with fail
      refine HAD.out.mono ?_
      rintro e w8 ⟨rfl,S8,hlk8,hst8⟩
      obtain⟨hsk8,hsv8⟩:=HSK5.out.added hlk8 hst8 HAL.out
      have q3:=hsk8.hd.c3
      have qf:=hsk8.hd.soft
      have hown8:bO w8 w.heap.size (.slice va n2 vc) (aK x.rows l)/\∀ k,Value.ownBlock (.slice va n2 vc)=some k->¬inS sb lb5 v5 S8 k:=by
       have hap:=HAP.out
       rw[HT5.out] at hap
       exact⟨aI HOW.out fun k e=>(hsv8.far k (World.ownsRow.lt HOW.out k e).2 (hap k e)).1,fun k e=>(hsv8.far k (World.ownsRow.lt HOW.out k e).2 (hap k e)).2⟩
      have hfin:=hsk8.finish (by have h1:=HSTW.out;rw[HT5.out] at h1;exact h1.trans hsv8) hB hown8.1 hown8.2
      have HFIN:=hide hfin
      clear hlk8 hst8 hsk8 hsv8 hown8 hfin
      go_wp2
      go_ret
      rw[HR0.out,HRW.out,if_pos HR0.out]
      exact⟨rfl,HFIN.out⟩
     ·have HER:Hid (errV R.1=.iface 114 (.int .i64 R.1)):=aP hr0
      rw[HER.out] at HAD
      have HR0:=hide hr0
      clear hr0
      go_wp2_with fail
      refine HAD.out.mono ?_
      rintro e w8 ⟨rfl,S8,hlk8,hst8⟩
      obtain⟨hsk8,hsv8⟩:=HSK5.out.added hlk8 hst8 HAL.out
      have HSK8:=hide hsk8
      have HSV8:=hide hsv8
      clear hlk8 hst8 hsk8 hsv8
      go_wp2
      go_ret
      have h1:=HSTW.out
      rw[HT5.out] at h1
      rw[HRW.out,if_neg HR0.out]
      exact⟨by rw[HER.out];rfl,_,⟨lb5,S8,v5,HSK8.out,rfl⟩,h1.trans HSV8.out⟩
    ·have HER:Hid (errV (chkR x).1=.iface 114 (.int .i64 (chkR x).1)):=aP hc0
     rw[if_pos hc0]
     rw[HER.out] at HCP
     clear hc0
     go_enter Tryz.func131,Tryz.ntmps131
     go_wp2_with fail
     refine HCK.out.mono ?_
     rintro e w1 ⟨rfl,hb1⟩
     have HB1:=hide hb1
     replace c0:=aA hb1 c0
     replace c3:=aA hb1 c3
     have HBH:=hide (lG x.rows l v0 ao cap B w1 (bQ HSK0.out.own hb1) (eA hb1 HHD0.out) (by omega) (by omega))
     clear hb1
     go_wp2_with fail
     refine HBH.out.mono ?_
     rintro e w2 ⟨v2,rfl,ho2,hb2⟩
     have HB2:=hide (aB HB1.out (Nat.le_refl _) hb2)
     have HO2:=hide (dJ ho2 HB1.out.size)
     replace c0:=aA hb2 c0
     replace c3:=aA hb2 c3
     obtain⟨va,vc,rfl⟩:∃ va vc,v2=.slice va (aK x.rows l).length vc:=by
      rcases aX ho2 with⟨e,e2⟩|⟨g,cap',e,_⟩
      ·exact⟨none,0,by rw[e,e2]⟩
      ·exact⟨_,cap',e⟩
     have HLS:=hide (iK w2 (HSK0.out.lk.dk.on HB2.out) (by omega))
     have HRM:=hide (qF w2 (HSA.out.on HB2.out))
     have HSTD:Hid (∀ n,aG w (w2.drewN n) B T T):=fun n=>.on hB (below_drewN HB2.out n)
     clear ho2 hb2 HBH HCK HB1
     generalize hn2e:(aK x.rows l).length=n2 at *
     have HNE:=hide hn2e
     clear hn2e
     generalize hrme:x.d.now.length-50-x.used=rm at *
     clear hrme
     generalize hme:x.d.now.length-50=m at *
     have HME:=hide hme
     clear hme
     go_wp2_with fail
     refine HLS.out.mono ?_
     rintro e w3 ⟨rfl,rfl⟩
     go_wp2_with fail
     refine HRM.out.mono ?_
     rintro e w4 ⟨rfl,nq,rfl⟩
     go_wp2_with fail
     refine(HCP.out _ (below_drewN HB2.out nq)).mono ?_
     rintro e W ⟨rfl,TY,hsa5,hst5⟩
     have HST6:=hide ((HSTD.out nq).trans hst5)
     have HA:=hide hsa5
     clear hsa5 hst5
     go_wp2
     go_ret
     exact⟨by rw[HER.out];rfl,TY,HA.out,HST6.out⟩
   ·have hroom':¬((x.d.now.length-50-x.used:Nat):Int)<(l.length:Int)+1:=by omega
    have e1:gO x l=(0,x):=if_neg hroom
    rw[e1,if_neg (by show ¬0≠0;decide)]
    clear e1 hroom
    show Calls _ _ _ _ fun e w'=>e=.returned (errV (gM x l (aK x.rows l)).1)/\ActS w w' B sb db T (gM x l (aK x.rows l)).2
    obtain⟨R,hRe⟩:∃ R,addR 50 (x.d.now.length-50) x.first x.used x.d l=R:=⟨_,rfl⟩
    have HRE:=hide hRe
    have HAL:Hid (R.2.2.now.length=x.d.now.length):=by rw[<-hRe];exact zCC 50 (x.d.now.length-50) x.first x.used x.d l
    unfold gM
    rw[hRe]
    obtain⟨RW,hRW⟩:∃ RW,RW=if R.1=0 then aK x.rows l else x.rows:=⟨_,rfl⟩
    rw[<-hRW]
    have HRW:=hide hRW
    clear hRe hRW
    go_enter Tryz.func131,Tryz.ntmps131
    go_wp2_with fail
    refine HCK.out.mono ?_
    rintro e w1 ⟨rfl,hb1⟩
    have HB1:=hide hb1
    replace c0:=aA hb1 c0
    replace c3:=aA hb1 c3
    have HBH:=hide (lG x.rows l v0 ao cap B w1 (bQ HSK0.out.own hb1) (eA hb1 HHD0.out) (by omega) (by omega))
    clear hb1
    go_wp2_with fail
    refine HBH.out.mono ?_
    rintro e w2 ⟨v2,rfl,ho2,hb2⟩
    have HB2:=hide (aB HB1.out (Nat.le_refl _) hb2)
    have HO2:=hide (dJ ho2 HB1.out.size)
    replace c0:=aA hb2 c0
    replace c3:=aA hb2 c3
    obtain⟨va,vc,rfl⟩:∃ va vc,v2=.slice va (aK x.rows l).length vc:=by
     rcases aX ho2 with⟨e,e2⟩|⟨g,cap',e,_⟩
     ·exact⟨none,0,by rw[e,e2]⟩
     ·exact⟨_,cap',e⟩
    have HLS:=hide (iK w2 (HSK0.out.lk.dk.on HB2.out) (by omega))
    have HRM:=hide (qF w2 (HSA.out.on HB2.out))
    have HSTD:Hid (∀ n,aG w (w2.drewN n) B T T):=fun n=>.on hB (below_drewN HB2.out n)
    clear ho2 hb2 HBH HCK HB1
    generalize hn2e:(aK x.rows l).length=n2 at *
    have HNE:=hide hn2e
    clear hn2e
    generalize hrme:x.d.now.length-50-x.used=rm at *
    clear hrme
    generalize hme:x.d.now.length-50=m at *
    have HME:=hide hme
    clear hme
    go_wp2_with fail
    refine HLS.out.mono ?_
    rintro e w3 ⟨rfl,rfl⟩
    go_wp2_with fail
    refine HRM.out.mono ?_
    rintro e w4 ⟨rfl,nq,rfl⟩
    have HHD:=hide (eA (below_drewN HB2.out nq) HHD0.out)
    have HA:=hide (HSA.out.on (below_drewN HB2.out nq))
    have HSTW:=hide (HSTD.out nq)
    have HOW:Hid (bO (w3.drewN nq) w.heap.size (.slice va n2 vc) (aK x.rows l)):=HO2.out
    have HAP:Hid (∀ k,Value.ownBlock (.slice va n2 vc)=some k->¬T k):=fun k e e2=>by have h1:=(World.ownsRow.lt HO2.out k e).1;have h2:=HSA.out.lt e2;omega
    clear HRM HLS HO2 c0 c3 HSTD
    generalize w3.drewN nq=W at *
    obtain⟨lb5,S5,v5,hsk5,hT5⟩:=HA.out
    have g1:=hsk5.hd.c1
    have HSK5:=hide hsk5
    have HT5:=hide hT5
    have HAD:Hid (Calls Tryz.prog 194 #[.pointer (some ⟨lb5,0,none⟩),.slice ao l.length cap] W fun e w'=>e=.returned (errV R.1)/\pB W w' B lb5 db S5 50 m x.first R.2.1 R.2.2):=by
     have h1:=zDn l ao cap W hsk5.lk HHD.out HSZ.out (by omega)
     rw[HME.out] at h1
     rw[HRE.out] at h1
     exact h1
    clear hsk5 hT5
    by_cases hr0:R.1=0
    ·rw[hr0,aR] at HAD
     have HR0:=hide hr0
     clear hr0
     go_wp2_with fail
     refine HAD.out.mono ?_
     rintro e w8 ⟨rfl,S8,hlk8,hst8⟩
     rw[<-HME.out] at hlk8
     obtain⟨hsk8,hsv8⟩:=HSK5.out.added hlk8 hst8 HAL.out
     have q3:=hsk8.hd.c3
     have qf:=hsk8.hd.soft
     have hown8:bO w8 w.heap.size (.slice va n2 vc) (aK x.rows l)/\∀ k,Value.ownBlock (.slice va n2 vc)=some k->¬inS sb lb5 v5 S8 k:=by
      have hap:=HAP.out
      rw[HT5.out] at hap
      exact⟨aI HOW.out fun k e=>(hsv8.far k (World.ownsRow.lt HOW.out k e).2 (hap k e)).1,fun k e=>(hsv8.far k (World.ownsRow.lt HOW.out k e).2 (hap k e)).2⟩
     have hfin:=hsk8.finish (by have h1:=HSTW.out;exact aG.trans (by have h2:=h1;rw[<-HT5.out];exact h2) hsv8) hB hown8.1 hown8.2
     have HFIN:=hide hfin
     clear hlk8 hst8 hsk8 hsv8 hown8 hfin
     go_wp2
     go_ret
     rw[HR0.out,HRW.out,if_pos HR0.out]
     exact⟨rfl,HFIN.out⟩
    ·have HER:Hid (errV R.1=.iface 114 (.int .i64 R.1)):=aP hr0
     rw[HER.out] at HAD
     have HR0:=hide hr0
     clear hr0
     go_wp2_with fail
     refine HAD.out.mono ?_
     rintro e w8 ⟨rfl,S8,hlk8,hst8⟩
     rw[<-HME.out] at hlk8
     obtain⟨hsk8,hsv8⟩:=HSK5.out.added hlk8 hst8 HAL.out
     have HSK8:=hide hsk8
     have HSV8:=hide hsv8
     clear hlk8 hst8 hsk8 hsv8
     go_wp2
     go_ret
     have h1:=HSTW.out
     replace h1:aG w W B T (inS sb lb5 v5 S5):=by rw[<-HT5.out];exact h1
     rw[HRW.out,if_neg HR0.out]
     exact⟨by rw[HER.out];rfl,_,⟨lb5,S8,v5,HSK8.out,rfl⟩,h1.trans HSV8.out⟩
 ·have ecom:comR x l=(jW l,x):=by
   have ef:comF x l=jW l:=by unfold comF;rw[if_pos h1]
   unfold comR
   rw[ef,if_pos h1]
  rw[ecom]
  have HER:Hid (errV (jW l)=.iface 114 (.int .i64 (jW l))):=aP h1
  rw[HER.out] at HCK
  clear h1 ecom
  go_enter Tryz.func131,Tryz.ntmps131
  go_wp2_with fail
  refine HCK.out.mono ?_
  rintro e w1 ⟨rfl,hb1⟩
  have HEND:=hide (HSA.out.stay hb1)
  clear hb1
  go_wp2
  go_ret
  exact⟨by rw[HER.out];rfl,HEND.out⟩
end
section
variable {w w':World} {B sb lb db:Nat} {S S' T:Nat->Prop} {v:Value} {x:SSt}
theorem SA.low (h:SA w B sb db T x) {k:Nat} (hk:T k):B<=k:=by
 obtain⟨lb,S,v,h1,rfl⟩:=h
 rcases hk with rfl|rfl|hk|hk
 ·exact h1.lo
 ·exact h1.lk.lo
 ·exact(World.ownsRow.lt h1.own k hk).1
 ·exact h1.lk.dk.low hk
theorem SA.kept (h:SA w B sb db T x) (hs:w.heap.size<=w'.heap.size) (hk:∀ k,T k->w'.heap[k]?=w.heap[k]?):SA w' B sb db T x:=by
 obtain⟨lb,S,v,h1,rfl⟩:=h
 refine⟨lb,S,v,⟨h1.hd.kept (hk sb (.inl rfl)),⟨h1.lk.dk.kept hs fun k e=>hk k (.inr (.inr (.inr e))),h1.lk.hd.kept (hk lb (.inr (.inl rfl))),h1.lk.nl,h1.lk.lo,h1.lk.us,h1.lk.fit,h1.lk.f1⟩,aI h1.own fun k e=>hk k (.inr (.inr (.inl e))),h1.ns,h1.nl,h1.nv,h1.lo⟩,rfl⟩
theorem SNew.sa {w0:World} (h:SNew w0 w' B sb db S x):∃ T,SA w' B sb db T x/\∀ k,T k->S k∨w0.heap.size<=k:=by
 obtain⟨lb,v,h1,h2,h3⟩:=h.ex
 refine⟨_,⟨lb,S,v,h1,rfl⟩,fun k e=>?_⟩
 rcases e with rfl|rfl|e|e
 ·exact .inr h.new
 ·exact .inr h2
 ·exact .inr (h3 k e)
 ·exact .inl e
end
end
section
open Go.RowKit Go.Joins
def sQ (p:aU×Value):List Value:=[.int .i64 p.1.n,p.2]
theorem qX (p:aU×Value):(sQ p).length=2:=rfl
def rowD (dv:List (aU×Value)):List Value:=dv.flatMap sQ
structure bP (w:World) (B hb:Nat) (Xc:Nat->Option Value) (v:Value) (dv:List (aU×Value)):Prop where
 cell:w.cell? ⟨hb,2,none⟩=some v
 soft:w.frozen? ⟨hb,2,none⟩=false
 lo:B<=hb
 own:w.ownsRow B 207 2 v dv.length (rowD dv)
 keys:∀ p∈dv,w.ownsRow B 9 1 p.2 p.1.keys.length (p.1.keys.map Value.string)
 off:v.ownBlock≠some hb
 offk:∀ p∈dv,p.2.ownBlock≠some hb
 apart:∀ p∈dv,p.2.ownBlock=none∨p.2.ownBlock≠v.ownBlock
 pair:dv.Pairwise fun p q=>p.2.ownBlock=none∨p.2.ownBlock≠q.2.ownBlock
 rest:∀ j,(j≠2->w.cell? ⟨hb,j,none⟩=Xc j)/\w.frozen? ⟨hb,j,none⟩=false
theorem bP.lt {w:World} {B hb:Nat} {Xc:Nat->Option Value} {v:Value} {dv:List (aU×Value)} (h:bP w B hb Xc v dv):hb<w.heap.size:=World.block_lt_of_cell? w ⟨hb,2,none⟩ h.cell
theorem bP.on {w w':World} {B hb:Nat} {Xc:Nat->Option Value} {v:Value} {dv:List (aU×Value)} (h:bP w B hb Xc v dv) (hb':Below w.heap.size w w'):bP w' B hb Xc v dv where
 cell:=aA hb' h.cell
 soft:=aE hb' h.lt h.soft
 lo:=h.lo
 own:=bQ h.own hb'
 keys:=fun p hp=>bQ (h.keys p hp) hb'
 off:=h.off
 offk:=h.offk
 apart:=h.apart
 pair:=h.pair
 rest:=fun j=>⟨fun hj=>(World.cell?_of_block (w:=w) (hb'.block hb h.lt)).trans ((h.rest j).1 hj),(World.frozen?_of_block (w:=w) (hb'.block hb h.lt)).trans (h.rest j).2⟩
theorem bP.form {w:World} {B hb:Nat} {Xc:Nat->Option Value} {v:Value} {dv:List (aU×Value)} (h:bP w B hb Xc v dv):
  (v=.slice none 0 0/\dv=[])∨∃ g cap,v=.slice (some ⟨g,0,none⟩) dv.length cap/\B<=g/\g≠hb/\dv.length<=cap/\cap<=9223372036854775807/\
   ∀ i (hi:i<dv.length),w.cell? ⟨g,i*2,none⟩=some (.int .i64 dv[i].1.n)/\w.cell? ⟨g,i*2+1,none⟩=some dv[i].2/\w.frozen? ⟨g,i*2+1,none⟩=false:=by
 rcases aX h.own with⟨hv,h0⟩|⟨g,cap,hv,h1,h2,h3,h4⟩
 ·exact .inl ⟨hv,List.length_eq_zero_iff.1 h0⟩
 ·refine .inr ⟨g,cap,hv,h1,fun e=>h.off (by rw[hv,e];rfl),h3,by unfold maxLen at h4;omega,fun i hi=>?_⟩
  have ho:=h.own
  rw[hv] at ho
  have a:=dU qX ho i 0 hi (by omega)
  have b:=dU qX ho i 1 hi (by omega)
  exact⟨a.1,b.1,b.2⟩
theorem zHo {w:World} {B:Nat} {v:Value} {ks:List ByteArray} (h:w.ownsRow B 9 1 v ks.length (ks.map Value.string)):
  (v=.slice none 0 0/\ks=[])∨∃ g cap,v=.slice (some ⟨g,0,none⟩) ks.length cap/\ks.length<=cap/\cap<=9223372036854775807/\∀ i (hi:i<ks.length),w.cell? ⟨g,i,none⟩=some (.string ks[i]):=by
 rcases aX h with⟨hv,h0⟩|⟨g,cap,hv,h1,h2,h3,h4⟩
 ·exact .inl ⟨hv,List.length_eq_zero_iff.1 h0⟩
 ·refine .inr ⟨g,cap,hv,h3,by unfold maxLen at h4;omega,fun i hi=>?_⟩
  rw[hv] at h
  have:=h.cellAt i (by omega)
  rw[this]
  simp[hi]
def inH (hb:Nat) (v:Value) (dv:List (aU×Value)) (k:Nat):Prop:=k=hb∨v.ownBlock=some k∨∃ p∈dv,p.2.ownBlock=some k
theorem zM7 {w:World} {B hb:Nat} {Xc:Nat->Option Value} {v:Value} {dv:List (aU×Value)} (h:bP w B hb Xc v dv) {k:Nat} (hk:inH hb v dv k):k<w.heap.size:=by
 rcases hk with rfl|e|⟨p,hp,e⟩
 ·exact h.lt
 ·exact(h.own.lt k e).2
 ·exact((h.keys p hp).lt k e).2
theorem bP.kept {w w':World} {B hb:Nat} {Xc:Nat->Option Value} {v:Value} {dv:List (aU×Value)} (h:bP w B hb Xc v dv) (hk:∀ k,inH hb v dv k->w'.heap[k]?=w.heap[k]?):bP w' B hb Xc v dv where
 cell:=(World.cell?_of_block (w:=w) (hk hb (.inl rfl))).trans h.cell
 soft:=(World.frozen?_of_block (w:=w) (hk hb (.inl rfl))).trans h.soft
 lo:=h.lo
 own:=aI h.own fun k e=>hk k (.inr (.inl e))
 keys:=fun p hp=>aI (h.keys p hp) fun k e=>hk k (.inr (.inr ⟨p,hp,e⟩))
 off:=h.off
 offk:=h.offk
 apart:=h.apart
 pair:=h.pair
 rest:=fun j=>⟨fun hj=>(World.cell?_of_block (w:=w) (hk hb (.inl rfl))).trans ((h.rest j).1 hj),(World.frozen?_of_block (w:=w) (hk hb (.inl rfl))).trans (h.rest j).2⟩
end
end Go.Proofs.YtnboipekkahmnaaGreatDoor
