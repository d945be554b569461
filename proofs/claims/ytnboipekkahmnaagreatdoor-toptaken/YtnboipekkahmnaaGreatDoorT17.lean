import Derived.Test.YtnboipekkahmnaaGreatDoorT16
set_option maxHeartbeats 8000000
set_option maxRecDepth 100000
namespace Go.Proofs.YtnboipekkahmnaaGreatDoor
section
open Go.RowKit Go.Joins
attribute [local go_sem ↓] Go.wp_at_zero Go.wp_at_succ
section
variable {w w':World} {B sb lb db:Nat} {S S' T:Nat->Prop} {v:Value} {x:SSt}
theorem SK.step (h:SK w B sb lb db S v x) {s':DSt} (hk:DK w' B db S' s') (hs:aG w w' B S S') (hl:s'.now.length=x.d.now.length):SK w' B sb lb db S' v { x with d:=s' }:=by
  have f1:=hs.far sb h.hd.lt h.ns
  refine⟨h.hd.kept f1.1,?_,aI h.own fun k e=>(hs.far k (World.ownsRow.lt h.own k e).2 (h.nv k e).2.2).1,f1.2,h.nl,fun k e=>⟨(h.nv k e).1,(h.nv k e).2.1,(hs.far k (World.ownsRow.lt h.own k e).2 (h.nv k e).2.2).2⟩,h.lo⟩
  have:=h.lk.step hk hs hl
  show LK w' B lb db S' 50 (s'.now.length-50) x.first x.used s'
  rw[hl]
  exact this
theorem zMG {S1 S2:Nat->Prop} (hs:aG w w' B S1 S2):aG w w' B (inS sb lb v S1) (inS sb lb v S2):=
  ⟨hs.bel,fun j hj hn=>⟨(hs.far j hj fun e=>hn (.inr (.inr (.inr e)))).1,fun e=>e.elim (fun e=>hn (.inl e)) fun e=>e.elim (fun e=>hn (.inr (.inl e))) fun e=>e.elim (fun e=>hn (.inr (.inr (.inl e)))) (hs.far j hj fun e=>hn (.inr (.inr (.inr e)))).2⟩⟩
theorem SK.turn {W1 W2:World} (h:SK w B sb lb db S v x) {s':DSt} {S2:Nat->Prop} {lb' area' first':Nat} {dv:Value} {ds:List (List Chg)} (hk:DK W1 B db S2 s') (hs:aG w W1 B S S2) (hl:s'.now.length=x.d.now.length) (ho:mC W1 W2 lb' db 50 (s'.now.length-50) first' dv ds 0) (hn:50<=s'.now.length) (hf:1<=first'/\first'<=2):
    ActS w ((W2.setCell ⟨sb,1,none⟩ (.pointer (some ⟨lb',0,none⟩))).setCell ⟨sb,2,none⟩ (.int .i64 (area':Int))) B sb db (inS sb lb v S) ⟨s',area',first',0,x.rows⟩:=by
  have h1:=h.step hk hs hl
  have h2:=h1.hd.kept (ho.bel.block sb h1.hd.lt)
  have hsl:sb<W2.heap.size:=h2.lt
  have hnew:=ho.new
  have hs1:=h1.hd.lt
  have hk2:∀ k,k≠sb->((W2.setCell ⟨sb,1,none⟩ (.pointer (some ⟨lb',0,none⟩))).setCell ⟨sb,2,none⟩ (.int .i64 (area':Int))).heap[k]?=W2.heap[k]?:=fun k hn=>(Below.heap_setCell _ _ _ _ hn).trans (Below.heap_setCell _ _ _ _ hn)
  have hown2:=bQ h1.own ho.bel
  have hne:lb'≠sb:=by omega
  have hvb:∀ k,v.ownBlock=some k->k≠lb':=fun k e=>by have:=(World.ownsRow.lt h1.own k e).2;omega
  have hnS:¬S2 lb':=fun e=>by have:=hk.lt e;omega
  refine⟨_,⟨lb',S2,v,⟨⟨?_,?_,?_,?_,fun j=>by rw[World.frozen?_setCell,World.frozen?_setCell];exact h2.soft j⟩,⟨(hk.on ho.bel).kept (by simp) fun k e=>hk2 k fun e2=>h1.ns (e2▸e),ho.hd.kept (hk2 lb' hne),hnS,Nat.le_trans hk.lo hnew,Nat.zero_le _,by show 50+(s'.now.length-50)<=s'.now.length;omega,hf.1,by show first'<=1500000;omega⟩,aI hown2 fun k e=>hk2 k (h.nv k e).1,h1.ns,hne.symm,fun k e=>⟨(h.nv k e).1,hvb k e,(h1.nv k e).2.2⟩,h.lo⟩,rfl⟩,?_,fun j hj hnj=>?_⟩
  · exact(World.cell?_setCell_other _ _ _ _ (by simp)).trans ((World.cell?_setCell_other _ _ _ _ (by simp)).trans h2.c0)
  · exact(World.cell?_setCell_other _ _ _ _ (by simp)).trans (World.cell?_setCell_same _ _ _ h2.c1)
  · exact World.cell?_setCell_same _ _ _ ((World.cell?_setCell_other _ _ _ _ (by simp)).trans h2.c2)
  · exact(World.cell?_setCell_other _ _ _ _ (by simp)).trans ((World.cell?_setCell_other _ _ _ _ (by simp)).trans h2.c3)
  · exact((hs.bel.trans (ho.bel.mono hk.lo)).setCell (p:=⟨sb,1,none⟩) h.lo _).setCell (p:=⟨sb,2,none⟩) h.lo _
  · have n1:¬S j:=fun e=>hnj (.inr (.inr (.inr e)))
    have n2:j≠sb:=fun e=>hnj (.inl e)
    have n3:¬v.ownBlock=some j:=fun e=>hnj (.inr (.inr (.inl e)))
    have f1:=hs.far j hj n1
    have hj1:=Nat.lt_of_lt_of_le hj hs.bel.size
    refine⟨(hk2 j n2).trans ((ho.bel.block j hj1).trans f1.1),fun e=>?_⟩
    rcases e with e|e|e|e
    · exact n2 e
    · omega
    · exact n3 e
    · exact f1.2 e
structure CPX (w W:World) (B db rb:Nat) (S:Nat->Prop) (s:DSt) (x y z:Int):Prop where
  ex:∃ S2,DK W B db S2 s/\aG w W B S S2
  ge:w.heap.size<=rb
  k0:W.cell? ⟨rb,0,none⟩=some (.int .i64 x)
  k1:W.cell? ⟨rb,1,none⟩=some (.int .i64 y)
  k2:W.cell? ⟨rb,2,none⟩=some (.int .i64 z)
theorem CPX.ofA {w7:World} {s:DSt} {a b c:Int} (hk:DK w7 B db S' s) (hs:aG w.drew w7 B S S') (hB:B<=w.heap.size):CPX w (w7.alloc (Obj.cells #[.int IntKind.i64 a,.int IntKind.i64 b,.int IntKind.i64 c] 202)) B db w7.heap.size S s a b c:=by
  have hd:aG w w.drew B S S:=.on hB (Below.refl _ w).drew
  exact⟨⟨S',hk.on (below_alloc1 _ _),(hd.trans hs).trans (.on hk.lo (below_alloc1 _ _))⟩,hs.bel.size,aC _ _ _ 0,aC _ _ _ 1,aC _ _ _ 2⟩
theorem CPX.ofB {w7:World} {s:DSt} {a b c:Int} (hk:DK w7 B db S' s) (hs:aG (w.alloc (Obj.cells #[.int IntKind.i64 0,.int IntKind.i64 0,.int IntKind.i64 0] 202)).drew w7 B S S') (hB:B<=w.heap.size) (hn:¬S w.heap.size) (t0:w7.cell? ⟨w.heap.size,0,none⟩=some (.int .i64 0)) (t1:w7.cell? ⟨w.heap.size,1,none⟩=some (.int .i64 0)) (t2:w7.cell? ⟨w.heap.size,2,none⟩=some (.int .i64 0)):
    CPX w (((w7.setCell ⟨w.heap.size,0,none⟩ (.int .i64 a)).setCell ⟨w.heap.size,1,none⟩ (.int .i64 b)).setCell ⟨w.heap.size,2,none⟩ (.int .i64 c)) B db w.heap.size S s a b c:=by
  have hd:aG w (w.alloc (Obj.cells #[.int IntKind.i64 0,.int IntKind.i64 0,.int IntKind.i64 0] 202)).drew B S S:=.on hB (below_alloc1 w _).drew
  have hz:w.heap.size<(w.alloc (Obj.cells #[.int IntKind.i64 0,.int IntKind.i64 0,.int IntKind.i64 0] 202)).drew.heap.size:=by simp
  have fn:=hs.far w.heap.size hz hn
  have hk3:∀ k,k≠w.heap.size->(((w7.setCell ⟨w.heap.size,0,none⟩ (.int .i64 a)).setCell ⟨w.heap.size,1,none⟩ (.int .i64 b)).setCell ⟨w.heap.size,2,none⟩ (.int .i64 c)).heap[k]?=w7.heap[k]?:=fun k hn=>(Below.heap_setCell _ _ _ _ hn).trans ((Below.heap_setCell _ _ _ _ hn).trans (Below.heap_setCell _ _ _ _ hn))
  obtain⟨k0,k1,k2⟩:=keep3' (x:=.int .i64 a) (y:=.int .i64 b) (z:=.int .i64 c) t0 t1 t2
  have hst:=hd.trans hs
  refine⟨⟨S',hk.kept (by simp) fun k e=>hk3 k fun e2=>fn.2 (e2▸e),⟨((hst.bel.setCell (p:=⟨w.heap.size,0,none⟩) hB _).setCell (p:=⟨w.heap.size,1,none⟩) hB _).setCell (p:=⟨w.heap.size,2,none⟩) hB _,fun j hj hnj=>?_⟩⟩,Nat.le_refl _,k0,k1,k2⟩
  obtain⟨f1,f2⟩:=hst.far j hj hnj
  exact⟨(hk3 j (by omega)).trans f1,f2⟩
theorem zHP {W:World} {b b':Nat} {x y z a0 a1 a2:Value} (hne:b'≠b) (h:W.cell? ⟨b',0,none⟩=some a0/\W.cell? ⟨b',2,none⟩=some a1/\W.cell? ⟨b',3,none⟩=some a2):
    (((W.setCell ⟨b,0,none⟩ x).setCell ⟨b,1,none⟩ y).setCell ⟨b,2,none⟩ z).cell? ⟨b',0,none⟩=some a0/\(((W.setCell ⟨b,0,none⟩ x).setCell ⟨b,1,none⟩ y).setCell ⟨b,2,none⟩ z).cell? ⟨b',2,none⟩=some a1/\(((W.setCell ⟨b,0,none⟩ x).setCell ⟨b,1,none⟩ y).setCell ⟨b,2,none⟩ z).cell? ⟨b',3,none⟩=some a2:=by
  have hk:∀ k,k≠b->(((W.setCell ⟨b,0,none⟩ x).setCell ⟨b,1,none⟩ y).setCell ⟨b,2,none⟩ z).heap[k]?=W.heap[k]?:=fun k hn=>(Below.heap_setCell _ _ _ _ hn).trans ((Below.heap_setCell _ _ _ _ hn).trans (Below.heap_setCell _ _ _ _ hn))
  exact⟨(World.cell?_of_block (a:=⟨b',0,none⟩) (hk b' hne)).trans h.1,(World.cell?_of_block (a:=⟨b',2,none⟩) (hk b' hne)).trans h.2.1,(World.cell?_of_block (a:=⟨b',3,none⟩) (hk b' hne)).trans h.2.2⟩
theorem zDC (w:World) (h:SA w B sb db T x) (hg:fA x):Calls Tryz.prog 73 #[.pointer (some ⟨sb,0,none⟩)] w fun e w'=>e=.returned (errV (chkR x).1)/\ActS w w' B sb db T (chkR x).2:=by
  obtain⟨lb,S,v,hsk,rfl⟩:=h
  have ha1:=cQ.a1 hg
  have h54:=cQ.n54 hg
  have hfew:=cQ.few hg
  have hB:=hsk.lk.dk.lo
  have c0:=hsk.hd.c0
  have c2:=hsk.hd.c2
  have c3:=hsk.hd.c3
  have hsl:=hsk.hd.lt
  obtain⟨va,vc,hv,hh⟩:∃ va vc,v=.slice va x.rows.length vc/\bW w va x.rows:=by
    rcases aX hsk.own with⟨e,e2⟩|⟨g,cap,e,_⟩
    · exact⟨none,0,by rw[e,e2],.inl (List.length_eq_zero_iff.1 e2)⟩
    · refine⟨some ⟨g,0,none⟩,cap,e,.inr ⟨g,0,rfl,eW x.rows 0 fun j u hj=>?_⟩⟩
      have:=World.ownsRow.cells hsk.own (g:=g) (by rw[e];rfl) j u hj
      rwa [Go.WideShapes.add_plain] at this
  have HLY:Hid (∀ W,Below w.heap.size w W->Calls Tryz.prog 124 #[.pointer (some ⟨db,0,none⟩),.int .i64 ((1-x.area:Nat):Int),.slice va x.rows.length vc] W fun e w'=>∃ rv,e=.returned (.tuple #[rv,errV (dC (1-x.area) x.rows x.d).1])/\zIp rv (dC (1-x.area) x.rows x.d).1 (1-x.area) (aM x.d.now) (aO x.rows).size/\ActD W w' B db S (dC (1-x.area) x.rows x.d).2):=fun W hb=>zCI (1-x.area) x.rows va vc W (hsk.lk.dk.on hb) (by omega) h54 (eA hb hh) (cQ.fine hg) hfew
  have hlen:=uQ (1-x.area) x.rows x.d
  have ea:(1:Int)-(x.area:Int)=((1-x.area:Nat):Int):=by omega
  have a0:(0:Int)<=(x.area:Int):=by omega
  have a1:(x.area:Int)<=1:=by omega
  have hwr:IntKind.i64.wrap (1-(x.area:Int))=((1-x.area:Nat):Int):=by rw[ea];simp[IntKind.wrap,IntKind.bits];omega
  subst hv
  have HSK:=hide hsk
  have HGD:=hide hg
  clear hsk hg hh ea
  unfold chkR
  by_cases hf:(dC (1-x.area) x.rows x.d).1=0
  · rw[if_pos hf]
    have hgn:=hf
    rw[hf,aR] at HLY
    have hchk:=HGD.out.chk
    unfold chkR at hchk
    rw[if_pos hf] at hchk
    obtain⟨_,_,hck⟩:=hchk
    have hgd2:fA ⟨(dC (1-x.area) x.rows x.d).2,1-x.area,aM x.d.now,0,x.rows⟩:=by
      rcases hck with⟨_,a,_⟩|⟨a,_⟩
      · exact a
      · cases a
    have HGD2:=hide hgd2
    have hfr:=rB x.d.now
    have HLE:=hide hlen
    clear hf hlen hgn hck hgd2
    generalize dC (1-x.area) x.rows x.d=r at *
    generalize (aO x.rows).size=size at *
    generalize aM x.d.now=fr at *
    generalize 1-x.area=ar at *
    obtain⟨rows0,ds0,hod,hrw⟩:=HGD2.out.ex
    have hdn:=HGD2.out.down
    have HOL:Hid (∀ W S2,DK W B db S2 r.2->Calls Tryz.prog 138 #[.pointer (some ⟨db,0,none⟩),.agg #[.int .i64 (ar:Int),.int .i64 (fr:Int),.int .i64 (size:Int)]] W fun e w'=>∃ lb dv,e=.returned (.tuple #[.pointer (some ⟨lb,0,none⟩),dv,.nilIface])/\∃ dd,mC W w' lb db 50 (r.2.now.length-50) fr dv dd 0):=fun W S2 hk2=>by
      have h1:=tM ar fr size W hk2 hdn (by rw[HLE.out];omega) hfr.1 hfr.2
      have hsc:dB fr 0 (eB r.2 50 (r.2.now.length-50)) ([],[]) 0=(ds0,0):=hod.has
      have hus:mH (eB r.2 50 (r.2.now.length-50)) fr=0:=by unfold mH;rw[hsc]
      rw[hus] at h1
      exact h1.mono fun e w' ⟨lb,dv,he,ho⟩=>⟨lb,dv,he,_,ho⟩
    clear hod hrw hdn
    go_enter Tryz.func73,Tryz.ntmps73
    go_wp2_with fail
    have HZA:Hid (w.heap.size<(w.alloc (Obj.cells #[.int IntKind.i64 0,.int IntKind.i64 0,.int IntKind.i64 0] 202)).heap.size):=hide (by simp)
    have HNS:Hid (¬S w.heap.size):=fun e=>by have:=HSK.out.lk.dk.lt e;omega
    have HSN:Hid (sb≠w.heap.size):=hide (by omega)
    go_region_held3 (fun w'=>w'.cell? ⟨sb,0,none⟩=some (.pointer (some ⟨db,0,none⟩))/\w'.cell? ⟨sb,2,none⟩=some (.int .i64 (x.area:Int))/\w'.cell? ⟨sb,3,none⟩=some (.slice va x.rows.length vc)) (first|exact⟨c0,c2,c3⟩|exact HC7.out|exact⟨aA (below_alloc1 _ _) HC7.out.1,aA (below_alloc1 _ _) HC7.out.2.1,aA (below_alloc1 _ _) HC7.out.2.2⟩|exact zHP HSN.out HC7.out|exact⟨aA (below_alloc1 _ _).drew c0,aA (below_alloc1 _ _).drew c2,aA (below_alloc1 _ _).drew c3⟩|go_keep) (first|(go_at_call 124;refine(HLY.out _ (by first|exact(Below.refl _ w).drew|exact(below_alloc1 w _).drew)).mono ?_;rintro e w7 ⟨rv7,rfl,⟨x7,y7,z7,rfl,hrv7⟩,⟨S7,hk7,hs7⟩⟩;have f7:=hs7.far sb (by first|exact hsl|exact Nat.lt_of_lt_of_le hsl (below_alloc1 w _).size) HSK.out.ns;have HC7:Hid (w7.cell? ⟨sb,0,none⟩=some (.pointer (some ⟨db,0,none⟩))/\w7.cell? ⟨sb,2,none⟩=some (.int .i64 (x.area:Int))/\w7.cell? ⟨sb,3,none⟩=some (.slice va x.rows.length vc)):=(by first|exact⟨(World.cell?_of_block (a:=⟨sb,0,none⟩) f7.1).trans c0,(World.cell?_of_block (a:=⟨sb,2,none⟩) f7.1).trans c2,(World.cell?_of_block (a:=⟨sb,3,none⟩) f7.1).trans c3⟩|exact⟨(World.cell?_of_block (a:=⟨sb,0,none⟩) f7.1).trans (aA (below_alloc1 w _).drew c0),(World.cell?_of_block (a:=⟨sb,2,none⟩) f7.1).trans (aA (below_alloc1 w _).drew c2),(World.cell?_of_block (a:=⟨sb,3,none⟩) f7.1).trans (aA (below_alloc1 w _).drew c3)⟩);(first|(have z7:=(hs7.far w.heap.size (by exact HZA.out) HNS.out).1;have t0:w7.cell? ⟨w.heap.size,0,none⟩=some (.int .i64 0):=(World.cell?_of_block (a:=⟨w.heap.size,0,none⟩) z7).trans (aC w _ _ 0);have t1:w7.cell? ⟨w.heap.size,1,none⟩=some (.int .i64 0):=(World.cell?_of_block (a:=⟨w.heap.size,1,none⟩) z7).trans (aC w _ _ 1);have t2:w7.cell? ⟨w.heap.size,2,none⟩=some (.int .i64 0):=(World.cell?_of_block (a:=⟨w.heap.size,2,none⟩) z7).trans (aC w _ _ 2);have tf:∀ j,w7.frozen? ⟨w.heap.size,j,none⟩=false:=(fun j=>(World.frozen?_of_block (a:=⟨w.heap.size,j,none⟩) z7).trans (aQ w _ _ j));clear z7)|skip);dsimp only))
    all_goals
      obtain⟨e1,e2,e3⟩:=hrv7 rfl
      subst e1 e2 e3
    all_goals
      first
        | (have hcp:=CPX.ofA (a:=(ar:Int)) (b:=(fr:Int)) (c:=(size:Int)) hk7 hs7 hB
           generalize w7.alloc (Obj.cells #[.int IntKind.i64 (ar:Int),.int IntKind.i64 (fr:Int),.int IntKind.i64 (size:Int)] 202)=W at *
           generalize w7.heap.size=rb at *)
        | (have hcp:=CPX.ofB (a:=(ar:Int)) (b:=(fr:Int)) (c:=(size:Int)) hk7 hs7 hB HNS.out t0 t1 t2
           generalize ((w7.setCell ⟨w.heap.size,0,none⟩ (Value.int IntKind.i64 (ar:Int))).setCell ⟨w.heap.size,1,none⟩ (Value.int IntKind.i64 (fr:Int))).setCell ⟨w.heap.size,2,none⟩ (Value.int IntKind.i64 (size:Int))=W at *
           obtain⟨rb,hrb⟩:∃ rb,w.heap.size=rb:=⟨_,rfl⟩
           rw[hrb] at hcp ⊢
           clear hrb t0 t1 t2 tf)
      have HCP:=hide hcp
      clear hcp hk7 hs7 f7 HC7
    all_goals
      obtain⟨S2,q1,q2⟩:=HCP.out.ex
      have k0:=HCP.out.k0
      have k1:=HCP.out.k1
      have k2:=HCP.out.k2
      have hsk2:=HSK.out.step q1 q2 HLE.out
      have d0:=hsk2.hd.c0
      have HS2:=hide hsk2
      have HQ1:=hide q1
      have HQ2:=hide q2
      have HRS:Hid (rb≠sb):=hide (by have:=HCP.out.ge;omega)
      clear hsk2 q1 q2 HCP
      go_wp2_with fail
      go_region_held3 (fun w'=>w'.cell? ⟨sb,0,none⟩=some (.pointer (some ⟨db,0,none⟩))/\w'.cell? ⟨rb,0,none⟩=some (.int .i64 (ar:Int))/\w'.cell? ⟨rb,1,none⟩=some (.int .i64 (fr:Int))/\w'.cell? ⟨rb,2,none⟩=some (.int .i64 (size:Int))) (first|exact⟨d0,k0,k1,k2⟩|exact HC8.out|go_keep) (first|(go_at_call 138;refine(HOL.out _ S2 (HQ1.out.on (Below.refl _ _).drew)).mono ?_;rintro e w8 ⟨lb8,dv8,rfl,dd8,ho8⟩;have HC8:Hid (w8.cell? ⟨sb,0,none⟩=some (.pointer (some ⟨db,0,none⟩))/\w8.cell? ⟨rb,0,none⟩=some (.int .i64 (ar:Int))/\w8.cell? ⟨rb,1,none⟩=some (.int .i64 (fr:Int))/\w8.cell? ⟨rb,2,none⟩=some (.int .i64 (size:Int))):=⟨aA ho8.bel d0,aA ho8.bel k0,aA ho8.bel k1,aA ho8.bel k2⟩;dsimp only))
      have hsk8:=(HS2.out.on (Below.refl _ _).drew).hd.kept (ho8.bel.block sb (HS2.out.on (Below.refl _ _).drew).hd.lt)
      have m1:=hsk8.c1
      have m2:=hsk8.c2
      have mf:=hsk8.soft
      have n0:=HC8.out.2.1
      have HO8:=hide ho8
      clear hsk8 ho8 HC8 d0 k0 k1 k2
      have hrs:=HRS.out
      have hsr:sb≠rb:=fun e=>hrs e.symm
      go_wp2_with fail
      go_region_held3 (fun w'=>w'.cell? ⟨rb,0,none⟩=some (.int .i64 (ar:Int))) (first|exact n0|go_keep) (fail)
      go_wp2
      go_ret
      refine⟨rfl,?_⟩
      have hend:=HSK.out.turn (area':=ar) (HQ1.out.on (Below.refl _ _).drew) (HQ2.out.trans (.on HQ1.out.lo (Below.refl _ _).drew)) HLE.out HO8.out (by rw[HLE.out];omega) hfr
      exact hend.post (Below.refl _ _).drew
  · rw[if_neg hf]
    have HER:Hid (errV (dC (1-x.area) x.rows x.d).1=.iface 114 (.int .i64 (dC (1-x.area) x.rows x.d).1)):=aP hf
    rw[HER.out] at HLY ⊢
    have HF:=hide hf
    have HLE:=hide hlen
    clear hf hlen
    generalize dC (1-x.area) x.rows x.d=r at *
    generalize (aO x.rows).size=size at *
    generalize aM x.d.now=fr at *
    generalize 1-x.area=ar at *
    go_enter Tryz.func73,Tryz.ntmps73
    go_wp2_with fail
    have HZA:Hid (w.heap.size<(w.alloc (Obj.cells #[.int IntKind.i64 0,.int IntKind.i64 0,.int IntKind.i64 0] 202)).heap.size):=hide (by simp)
    have HNS:Hid (¬S w.heap.size):=fun e=>by have:=HSK.out.lk.dk.lt e;omega
    have HSN:Hid (sb≠w.heap.size):=hide (by omega)
    go_region_held3 (fun w'=>w'.cell? ⟨sb,0,none⟩=some (.pointer (some ⟨db,0,none⟩))/\w'.cell? ⟨sb,2,none⟩=some (.int .i64 (x.area:Int))/\w'.cell? ⟨sb,3,none⟩=some (.slice va x.rows.length vc)) (first|exact⟨c0,c2,c3⟩|exact HC7.out|exact⟨aA (below_alloc1 _ _) HC7.out.1,aA (below_alloc1 _ _) HC7.out.2.1,aA (below_alloc1 _ _) HC7.out.2.2⟩|exact zHP HSN.out HC7.out|exact⟨aA (below_alloc1 _ _).drew c0,aA (below_alloc1 _ _).drew c2,aA (below_alloc1 _ _).drew c3⟩|go_keep) (first|(go_at_call 124;refine(HLY.out _ (by first|exact(Below.refl _ w).drew|exact(below_alloc1 w _).drew)).mono ?_;rintro e w7 ⟨rv7,rfl,⟨x7,y7,z7,rfl,hrv7⟩,⟨S7,hk7,hs7⟩⟩;have f7:=hs7.far sb (by first|exact hsl|exact Nat.lt_of_lt_of_le hsl (below_alloc1 w _).size) HSK.out.ns;have HC7:Hid (w7.cell? ⟨sb,0,none⟩=some (.pointer (some ⟨db,0,none⟩))/\w7.cell? ⟨sb,2,none⟩=some (.int .i64 (x.area:Int))/\w7.cell? ⟨sb,3,none⟩=some (.slice va x.rows.length vc)):=(by first|exact⟨(World.cell?_of_block (a:=⟨sb,0,none⟩) f7.1).trans c0,(World.cell?_of_block (a:=⟨sb,2,none⟩) f7.1).trans c2,(World.cell?_of_block (a:=⟨sb,3,none⟩) f7.1).trans c3⟩|exact⟨(World.cell?_of_block (a:=⟨sb,0,none⟩) f7.1).trans (aA (below_alloc1 w _).drew c0),(World.cell?_of_block (a:=⟨sb,2,none⟩) f7.1).trans (aA (below_alloc1 w _).drew c2),(World.cell?_of_block (a:=⟨sb,3,none⟩) f7.1).trans (aA (below_alloc1 w _).drew c3)⟩);(first|(have z7:=(hs7.far w.heap.size (by exact HZA.out) HNS.out).1;have t0:w7.cell? ⟨w.heap.size,0,none⟩=some (.int .i64 0):=(World.cell?_of_block (a:=⟨w.heap.size,0,none⟩) z7).trans (aC w _ _ 0);have t1:w7.cell? ⟨w.heap.size,1,none⟩=some (.int .i64 0):=(World.cell?_of_block (a:=⟨w.heap.size,1,none⟩) z7).trans (aC w _ _ 1);have t2:w7.cell? ⟨w.heap.size,2,none⟩=some (.int .i64 0):=(World.cell?_of_block (a:=⟨w.heap.size,2,none⟩) z7).trans (aC w _ _ 2);have tf:∀ j,w7.frozen? ⟨w.heap.size,j,none⟩=false:=(fun j=>(World.frozen?_of_block (a:=⟨w.heap.size,j,none⟩) z7).trans (aQ w _ _ j));clear z7)|skip);dsimp only))
    all_goals
      first
        | (have hcp:=CPX.ofA (a:=x7) (b:=y7) (c:=z7) hk7 hs7 hB
           generalize w7.alloc (Obj.cells #[.int IntKind.i64 x7,.int IntKind.i64 y7,.int IntKind.i64 z7] 202)=W at *
           generalize w7.heap.size=rb at *)
        | (have hcp:=CPX.ofB (a:=x7) (b:=y7) (c:=z7) hk7 hs7 hB HNS.out t0 t1 t2
           generalize ((w7.setCell ⟨w.heap.size,0,none⟩ (Value.int IntKind.i64 x7)).setCell ⟨w.heap.size,1,none⟩ (Value.int IntKind.i64 y7)).setCell ⟨w.heap.size,2,none⟩ (Value.int IntKind.i64 z7)=W at *
           obtain⟨rb,hrb⟩:∃ rb,w.heap.size=rb:=⟨_,rfl⟩
           rw[hrb] at hcp ⊢
           clear hrb t0 t1 t2 tf)
      have HCP:=hide hcp
      clear hcp hk7 hs7 f7 HC7
    all_goals
      go_wp2
      go_ret
      obtain⟨S2,q1,q2⟩:=HCP.out.ex
      exact⟨rfl,_,⟨lb,S2,_,HSK.out.step q1 q2 HLE.out,rfl⟩,zMG q2⟩
end
section
variable {w w':World} {B sb lb db:Nat} {S S' T:Nat->Prop} {v:Value} {x:SSt}
theorem SK.added (h:SK w B sb lb db S v x) {s':DSt} {u:Nat} (hk:LK w' B lb db S' 50 (x.d.now.length-50) x.first u s') (hs:aG w w' B (inL lb S) (inL lb S')) (hl:s'.now.length=x.d.now.length):SK w' B sb lb db S' v { x with d:=s',used:=u }/\aG w w' B (inS sb lb v S) (inS sb lb v S'):=by
 have nsb:¬inL lb S sb:=fun e=>e.elim h.nl h.ns;have nvb:∀ k,v.ownBlock=some k->¬inL lb S k:=fun k e e2=>e2.elim (h.nv k e).2.1 (h.nv k e).2.2;have f1:=hs.far sb h.hd.lt nsb;refine⟨⟨h.hd.kept f1.1,?_,aI h.own fun k e=>(hs.far k (World.ownsRow.lt h.own k e).2 (nvb k e)).1,fun e=>f1.2 (.inr e),h.nl,fun k e=>⟨(h.nv k e).1,(h.nv k e).2.1,fun e2=>(hs.far k (World.ownsRow.lt h.own k e).2 (nvb k e)).2 (.inr e2)⟩,h.lo⟩,hs.bel,fun j hj hn=>?_⟩
 ·show LK w' B lb db S' 50 (s'.now.length-50) x.first u s';rw[hl];exact hk
 ·obtain⟨a,b⟩:=hs.far j hj (fun e=>e.elim (fun e=>hn (.inr (.inl e))) fun e=>hn (.inr (.inr (.inr e))));exact⟨a,fun e=>e.elim (fun e=>hn (.inl e)) fun e=>e.elim (fun e=>hn (.inr (.inl e))) fun e=>e.elim (fun e=>hn (.inr (.inr (.inl e)))) fun e=>b (.inr e)⟩
theorem SK.finish {w3:World} {y:SSt} {v2:Value} {rows2:List Chg} (h:SK w3 B sb lb db S v y) (hst:aG w w3 B T (inS sb lb v S)) (hB:B<=w.heap.size) (ho:bO w3 w.heap.size v2 rows2) (hap:∀ k,v2.ownBlock=some k->¬inS sb lb v S k):ActS w (w3.setCell ⟨sb,3,none⟩ v2) B sb db T { y with rows:=rows2 }:=by
 have hk2:∀ k,k≠sb->(w3.setCell ⟨sb,3,none⟩ v2).heap[k]?=w3.heap[k]?:=fun k hn=>Below.heap_setCell _ _ _ _ hn;have hv:∀ k,v2.ownBlock=some k->k≠sb/\k≠lb/\¬S k:=fun k e=>⟨fun e2=>hap k e (.inl e2),fun e2=>hap k e (.inr (.inl e2)),fun e2=>hap k e (.inr (.inr (.inr e2)))⟩;refine⟨_,⟨lb,S,v2,⟨⟨(World.cell?_setCell_other _ _ _ _ (by simp)).trans h.hd.c0,(World.cell?_setCell_other _ _ _ _ (by simp)).trans h.hd.c1,(World.cell?_setCell_other _ _ _ _ (by simp)).trans h.hd.c2,World.cell?_setCell_same _ _ _ h.hd.c3,fun j=>by rw[World.frozen?_setCell];exact h.hd.soft j⟩,?_,?_,h.ns,h.nl,hv,h.lo⟩,rfl⟩,hst.bel.setCell (p:=⟨sb,3,none⟩) h.lo v2,fun j hj hn=>?_⟩
 ·exact⟨h.lk.dk.kept (by simp) fun k e=>hk2 k fun e2=>h.ns (e2▸e),h.lk.hd.kept (hk2 lb fun e=>h.nl e.symm),h.lk.nl,h.lk.lo,h.lk.us,h.lk.fit,h.lk.f1⟩
 ·exact dJ (aI ho fun k e=>hk2 k (hv k e).1) hB
 ·obtain⟨a,b⟩:=hst.far j hj hn;refine⟨(hk2 j fun e=>b (.inl e)).trans a,fun e=>?_⟩;rcases e with e|e|e|e
  ·exact b (.inl e)
  ·exact b (.inr (.inl e))
  ·have:=(World.ownsRow.lt ho j e).1;omega
  ·exact b (.inr (.inr (.inr e)))
theorem zCC (fr many first used:Nat) (s:DSt) (l:List Chg):(addR fr many first used s l).2.2.now.length=s.now.length:=by
 unfold addR;split
 ·rfl
 ·exact fS _ _
def apart (T:Nat->Prop) (ao:Option Addr) (l:List Chg):Prop:=l=[]∨∀ a,ao=some a->¬T a.block
theorem apart.step {T':Nat->Prop} {ao:Option Addr} {l:List Chg} (h:apart T ao l) (hh:bW w ao l) (hs:aG w w' B T T'):apart T' ao l/\bW w' ao l:=by
 rcases h with h|h
 ·exact⟨.inl h,.inl h⟩
 ·rcases hh with hh|⟨b,off,e,hc⟩
  ·exact⟨.inl hh,.inl hh⟩
  ·subst e;by_cases hl:l=[]
   ·exact⟨.inl hl,.inl hl⟩
   ·have hb:b<w.heap.size:=World.block_lt_of_cell? _ _ (hc 0 (List.length_pos_iff.2 hl)).1;obtain⟨a,n⟩:=hs.far b hb (h _ rfl);exact⟨.inr fun a e=>by cases e;exact n,.inr ⟨b,off,rfl,fun i hi=>⟨(World.cell?_of_block (a:=⟨b,_,none⟩) a).trans (hc i hi).1,(World.cell?_of_block (a:=⟨b,_,none⟩) a).trans (hc i hi).2.1,(World.cell?_of_block (a:=⟨b,_,none⟩) a).trans (hc i hi).2.2⟩⟩⟩
end
section
variable {w w':World} {B sb lb db:Nat} {S S' T:Nat->Prop} {v:Value} {x:SSt}
theorem zEV (l:List Chg) (ao:Option Addr) (cap:Nat) (w:World) (h:SA w B sb db T x) (hg:fA x) (hd:bW w ao l) (hap:apart T ao l) (hl:l.length<=100) (hsz:∀ c∈l,c.key.size<=1000/\c.val.size<=1000):
  Calls Tryz.prog 131 #[.pointer (some ⟨sb,0,none⟩),.slice ao l.length cap] w fun e w'=>e=.returned (errV (comR x l).1)/\ActS w w' B sb db T (comR x l).2:=by
 have hfew:=cQ.few hg;have h54:=cQ.n54 hg;have hus:=cQ.us hg;have hB:=h.blo;have HCK:=hide (zFX l ao cap w hd (by omega) (fun c hc=>by have:=hsz c hc;unfold maxLen;omega));have HSA:=hide h;have HGD:=hide hg;have HHD0:=hide hd;have HAP0:=hide hap;have HSZ:=hide hsz;clear h hg hd hap hsz;by_cases h1:jW l=0
 ·obtain⟨lb0,S0,v0,hsk0,hT0⟩:=HSA.out;have c0:=hsk0.hd.c0;have c3:=hsk0.hd.c3;have HSK0:=hide hsk0;have hm:=hsk0.lk.dk.many;have HD0:=hide h1;have hbl:=zGt x.rows l;have hl0:(l.length:Int)<=100:=by omega
  rw[h1,aR] at HCK;clear hsk0 h1 hT0;by_cases h2:40<(aK x.rows l).length∨x.d.now.length-50<l.length+1
  ·have ecom:comR x l=(8,x):=by
    have ef:comF x l=8:=by unfold comF;rw[if_neg (by rw[HD0.out];decide),if_pos h2]
    unfold comR;rw[ef,if_pos (by decide)]
   rw[ecom];clear ecom;have HE8:Hid (errV 8=.iface 114 (.int .i64 8)):=rfl;have H2:=hide h2;clear h2;go_enter Tryz.func131,Tryz.ntmps131;go_wp2_with fail;refine HCK.out.mono ?_;rintro e w1 ⟨rfl,hb1⟩;have HB1:=hide hb1;replace c0:=aA hb1 c0;replace c3:=aA hb1 c3;have HBH:=hide (lG x.rows l v0 ao cap B w1 (bQ HSK0.out.own hb1) (eA hb1 HHD0.out) (by omega) (by omega));clear hb1;go_wp2_with fail;refine HBH.out.mono ?_;rintro e w2 ⟨v2,rfl,ho2,hb2⟩;have HB2:=hide (aB HB1.out (Nat.le_refl _) hb2);have HO2:=hide (dJ ho2 HB1.out.size);replace c0:=aA hb2 c0;replace c3:=aA hb2 c3;obtain⟨va,vc,rfl⟩:∃ va vc,v2=.slice va (aK x.rows l).length vc:=by
    rcases aX ho2 with⟨e,e2⟩|⟨g,cap',e,_⟩
    ·exact⟨none,0,by rw[e,e2]⟩
    ·exact⟨_,cap',e⟩
   have HLS:=hide (iK w2 (HSK0.out.lk.dk.on HB2.out) (by omega));have HRM:=hide (qF w2 (HSA.out.on HB2.out));have HSTD:Hid (∀ n,aG w (w2.drewN n) B T T):=fun n=>.on hB (below_drewN HB2.out n);clear ho2 hb2 HBH HCK HB1;generalize hn2e:(aK x.rows l).length=n2 at *;have HNE:=hide hn2e;clear hn2e;have h2:=H2.out;have HEND:=hide (HSA.out.stay HB2.out);by_cases h3:40<n2
   ·have h3':(40:Int)<(n2:Int):=by omega
    clear h2;go_wp2;go_ret;exact⟨by rw[HE8.out];rfl,HEND.out⟩
   ·have h3':¬(40:Int)<(n2:Int):=by omega
    have h4':((x.d.now.length-50:Nat):Int)<(l.length:Int)+1:=by omega
    clear h2 H2;generalize x.d.now.length-50=m at *;go_wp2_with fail;refine HLS.out.mono ?_;rintro e w3 ⟨rfl,rfl⟩;go_wp2;go_ret;exact⟨by rw[HE8.out];rfl,HEND.out⟩
  ·have HN2:Hid ((aK x.rows l).length<=40/\l.length+1<=x.d.now.length-50):=hide (by omega);have ef:comF x l=0:=by unfold comF;rw[if_neg (by rw[HD0.out];decide),if_neg h2]
   have ecom:comR x l=if (gO x l).1≠0 then gO x l else gM (gO x l).2 l (aK x.rows l):=by unfold comR;rw[if_neg (by rw[ef];decide)]
   rw[ecom];clear ecom ef h2;have h3':¬(40:Int)<((aK x.rows l).length:Int):=by have:=HN2.out;omega
   have h4':¬((x.d.now.length-50:Nat):Int)<(l.length:Int)+1:=by have:=HN2.out;omega
   have hrI:((x.d.now.length-50-x.used:Nat):Int)<=200:=by omega
   by_cases hroom:x.d.now.length-50-x.used<l.length+1
   ·have hroom':((x.d.now.length-50-x.used:Nat):Int)<(l.length:Int)+1:=by omega
    have e1:gO x l=chkR x:=if_pos hroom;rw[e1];clear e1 hroom;have HCP:Hid (∀ W,Below w.heap.size w W->Calls Tryz.prog 73 #[.pointer (some ⟨sb,0,none⟩)] W fun e w'=>e=.returned (errV (chkR x).1)/\ActS W w' B sb db T (chkR x).2):=fun W hb=>zDC W (HSA.out.on hb) HGD.out;by_cases hc0:(chkR x).1=0
    ·rw[if_neg (by rw[hc0];decide)];rw[hc0,aR] at HCP;clear hc0;generalize (chkR x).2=Y at *;obtain⟨R,hRe⟩:∃ R,addR 50 (Y.d.now.length-50) Y.first Y.used Y.d l=R:=⟨_,rfl⟩;have HRE:=hide hRe;have HAL:Hid (R.2.2.now.length=Y.d.now.length):=by rw[<-hRe];exact zCC 50 (Y.d.now.length-50) Y.first Y.used Y.d l
     unfold gM;rw[hRe];obtain⟨RW,hRW⟩:∃ RW,RW=if R.1=0 then aK x.rows l else Y.rows:=⟨_,rfl⟩;rw[<-hRW];have HRW:=hide hRW;clear hRe hRW;go_enter Tryz.func131,Tryz.ntmps131;go_wp2_with fail;refine HCK.out.mono ?_;rintro e w1 ⟨rfl,hb1⟩;have HB1:=hide hb1;replace c0:=aA hb1 c0;replace c3:=aA hb1 c3;have HBH:=hide (lG x.rows l v0 ao cap B w1 (bQ HSK0.out.own hb1) (eA hb1 HHD0.out) (by omega) (by omega));clear hb1;go_wp2_with fail;refine HBH.out.mono ?_;rintro e w2 ⟨v2,rfl,ho2,hb2⟩;have HB2:=hide (aB HB1.out (Nat.le_refl _) hb2);have HO2:=hide (dJ ho2 HB1.out.size);replace c0:=aA hb2 c0;replace c3:=aA hb2 c3;obtain⟨va,vc,rfl⟩:∃ va vc,v2=.slice va (aK x.rows l).length vc:=by
      rcases aX ho2 with⟨e,e2⟩|⟨g,cap',e,_⟩
      ·exact⟨none,0,by rw[e,e2]⟩
      ·exact⟨_,cap',e⟩
     have HLS:=hide (iK w2 (HSK0.out.lk.dk.on HB2.out) (by omega));have HRM:=hide (qF w2 (HSA.out.on HB2.out));have HSTD:Hid (∀ n,aG w (w2.drewN n) B T T):=fun n=>.on hB (below_drewN HB2.out n);clear ho2 hb2 HBH HCK HB1;generalize hn2e:(aK x.rows l).length=n2 at *;have HNE:=hide hn2e;clear hn2e;generalize hrme:x.d.now.length-50-x.used=rm at *;clear hrme;generalize hme:x.d.now.length-50=m at *;have HME:=hide hme;clear hme;go_wp2_with fail;refine HLS.out.mono ?_;rintro e w3 ⟨rfl,rfl⟩;go_wp2_with fail;refine HRM.out.mono ?_;rintro e w4 ⟨rfl,nq,rfl⟩;go_wp2_with fail;refine(HCP.out _ (below_drewN HB2.out nq)).mono ?_;rintro e W ⟨rfl,TY,hsa5,hst5⟩;have hst6:=(HSTD.out nq).trans hst5;have HHD:=hide (HAP0.out.step HHD0.out hst6).2;have HA:=hide hsa5;have HSTW:=hide hst6;have hfar5:∀ k,Value.ownBlock (.slice va n2 vc)=some k->W.heap[k]?=w3.heap[k]?/\¬TY k:=fun k e=>hst5.far k (World.ownsRow.lt HO2.out k e).2 (fun e2=>by have h1:=(World.ownsRow.lt HO2.out k e).1;have h2:=HSA.out.lt e2;omega);have HOW:Hid (bO W w.heap.size (.slice va n2 vc) (aK x.rows l)):=aI HO2.out fun k e=>(hfar5 k e).1;have HAP:Hid (∀ k,Value.ownBlock (.slice va n2 vc)=some k->¬TY k):=fun k e=>(hfar5 k e).2;clear hsa5 hst5 hst6 hfar5 HCP HRM HLS HO2 c0 c3;obtain⟨lb5,S5,v5,hsk5,hT5⟩:=HA.out;have g1:=hsk5.hd.c1;have HSK5:=hide hsk5;have HT5:=hide hT5;have HAD:Hid (Calls Tryz.prog 194 #[.pointer (some ⟨lb5,0,none⟩),.slice ao l.length cap] W fun e w'=>e=.returned (errV R.1)/\pB W w' B lb5 db S5 50 (Y.d.now.length-50) Y.first R.2.1 R.2.2):=by
      have h1:=zDn l ao cap W hsk5.lk HHD.out HSZ.out (by omega);rw[HRE.out] at h1;exact h1
     clear hsk5 hT5;by_cases hr0:R.1=0
     ·rw[hr0,aR] at HAD;have HR0:=hide hr0;clear hr0;go_wp2_with fail;refine HAD.out.mono ?_;rintro e w8 ⟨rfl,S8,hlk8,hst8⟩;obtain⟨hsk8,hsv8⟩:=HSK5.out.added hlk8 hst8 HAL.out;have q3:=hsk8.hd.c3;have qf:=hsk8.hd.soft;have hown8:bO w8 w.heap.size (.slice va n2 vc) (aK x.rows l)/\∀ k,Value.ownBlock (.slice va n2 vc)=some k->¬inS sb lb5 v5 S8 k:=by
       have hap:=HAP.out;rw[HT5.out] at hap;exact⟨aI HOW.out fun k e=>(hsv8.far k (World.ownsRow.lt HOW.out k e).2 (hap k e)).1,fun k e=>(hsv8.far k (World.ownsRow.lt HOW.out k e).2 (hap k e)).2⟩
      have hfin:=hsk8.finish (by have h1:=HSTW.out;rw[HT5.out] at h1;exact h1.trans hsv8) hB hown8.1 hown8.2;have HFIN:=hide hfin;clear hlk8 hst8 hsk8 hsv8 hown8 hfin;go_wp2;go_ret;rw[HR0.out,HRW.out,if_pos HR0.out];exact⟨rfl,HFIN.out⟩
     ·have HER:Hid (errV R.1=.iface 114 (.int .i64 R.1)):=aP hr0;rw[HER.out] at HAD;have HR0:=hide hr0;clear hr0;go_wp2_with fail;refine HAD.out.mono ?_;rintro e w8 ⟨rfl,S8,hlk8,hst8⟩;obtain⟨hsk8,hsv8⟩:=HSK5.out.added hlk8 hst8 HAL.out;have HSK8:=hide hsk8;have HSV8:=hide hsv8;clear hlk8 hst8 hsk8 hsv8;go_wp2;go_ret;have h1:=HSTW.out;rw[HT5.out] at h1;rw[HRW.out,if_neg HR0.out];exact⟨by rw[HER.out];rfl,_,⟨lb5,S8,v5,HSK8.out,rfl⟩,h1.trans HSV8.out⟩
    ·have HER:Hid (errV (chkR x).1=.iface 114 (.int .i64 (chkR x).1)):=aP hc0;rw[if_pos hc0];rw[HER.out] at HCP;clear hc0;go_enter Tryz.func131,Tryz.ntmps131;go_wp2_with fail;refine HCK.out.mono ?_;rintro e w1 ⟨rfl,hb1⟩;have HB1:=hide hb1;replace c0:=aA hb1 c0;replace c3:=aA hb1 c3;have HBH:=hide (lG x.rows l v0 ao cap B w1 (bQ HSK0.out.own hb1) (eA hb1 HHD0.out) (by omega) (by omega));clear hb1;go_wp2_with fail;refine HBH.out.mono ?_;rintro e w2 ⟨v2,rfl,ho2,hb2⟩;have HB2:=hide (aB HB1.out (Nat.le_refl _) hb2);have HO2:=hide (dJ ho2 HB1.out.size);replace c0:=aA hb2 c0;replace c3:=aA hb2 c3;obtain⟨va,vc,rfl⟩:∃ va vc,v2=.slice va (aK x.rows l).length vc:=by
      rcases aX ho2 with⟨e,e2⟩|⟨g,cap',e,_⟩
      ·exact⟨none,0,by rw[e,e2]⟩
      ·exact⟨_,cap',e⟩
     have HLS:=hide (iK w2 (HSK0.out.lk.dk.on HB2.out) (by omega));have HRM:=hide (qF w2 (HSA.out.on HB2.out));have HSTD:Hid (∀ n,aG w (w2.drewN n) B T T):=fun n=>.on hB (below_drewN HB2.out n);clear ho2 hb2 HBH HCK HB1;generalize hn2e:(aK x.rows l).length=n2 at *;have HNE:=hide hn2e;clear hn2e;generalize hrme:x.d.now.length-50-x.used=rm at *;clear hrme;generalize hme:x.d.now.length-50=m at *;have HME:=hide hme;clear hme;go_wp2_with fail;refine HLS.out.mono ?_;rintro e w3 ⟨rfl,rfl⟩;go_wp2_with fail;refine HRM.out.mono ?_;rintro e w4 ⟨rfl,nq,rfl⟩;go_wp2_with fail;refine(HCP.out _ (below_drewN HB2.out nq)).mono ?_;rintro e W ⟨rfl,TY,hsa5,hst5⟩;have HST6:=hide ((HSTD.out nq).trans hst5);have HA:=hide hsa5;clear hsa5 hst5;go_wp2;go_ret;exact⟨by rw[HER.out];rfl,TY,HA.out,HST6.out⟩
   ·have hroom':¬((x.d.now.length-50-x.used:Nat):Int)<(l.length:Int)+1:=by omega
    have e1:gO x l=(0,x):=if_neg hroom;rw[e1,if_neg (by show ¬0≠0;decide)];clear e1 hroom;show Calls _ _ _ _ fun e w'=>e=.returned (errV (gM x l (aK x.rows l)).1)/\ActS w w' B sb db T (gM x l (aK x.rows l)).2;obtain⟨R,hRe⟩:∃ R,addR 50 (x.d.now.length-50) x.first x.used x.d l=R:=⟨_,rfl⟩;have HRE:=hide hRe;have HAL:Hid (R.2.2.now.length=x.d.now.length):=by rw[<-hRe];exact zCC 50 (x.d.now.length-50) x.first x.used x.d l
    unfold gM;rw[hRe];obtain⟨RW,hRW⟩:∃ RW,RW=if R.1=0 then aK x.rows l else x.rows:=⟨_,rfl⟩;rw[<-hRW];have HRW:=hide hRW;clear hRe hRW;go_enter Tryz.func131,Tryz.ntmps131;go_wp2_with fail;refine HCK.out.mono ?_;rintro e w1 ⟨rfl,hb1⟩;have HB1:=hide hb1;replace c0:=aA hb1 c0;replace c3:=aA hb1 c3;have HBH:=hide (lG x.rows l v0 ao cap B w1 (bQ HSK0.out.own hb1) (eA hb1 HHD0.out) (by omega) (by omega));clear hb1;go_wp2_with fail;refine HBH.out.mono ?_;rintro e w2 ⟨v2,rfl,ho2,hb2⟩;have HB2:=hide (aB HB1.out (Nat.le_refl _) hb2);have HO2:=hide (dJ ho2 HB1.out.size);replace c0:=aA hb2 c0;replace c3:=aA hb2 c3;obtain⟨va,vc,rfl⟩:∃ va vc,v2=.slice va (aK x.rows l).length vc:=by
     rcases aX ho2 with⟨e,e2⟩|⟨g,cap',e,_⟩
     ·exact⟨none,0,by rw[e,e2]⟩
     ·exact⟨_,cap',e⟩
    have HLS:=hide (iK w2 (HSK0.out.lk.dk.on HB2.out) (by omega));have HRM:=hide (qF w2 (HSA.out.on HB2.out));have HSTD:Hid (∀ n,aG w (w2.drewN n) B T T):=fun n=>.on hB (below_drewN HB2.out n);clear ho2 hb2 HBH HCK HB1;generalize hn2e:(aK x.rows l).length=n2 at *;have HNE:=hide hn2e;clear hn2e;generalize hrme:x.d.now.length-50-x.used=rm at *;clear hrme;generalize hme:x.d.now.length-50=m at *;have HME:=hide hme;clear hme;go_wp2_with fail;refine HLS.out.mono ?_;rintro e w3 ⟨rfl,rfl⟩;go_wp2_with fail;refine HRM.out.mono ?_;rintro e w4 ⟨rfl,nq,rfl⟩;have HHD:=hide (eA (below_drewN HB2.out nq) HHD0.out);have HA:=hide (HSA.out.on (below_drewN HB2.out nq));have HSTW:=hide (HSTD.out nq);have HOW:Hid (bO (w3.drewN nq) w.heap.size (.slice va n2 vc) (aK x.rows l)):=HO2.out;have HAP:Hid (∀ k,Value.ownBlock (.slice va n2 vc)=some k->¬T k):=fun k e e2=>by have h1:=(World.ownsRow.lt HO2.out k e).1;have h2:=HSA.out.lt e2;omega
    clear HRM HLS HO2 c0 c3 HSTD;generalize w3.drewN nq=W at *;obtain⟨lb5,S5,v5,hsk5,hT5⟩:=HA.out;have g1:=hsk5.hd.c1;have HSK5:=hide hsk5;have HT5:=hide hT5;have HAD:Hid (Calls Tryz.prog 194 #[.pointer (some ⟨lb5,0,none⟩),.slice ao l.length cap] W fun e w'=>e=.returned (errV R.1)/\pB W w' B lb5 db S5 50 m x.first R.2.1 R.2.2):=by
     have h1:=zDn l ao cap W hsk5.lk HHD.out HSZ.out (by omega);rw[HME.out] at h1;rw[HRE.out] at h1;exact h1
    clear hsk5 hT5;by_cases hr0:R.1=0
    ·rw[hr0,aR] at HAD;have HR0:=hide hr0;clear hr0;go_wp2_with fail;refine HAD.out.mono ?_;rintro e w8 ⟨rfl,S8,hlk8,hst8⟩;rw[<-HME.out] at hlk8;obtain⟨hsk8,hsv8⟩:=HSK5.out.added hlk8 hst8 HAL.out;have q3:=hsk8.hd.c3;have qf:=hsk8.hd.soft;have hown8:bO w8 w.heap.size (.slice va n2 vc) (aK x.rows l)/\∀ k,Value.ownBlock (.slice va n2 vc)=some k->¬inS sb lb5 v5 S8 k:=by
      have hap:=HAP.out;rw[HT5.out] at hap;exact⟨aI HOW.out fun k e=>(hsv8.far k (World.ownsRow.lt HOW.out k e).2 (hap k e)).1,fun k e=>(hsv8.far k (World.ownsRow.lt HOW.out k e).2 (hap k e)).2⟩
     have hfin:=hsk8.finish (by have h1:=HSTW.out;exact aG.trans (by have h2:=h1;rw[<-HT5.out];exact h2) hsv8) hB hown8.1 hown8.2;have HFIN:=hide hfin;clear hlk8 hst8 hsk8 hsv8 hown8 hfin;go_wp2;go_ret;rw[HR0.out,HRW.out,if_pos HR0.out];exact⟨rfl,HFIN.out⟩
    ·have HER:Hid (errV R.1=.iface 114 (.int .i64 R.1)):=aP hr0;rw[HER.out] at HAD;have HR0:=hide hr0;clear hr0;go_wp2_with fail;refine HAD.out.mono ?_;rintro e w8 ⟨rfl,S8,hlk8,hst8⟩;rw[<-HME.out] at hlk8;obtain⟨hsk8,hsv8⟩:=HSK5.out.added hlk8 hst8 HAL.out;have HSK8:=hide hsk8;have HSV8:=hide hsv8;clear hlk8 hst8 hsk8 hsv8;go_wp2;go_ret;have h1:=HSTW.out;replace h1:aG w W B T (inS sb lb5 v5 S5):=by rw[<-HT5.out];exact h1
     rw[HRW.out,if_neg HR0.out];exact⟨by rw[HER.out];rfl,_,⟨lb5,S8,v5,HSK8.out,rfl⟩,h1.trans HSV8.out⟩
 ·have ecom:comR x l=(jW l,x):=by
   have ef:comF x l=jW l:=by unfold comF;rw[if_pos h1]
   unfold comR;rw[ef,if_pos h1]
  rw[ecom];have HER:Hid (errV (jW l)=.iface 114 (.int .i64 (jW l))):=aP h1;rw[HER.out] at HCK;clear h1 ecom;go_enter Tryz.func131,Tryz.ntmps131;go_wp2_with fail;refine HCK.out.mono ?_;rintro e w1 ⟨rfl,hb1⟩;have HEND:=hide (HSA.out.stay hb1);clear hb1;go_wp2;go_ret;exact⟨by rw[HER.out];rfl,HEND.out⟩
end
section
variable {w w':World} {B sb lb db:Nat} {S S' T:Nat->Prop} {v:Value} {x:SSt}
theorem SA.kept (h:SA w B sb db T x) (hs:w.heap.size<=w'.heap.size) (hk:∀ k,T k->w'.heap[k]?=w.heap[k]?):SA w' B sb db T x:=by
 obtain⟨lb,S,v,h1,rfl⟩:=h;refine⟨lb,S,v,⟨h1.hd.kept (hk sb (.inl rfl)),⟨h1.lk.dk.kept hs fun k e=>hk k (.inr (.inr (.inr e))),h1.lk.hd.kept (hk lb (.inr (.inl rfl))),h1.lk.nl,h1.lk.lo,h1.lk.us,h1.lk.fit,h1.lk.f1⟩,aI h1.own fun k e=>hk k (.inr (.inr (.inl e))),h1.ns,h1.nl,h1.nv,h1.lo⟩,rfl⟩
theorem SNew.sa {w0:World} (h:SNew w0 w' B sb db S x):∃ T,SA w' B sb db T x/\∀ k,T k->S k∨w0.heap.size<=k:=by
 obtain⟨lb,v,h1,h2,h3⟩:=h.ex;refine⟨_,⟨lb,S,v,h1,rfl⟩,fun k e=>?_⟩;rcases e with rfl|rfl|e|e
 ·exact .inr h.new
 ·exact .inr h2
 ·exact .inr (h3 k e)
 ·exact .inl e
end
end
section
open Go.RowKit Go.Joins
def sQ (p:aU×Value):List Value:=[.int .i64 p.1.n,p.2]
theorem qX (p:aU×Value):(sQ p).length=2:=rfl
def rowD (dv:List (aU×Value)):List Value:=dv.flatMap sQ
structure bP (w:World) (B hb:Nat) (Xc:Nat->Option Value) (v:Value) (dv:List (aU×Value)):Prop where
 cell:w.cell? ⟨hb,2,none⟩=some v
 soft:w.frozen? ⟨hb,2,none⟩=false
 lo:B<=hb
 own:w.ownsRow B 207 2 v dv.length (rowD dv)
 keys:∀ p∈dv,w.ownsRow B 9 1 p.2 p.1.keys.length (p.1.keys.map Value.string)
 off:v.ownBlock≠some hb
 offk:∀ p∈dv,p.2.ownBlock≠some hb
 apart:∀ p∈dv,p.2.ownBlock=none∨p.2.ownBlock≠v.ownBlock
 pair:dv.Pairwise fun p q=>p.2.ownBlock=none∨p.2.ownBlock≠q.2.ownBlock
 rest:∀ j,(j≠2->w.cell? ⟨hb,j,none⟩=Xc j)/\w.frozen? ⟨hb,j,none⟩=false
theorem bP.lt {w:World} {B hb:Nat} {Xc:Nat->Option Value} {v:Value} {dv:List (aU×Value)} (h:bP w B hb Xc v dv):hb<w.heap.size:=World.block_lt_of_cell? w ⟨hb,2,none⟩ h.cell
theorem bP.on {w w':World} {B hb:Nat} {Xc:Nat->Option Value} {v:Value} {dv:List (aU×Value)} (h:bP w B hb Xc v dv) (hb':Below w.heap.size w w'):bP w' B hb Xc v dv where
 cell:=aA hb' h.cell
 soft:=aE hb' h.lt h.soft
 lo:=h.lo
 own:=bQ h.own hb'
 keys:=fun p hp=>bQ (h.keys p hp) hb'
 off:=h.off
 offk:=h.offk
 apart:=h.apart
 pair:=h.pair
 rest:=fun j=>⟨fun hj=>(World.cell?_of_block (w:=w) (hb'.block hb h.lt)).trans ((h.rest j).1 hj),(World.frozen?_of_block (w:=w) (hb'.block hb h.lt)).trans (h.rest j).2⟩
theorem bP.form {w:World} {B hb:Nat} {Xc:Nat->Option Value} {v:Value} {dv:List (aU×Value)} (h:bP w B hb Xc v dv):
  (v=.slice none 0 0/\dv=[])∨∃ g cap,v=.slice (some ⟨g,0,none⟩) dv.length cap/\B<=g/\g≠hb/\dv.length<=cap/\cap<=9223372036854775807/\
   ∀ i (hi:i<dv.length),w.cell? ⟨g,i*2,none⟩=some (.int .i64 dv[i].1.n)/\w.cell? ⟨g,i*2+1,none⟩=some dv[i].2/\w.frozen? ⟨g,i*2+1,none⟩=false:=by
 rcases aX h.own with⟨hv,h0⟩|⟨g,cap,hv,h1,h2,h3,h4⟩
 ·exact .inl ⟨hv,List.length_eq_zero_iff.1 h0⟩
 ·refine .inr ⟨g,cap,hv,h1,fun e=>h.off (by rw[hv,e];rfl),h3,by unfold maxLen at h4;omega,fun i hi=>?_⟩;have ho:=h.own;rw[hv] at ho;have a:=dU qX ho i 0 hi (by omega);have b:=dU qX ho i 1 hi (by omega);exact⟨a.1,b.1,b.2⟩
theorem zHo {w:World} {B:Nat} {v:Value} {ks:List ByteArray} (h:w.ownsRow B 9 1 v ks.length (ks.map Value.string)):
  (v=.slice none 0 0/\ks=[])∨∃ g cap,v=.slice (some ⟨g,0,none⟩) ks.length cap/\ks.length<=cap/\cap<=9223372036854775807/\∀ i (hi:i<ks.length),w.cell? ⟨g,i,none⟩=some (.string ks[i]):=by
 rcases aX h with⟨hv,h0⟩|⟨g,cap,hv,h1,h2,h3,h4⟩
 ·exact .inl ⟨hv,List.length_eq_zero_iff.1 h0⟩
 ·refine .inr ⟨g,cap,hv,h3,by unfold maxLen at h4;omega,fun i hi=>?_⟩;rw[hv] at h;have:=h.cellAt i (by omega);rw[this];simp[hi]
def inH (hb:Nat) (v:Value) (dv:List (aU×Value)) (k:Nat):Prop:=k=hb∨v.ownBlock=some k∨∃ p∈dv,p.2.ownBlock=some k
theorem zM7 {w:World} {B hb:Nat} {Xc:Nat->Option Value} {v:Value} {dv:List (aU×Value)} (h:bP w B hb Xc v dv) {k:Nat} (hk:inH hb v dv k):k<w.heap.size:=by
 rcases hk with rfl|e|⟨p,hp,e⟩
 ·exact h.lt
 ·exact(h.own.lt k e).2
 ·exact((h.keys p hp).lt k e).2
theorem bP.kept {w w':World} {B hb:Nat} {Xc:Nat->Option Value} {v:Value} {dv:List (aU×Value)} (h:bP w B hb Xc v dv) (hk:∀ k,inH hb v dv k->w'.heap[k]?=w.heap[k]?):bP w' B hb Xc v dv where
 cell:=(World.cell?_of_block (w:=w) (hk hb (.inl rfl))).trans h.cell
 soft:=(World.frozen?_of_block (w:=w) (hk hb (.inl rfl))).trans h.soft
 lo:=h.lo
 own:=aI h.own fun k e=>hk k (.inr (.inl e))
 keys:=fun p hp=>aI (h.keys p hp) fun k e=>hk k (.inr (.inr ⟨p,hp,e⟩))
 off:=h.off
 offk:=h.offk
 apart:=h.apart
 pair:=h.pair
 rest:=fun j=>⟨fun hj=>(World.cell?_of_block (w:=w) (hk hb (.inl rfl))).trans ((h.rest j).1 hj),(World.frozen?_of_block (w:=w) (hk hb (.inl rfl))).trans (h.rest j).2⟩
def cmpI (x y:Int):Int:=if x<y then -1 else if y<x then 1 else 0
theorem zLT (x y:Int) (w:World):Calls Tryz.prog 245 #[.int .i64 x,.int .i64 y] w fun e w'=>e=.returned (.int .i64 (cmpI x y))/\w'=w:=by
 rcases Int.lt_trichotomy x y with h|h|h
 ·have e:cmpI x y=-1:=by simp[cmpI,h]
  have E:=hide e;clear e;go_enter Tryz.func245,Tryz.ntmps245;go_wp2;go_ret;exact⟨iJ E.out.symm,rfl⟩
 ·have e:cmpI x y=0:=by simp[cmpI,h]
  have E:=hide e;have h1:¬x<y:=by omega
  have h2:¬y<x:=by omega
  clear e h;go_enter Tryz.func245,Tryz.ntmps245;go_wp2;go_ret;exact⟨iJ E.out.symm,rfl⟩
 ·have e:cmpI x y=1:=by simp[cmpI,h];omega
  have E:=hide e;have h1:¬x<y:=by omega
  clear e;go_enter Tryz.func245,Tryz.ntmps245;go_wp2;go_ret;exact⟨iJ E.out.symm,rfl⟩
theorem pU (x y:Int) (v:Value) (w:World):Calls Tryz.prog 244 #[.agg #[.int .i64 x,v],.int .i64 y] w fun e w'=>e=.returned (.int .i64 (cmpI x y))/\Below w.heap.size w w':=by
 go_enter Tryz.func244,Tryz.ntmps244;go_wp2_with (go_at_call 245;refine(zLT _ _ _).mono ?_;rintro e w1 ⟨rfl,rfl⟩)
 go_ret;exact⟨rfl,below_alloc1 _ _⟩
theorem zK6 {x y:Int} (h:x<y):cmpI x y=-1:=by simp[cmpI,h]
theorem zMF {x y:Int} (h:y<=x):0<=cmpI x y/\cmpI x y<=1:=by
 unfold cmpI;rw[if_neg (by omega)];split<;>omega
theorem zMc (x y:Int):(cmpI x y==0)=(x==y):=by
 rw[Bool.eq_iff_iff];simp only[beq_iff_eq];unfold cmpI;split
 ·omega
 ·split<;>omega
def zN (w:World) (g:Nat) (dv:List (aU×Value)):Prop:=∀ i (hi:i<dv.length),w.cell? ⟨g,i*2,none⟩=some (.int .i64 dv[i].1.n)/\w.cell? ⟨g,i*2+1,none⟩=some dv[i].2
theorem zBy {w w':World} {g:Nat} {dv:List (aU×Value)} (hb:Below w.heap.size w w') (h:zN w g dv):zN w' g dv:=fun i hi=>⟨aA hb (h i hi).1,aA hb (h i hi).2⟩
def ofDV (dv:List (aU×Value)):List aU:=dv.map (·.1)
theorem zK9 {dv:List (aU×Value)} {n:Int} {i:Nat} (hp:posD (ofDV dv) n=i) (hi:i<dv.length):iN (ofDV dv) n=(dv[i].1.n==n):=by
 unfold iN;rw[hp,List.getElem?_eq_getElem (by simpa[ofDV] using hi)];simp[ofDV]
theorem zLp {dv:List (aU×Value)} {n:Int} {i:Nat} (hp:posD (ofDV dv) n=i) (hi:dv.length<=i):iN (ofDV dv) n=false:=by
 unfold iN;rw[hp,List.getElem?_eq_none (by simpa[ofDV] using hi)]
theorem zEI (dv:List (aU×Value)) (g cap:Nat) (n:Int) (w:World) (hl:zN w g dv) (hr:gS (ofDV dv)) (hn:dv.length<=1000000):
  Calls Tryz.prog 243 #[.slice (some ⟨g,0,none⟩) dv.length cap,.int .i64 n,.func (Fn.func 244) #[] #[]] w
   fun e w'=>e=.returned (.tuple #[.int .i64 (posD (ofDV dv) n),.bool (iN (ofDV dv) n)])/\Below w.heap.size w w':=by
 have HR:=hide hr;clear hr;go_enter Tryz.func243,Tryz.ntmps243;go_wp2
 go_loopw [9,10] (fun i j wr=>∃ p q:Nat,p<=q/\q<=dv.length/\i=.int .i64 p/\j=.int .i64 q/\(∀ m (hm:m<dv.length),m<p->dv[m].1.n<n)/\(∀ m (hm:m<dv.length),q<=m->n<=dv[m].1.n)/\Below w.heap.size w wr) (fun i j _=>(intOf j).toNat-(intOf i).toNat)
 case atStart=>exact⟨0,dv.length,Nat.zero_le _,Nat.le_refl _,rfl,rfl,fun m hm h=>by omega,fun m hm h=>by omega,Below.refl _ _⟩
 case round=>
  obtain⟨p,q,hpq,hq,rfl,rfl,h1,h2,hB⟩:=hrel;have H1:=hide h1;have H2:=hide h2;clear h1 h2;by_cases hlt:p<q
  ·have hlt':(p:Int)<(q:Int):=by omega
   obtain⟨m,em⟩:∃ m,m=(p+q) / 2:=⟨_,rfl⟩;have hm:m<dv.length:=by omega
   have b1:p<=m:=by omega
   have b2:m<q:=by omega
   obtain⟨c0,c1⟩:=zBy hB hl m hm;have hmi:((p:Int)+(q:Int)) / 2=(m:Int):=by omega
   clear em;by_cases hc:dv[m].1.n<n
   ·have hcm:=zK6 hc;have N1:Hid (∀ k (hk:k<dv.length),k<m+1->dv[k].1.n<n):=fun k hk hk'=>by
     rcases Nat.lt_or_ge k m with h|h
     ·have h3:=nW HR.out (i:=k) (j:=m) (by simpa[ofDV] using hm) h;simp[ofDV] at h3;omega
     ·have e:k=m:=by omega
      subst e;exact hc
    clear hc;go_wp2_with (go_at_call 244;refine(pU _ _ _ _).mono ?_;rintro e w1 ⟨rfl,hb⟩;replace hB:=aB hB (Nat.le_refl _) hb;clear hb)
    go_roundw
    case rel=>exact⟨m+1,q,by omega,hq,by go_num,rfl,N1.out,H2.out,hB⟩
    case measure=>simp[intOf];omega
   ·obtain⟨k0,k1⟩:=zMF (x:=dv[m].1.n) (y:=n) (by omega);have N2:Hid (∀ k (hk:k<dv.length),m<=k->n<=dv[k].1.n):=fun k hk hk'=>by
     rcases Nat.lt_or_ge m k with h|h
     ·have h3:=nW HR.out (i:=m) (j:=k) (by simpa[ofDV] using hk) h;simp[ofDV] at h3;omega
     ·have e:k=m:=by omega
      subst e;omega
    have hcf:¬cmpI dv[m].1.n n<0:=by omega
    clear hc;go_wp2_with (go_at_call 244;refine(pU _ _ _ _).mono ?_;rintro e w1 ⟨rfl,hb⟩;replace hB:=aB hB (Nat.le_refl _) hb;clear hb)
    go_roundw
    case rel=>exact⟨p,m,by omega,by omega,rfl,rfl,H1.out,N2.out,hB⟩
    case measure=>simp[intOf];omega
  ·have hlt':¬(p:Int)<(q:Int):=by omega
   have epq:p=q:=by omega
   subst epq;have HP:=hide (zFd (ds:=ofDV dv) (n:=n) (i:=p) (by simpa[ofDV] using hq) (fun m hm h=>by simpa[ofDV] using H1.out m (by simpa[ofDV] using hm) h) (fun m hm h=>by simpa[ofDV] using H2.out m (by simpa[ofDV] using hm) h));by_cases hp:p<dv.length
   ·have HK:=hide (zK9 HP.out hp);have hp':(p:Int)<(dv.length:Int):=by omega
    obtain⟨c0,c1⟩:=zBy hB hl p hp;have HC:=hide (zMc dv[p].1.n n);go_wp2_with (go_at_call 244;refine(pU _ _ _ _).mono ?_;rintro e w1 ⟨rfl,hb⟩;replace hB:=aB hB (Nat.le_refl _) hb;clear hb)
    go_ret2;exact⟨by rw[HP.out,HK.out,<-HC.out];rfl,hB⟩
   ·have HK:=hide (zLp HP.out (by omega));have hp':¬(p:Int)<(dv.length:Int):=by omega
    go_wp2;go_ret2;exact⟨by rw[HP.out,HK.out];rfl,hB⟩
theorem zEm (n:Int) (w:World):
  Calls Tryz.prog 243 #[.slice none 0 0,.int .i64 n,.func (Fn.func 244) #[] #[]] w
   fun e w'=>e=.returned (.tuple #[.int .i64 0,.bool false])/\w'=w:=by
 go_enter Tryz.func243,Tryz.ntmps243;go_wp2;refine wp_loop_rounds 1 ?_;rw[rounds_succ];go_wp2;go_ret2;exact⟨rfl,rfl⟩
theorem bP.deeds {w:World} {B hb:Nat} {Xc:Nat->Option Value} {v:Value} {dv:List (aU×Value)} (h:bP w B hb Xc v dv) {g cap:Nat} (hv:v=.slice (some ⟨g,0,none⟩) dv.length cap):zN w g dv:=by
 rcases h.form with⟨h1,_⟩|⟨g',cap',h1,_,_,_,_,h2⟩
 ·rw[h1] at hv;cases hv
 ·rw[h1] at hv;cases hv;exact fun i hi=>⟨(h2 i hi).1,(h2 i hi).2.1⟩
theorem tP (dv:List (aU×Value)) (B hb:Nat) {Xc:Nat->Option Value} (v:Value) (n:Int) (w:World) (h:bP w B hb Xc v dv) (hr:gS (ofDV dv)) (hn:dv.length<=1000000):
  Calls Tryz.prog 187 #[.pointer (some ⟨hb,2,none⟩),.int .i64 n] w fun e w'=>e=.returned (.tuple #[.int .i64 (posD (ofDV dv) n),.bool (iN (ofDV dv) n)])/\Below w.heap.size w w':=by
 have c:=h.cell;have HR:=hide hr;rcases h.form with⟨rfl,rfl⟩|⟨g,cap,rfl,_,_,_,_,_⟩
 ·clear hr;go_enter Tryz.func187,Tryz.ntmps187;go_wp2_with (go_at_call 243;refine(zEm _ _).mono ?_;rintro e w1 ⟨rfl,rfl⟩)
  go_ret2;exact⟨rfl,Below.refl _ _⟩
 ·have hd:=h.deeds rfl;clear hr;go_enter Tryz.func187,Tryz.ntmps187;go_wp2_with (go_at_call 243;refine(zEI dv g cap n _ hd HR.out hn).mono ?_;rintro e w1 ⟨rfl,hb⟩)
  go_ret2;exact⟨rfl,hb⟩
theorem lY (dv:List (aU×Value)) (B hb:Nat) {Xc:Nat->Option Value} (v:Value) (n:Int) (w:World) (h:bP w B hb Xc v dv) (hr:gS (ofDV dv)) (hn:dv.length<=1000000):
  Calls Tryz.prog 126 #[.pointer (some ⟨hb,2,none⟩),.int .i64 n] w fun e w'=>e=.returned (.int .i64 (cR (ofDV dv) n))/\Below w.heap.size w w':=by
 have hp:posD (ofDV dv) n<=1000000:=Nat.le_trans (zE3 _ _) (by simpa[ofDV] using hn)
 cases hk:iN (ofDV dv) n with
 | true=>
  have HA:=hide (show cR (ofDV dv) n=posD (ofDV dv) n+1 by simp[cR,hk]);have HR:=hide hr;have HK:=hide hk;clear hr hk;go_enter Tryz.func126,Tryz.ntmps126;go_wp2_with (go_at_call 187;refine(tP dv B hb v n _ h HR.out hn).mono ?_;rintro e w1 ⟨rfl,hb⟩;rw[HK.out])
  go_ret;exact⟨iJ (by rw[HA.out];omega),hb⟩
 | false=>
  have HA:=hide (show cR (ofDV dv) n=posD (ofDV dv) n by simp[cR,hk]);have HR:=hide hr;have HK:=hide hk;clear hr hk;go_enter Tryz.func126,Tryz.ntmps126;go_wp2_with (go_at_call 187;refine(tP dv B hb v n _ h HR.out hn).mono ?_;rintro e w1 ⟨rfl,hb⟩;rw[HK.out])
  go_ret;exact⟨iJ (by rw[HA.out]),hb⟩
end
end Go.Proofs.YtnboipekkahmnaaGreatDoor
