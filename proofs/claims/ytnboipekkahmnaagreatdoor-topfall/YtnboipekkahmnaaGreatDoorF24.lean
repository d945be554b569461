import Derived.Test.YtnboipekkahmnaaGreatDoorF23
import Derived.Test.YtnboipekkahmnaaGreatDoorRows
import Derived.Deep.SlicePairs
set_option maxHeartbeats 8000000
set_option maxRecDepth 100000
namespace Go.Proofs.YtnboipekkahmnaaGreatDoor
open World renaming cell?_of_block→b_,ownsRow.lt→l_
open Go.RowKit.Below renaming refl→r_
open Nat renaming le_refl→n_
open Go.Proofs.Tryz renaming prog→p_
open Go.Joins renaming below_alloc1→a_
section
open Go.RowKit Go.Joins
attribute [local go_sem ↓] Go.wp_at_zero Go.wp_at_succ
section
variable {B db:Nat} {S:Nat->Prop} {s:DSt}
structure MidK (k:Int) (loose:List (List Wr)) (K:List ByteArray) (i j:Nat) (K':List ByteArray):Prop where
 len:K'.length=K.length
 big:∀ x∈K',x.size=96
 at_:∀ m (h:m<K.length) (h':m<loose.length),K'[m]?=some (if m<i then oP k loose[m] K[m] else if m=i then oP k (loose[m].take j) K[m] else K[m])
theorem MidK.start {k:Int} {loose:List (List Wr)} {K:List ByteArray} (hb:∀ x∈K,x.size=96):MidK k loose K 0 0 K:=⟨rfl,hb,fun m h h'=>by
 rw[List.getElem?_eq_getElem h,if_neg (by omega)];split
 ·rfl
 ·rfl⟩
theorem MidK.next {k:Int} {loose:List (List Wr)} {K K':List ByteArray} {i j:Nat} (h:MidK k loose K i j K') (hi:i<loose.length) (hj:loose[i].length<=j):MidK k loose K (i+1) 0 K':=⟨h.len,h.big,fun m hm h'=>by
 rw[h.at_ m hm h'];congr 1;by_cases e:m<i
 ·rw[if_pos e,if_pos (by omega)]
 ·rw[if_neg e];by_cases e2:m=i
  ·subst e2;rw[if_pos rfl,if_pos (by omega),List.take_of_length_le hj]
  ·rw[if_neg e2,if_neg (by omega)];split
   ·rfl
   ·rfl⟩
theorem zDV {k:Int} {l:List Wr} {j:Nat} (hj:j<l.length) (d:ByteArray):oP k (l.take (j+1)) d=if pA k l[j].1.toNat then l[j].2 else oP k (l.take j) d:=by
 rw[List.take_succ_eq_append_getElem hj,zE]
theorem MidK.skip {k:Int} {loose:List (List Wr)} {K K':List ByteArray} {i j:Nat} (h:MidK k loose K i j K') (hi:i<loose.length) (hj:j<loose[i].length) (hb:pA k loose[i][j].1.toNat=false):MidK k loose K i (j+1) K':=⟨h.len,h.big,fun m hm h'=>by
 rw[h.at_ m hm h'];congr 1;by_cases e:m<i
 ·rw[if_pos e,if_pos e]
 ·rw[if_neg e,if_neg e];by_cases e2:m=i
  ·subst e2;rw[if_pos rfl,if_pos rfl,zDV hj,hb];rfl
  ·rw[if_neg e2,if_neg e2]⟩
theorem MidK.set {k:Int} {loose:List (List Wr)} {K K':List ByteArray} {i j:Nat} (h:MidK k loose K i j K') (hi:i<loose.length) (hj:j<loose[i].length) (hb:pA k loose[i][j].1.toNat=true) (hz:loose[i][j].2.size=96):MidK k loose K i (j+1) (K'.set i loose[i][j].2):=⟨by rw[List.length_set];exact h.len,fun x hx=>(List.mem_or_eq_of_mem_set hx).elim (h.big x) (fun e=>by rw[e];exact hz),fun m hm h'=>by
 by_cases e2:m=i
 ·subst e2;rw[List.getElem?_set_self (by rw[h.len];exact hm),if_neg (by omega),if_pos rfl,zDV hj,hb];rfl
 ·rw[List.getElem?_set_ne (Ne.symm e2),h.at_ m hm h'];congr 1;by_cases e:m<i
  ·rw[if_pos e,if_pos e]
  ·rw[if_neg e,if_neg e,if_neg e2,if_neg e2]⟩
theorem MidK.done {k:Int} {n:Nat} {wait:List (Nat×ByteArray)} {loose:List (List Wr)} {K K':List ByteArray} {j:Nat} (h:MidK k loose K n j K') (ho:jK n wait loose) (hK:K.length=n):K'=fJ k 0 wait K:=by
 apply List.ext_getElem?;intro m;rw[zEE];by_cases hm:m<K.length
 ·rw[h.at_ m hm (by rw[ho.len,<-hK];exact hm),if_pos (by omega),List.getElem?_eq_getElem hm,ho.same m (by rw[ho.len,<-hK];exact hm)];rfl
 ·rw[List.getElem?_eq_none (by rw[h.len];omega),List.getElem?_eq_none (by omega)];rfl
theorem DBy.keptSet {w:World} {nb kb lb n a:Nat} {lv:List Value} {now kpt:List ByteArray} {loose:List (List Wr)} {next L:Int} {down:Bool} {d:ByteArray} (h1:DHd w db nb kb lb n next L down) (h2:DBy w B db nb kb lb n lv now kpt loose) (ha:a<kpt.length) (hd:d.size=96):
  w.there kb (a*96) 96/\DHd (w.setCells kb (a*96) (secV d)) db nb kb lb n next L down/\DBy (w.setCells kb (a*96) (secV d)) B db nb kb lb n lv now (kpt.set a d) loose/\aG w (w.setCells kb (a*96) (secV d)) B (inD db nb kb lb lv) (inD db nb kb lb lv)/\(w.setCells kb (a*96) (secV d)).heap[db]?=w.heap[db]?:=by
 have hl:(secV d).length=96:=(cM d).trans hd;have hfl:(kpt.flatMap secV).length=kpt.length*96:=cC (z:=96) fun x hx=>(cM x).trans (h2.sk x hx);have hap:=h2.ap;have k1:∀ k,k≠kb->(w.setCells kb (a*96) (secV d)).heap[k]?=w.heap[k]?:=fun k hk=>cA kb _ _ _ hk;have hb:a*96+(secV d).length<=(kpt.flatMap secV).length:=by rw[hl,hfl];omega
 refine⟨rL h2.hk (by rw[hfl];omega),h1.kept (k1 db hap.2.1),{ h2 with hn:=(k1 nb hap.2.2.2.1).trans h2.hn,hk:=?_,hl:=(k1 lb hap.2.2.2.2.2.symm).trans h2.hl,nk:=by rw[List.length_set];exact h2.nk,sk:=fun x hx=>(List.mem_or_eq_of_mem_set hx).elim (h2.sk x) (fun e=>by rw[e];exact hd),own:=fun i hi h'=>gD (h2.own i hi h') fun k e=>k1 k (h2.apo i hi k e).2.2.1 },⟨dW h2.lo.2.2.1 _ _ _ (r_ _ _),fun k _ hn=>⟨k1 k fun e=>hn (.inr (.inr (.inl e))),hn⟩⟩,k1 db hap.2.1⟩;rw[eY kb _ (0,0) _ _ w _ h2.hk hb,uV (z:=96) (fun x hx=>(cM x).trans (h2.sk x hx)) a ha d hl]
theorem DBy.nowAll {w:World} {nb kb lb n:Nat} {lv:List Value} {now kpt:List ByteArray} {loose:List (List Wr)} {next L:Int} {down:Bool} (h1:DHd w db nb kb lb n next L down) (h2:DBy w B db nb kb lb n lv now kpt loose) (l:List ByteArray) (hl:l.length=n) (hs:∀ x∈l,x.size=96):
  DHd (w.setCells nb 0 (l.flatMap secV)) db nb kb lb n next L down/\DBy (w.setCells nb 0 (l.flatMap secV)) B db nb kb lb n lv l kpt loose/\aG w (w.setCells nb 0 (l.flatMap secV)) B (inD db nb kb lb lv) (inD db nb kb lb lv)/\(w.setCells nb 0 (l.flatMap secV)).heap[db]?=w.heap[db]?:=by
 have hap:=h2.ap;have hfl:(l.flatMap secV).length=n*96:=by rw[cC (z:=96) fun x hx=>(cM x).trans (hs x hx),hl]
 have hkl:(now.flatMap secV).length=n*96:=by rw[cC (z:=96) fun x hx=>(cM x).trans (h2.sn x hx),h2.nn]
 have k1:∀ k,k≠nb->(w.setCells nb 0 (l.flatMap secV)).heap[k]?=w.heap[k]?:=fun k hk=>cA nb _ _ _ hk;refine⟨h1.kept (k1 db hap.1),{ h2 with hn:=?_,hk:=(k1 kb hap.2.2.2.1.symm).trans h2.hk,hl:=(k1 lb hap.2.2.2.2.1.symm).trans h2.hl,nn:=hl,sn:=hs,own:=fun i hi h'=>gD (h2.own i hi h') fun k e=>k1 k (h2.apo i hi k e).2.1 },⟨dW h2.lo.2.1 _ _ _ (r_ _ _),fun k _ hn=>⟨k1 k fun e=>hn (.inr (.inl e)),hn⟩⟩,k1 db hap.1⟩;rw[eY nb _ (0,0) _ 0 w _ h2.hn (by rw[hfl,hkl];omega),zB _ _ (by rw[hfl,hkl])]
theorem DBy.on {w w':World} {nb kb lb n:Nat} {lv:List Value} {now kpt:List ByteArray} {loose:List (List Wr)} {next L:Int} {down:Bool} (h1:DHd w db nb kb lb n next L down) (h2:DBy w B db nb kb lb n lv now kpt loose) (hb:Below w.heap.size w w'):DHd w' db nb kb lb n next L down/\DBy w' B db nb kb lb n lv now kpt loose:=
 ⟨h1.kept (hb.block db h1.lt),h2.kept fun k _ hk=>hb.block k (h2.lt h1.lt hk)⟩
structure RstI (w wr:World) (B db nb kb lb n:Nat) (lv:List Value) (loose:List (List Wr)) (s:DSt) (k L:Int) (i j:Nat):Prop where
 h1:DHd wr db nb kb lb n ((s.wait.length % 64:Nat):Int) L s.down
 ex:∃ K',MidK k loose s.kept i j K'/\DBy wr B db nb kb lb n lv s.now K' loose
 st:aG w wr B (inD db nb kb lb lv) (inD db nb kb lb lv)
 lo:B<=wr.heap.size
theorem zIs (k:Int) (w:World) (h:DK w B db S s):Calls p_ 57 #[.pointer (some ⟨db,0,none⟩),.int .u64 k] w fun e w'=>e=.returned (.tuple #[])/\ActD w w' B db S (kR s k):=by
 obtain⟨nb,kb,lb,n,lv,loose,L,h1,h2,hS,h4,h5,h6,h7⟩:=h;subst hS;have c2:=h1.c2;have hn:=h2.n1;have HI0:Hid (RstI w w B db nb kb lb n lv loose s k L 0 0):=⟨h1,⟨_,.start h2.sk,h2⟩,.refl h7,h7⟩;have H4:=hide h4;have H5:=hide h5;have H6:=hide h6;have HKN:=hide h2.nk;have HNL:=hide h2.nl;have HNO:=hide h2.no;clear h1 h2 h4 h5 h6;go_enter Tryz.func57,Tryz.ntmps57;go_wp2
 go_loopw [13] (fun iv wr=>∃ i:Nat,i<=n/\iv=.int .i64 (i:Int)/\RstI w wr B db nb kb lb n lv loose s k L i 0) (fun iv _=>n-(intOf iv).toNat)
 case atStart=>exact⟨0,Nat.zero_le _,rfl,HI0.out⟩
 case round=>
  obtain⟨i,hi,rfl,hI⟩:=hrel;by_cases hlt:i<n
  ·have hlt':(i:Int)<(n:Int):=by omega
   obtain⟨h1,⟨K',hm,h2⟩,h3,h3l⟩:=hI;have hil:i<lv.length:=by rw[HNL.out];exact hlt
   have hio:i<loose.length:=by rw[HNO.out];exact hlt
   have cl:wr.cell? ⟨lb,i,none⟩=some lv[i]:=by rw[cell_of_row wr lb i _ _ _ h2.hl,List.getElem?_toArray];exact List.getElem?_eq_getElem hil
   have how:=h2.own i hil hio;obtain⟨ao,m,cap,hv⟩:∃ ao m cap,lv[i]=.slice ao m cap:=by
    rcases how.1.2 with⟨e,_⟩|⟨g,cap,cur,e,_⟩
    ·exact⟨_,_,_,e⟩
    ·exact⟨_,_,_,e⟩
   rw[hv] at cl how;have hsh:=H4.out.short hio;have hml:m=loose[i].length:=by
    rcases how.1.2 with⟨e,e2⟩|⟨g',cap',cur',e,_⟩
    ·cases e;exact e2.symm
    ·cases e;rfl
   have HM:=hide hml;have HV:=hide hv;have HI1:Hid (RstI w wr B db nb kb lb n lv loose s k L i 0):=⟨h1,⟨K',hm,h2⟩,h3,h3l⟩;have hm64:m<=64:=by omega
   clear h1 h2 h3 h3l hm how hml hv hsh;go_wp2
   go_loopw [20] (fun jv wr=>∃ j:Nat,j<=m/\jv=.int .i64 (j:Int)/\RstI w wr B db nb kb lb n lv loose s k L i j) (fun jv _=>m-(intOf jv).toNat)
   case atStart=>exact⟨0,Nat.zero_le _,rfl,HI1.out⟩
   case round=>
    obtain⟨j,hj,rfl,h1,⟨K',hm,h2⟩,h3,h3l⟩:=hrel;by_cases hlt2:j<m
    ·have hlt2':(j:Int)<(m:Int):=by omega
     have hjl:j<loose[i].length:=by rw[<-HM.out];exact hlt2
     have how:=h2.own i hil hio;rw[HV.out] at how;obtain⟨g,hg⟩:∃ g,ao=some ⟨g,0,none⟩:=by
      rcases how.1.2 with⟨e,e2⟩|⟨g',cap',cur',e,_⟩
      ·rw[e2] at hjl;omega
      ·cases e;exact⟨_,rfl⟩
     subst hg;have hra:=yM how hjl;have hsx:=how.2 _ (List.getElem_mem hjl);have hbx:=(H4.out.bits i hio).1 _ (List.getElem_mem hjl);have HMS:=hide (fun hb=>hm.set hio hjl hb hsx);have HMK:=hide (fun hb=>hm.skip hio hjl hb);have hiK:i<K'.length:=by rw[hm.len,HKN.out];exact hlt
     obtain⟨g1,g2⟩:=DBy.on h1 h2 (a_ wr (.cells (bL loose[i][j]).toArray 200));obtain⟨q1,q2⟩:=DBy.on g1 g2 (r_ _ (wr.alloc (.cells (bL loose[i][j]).toArray 200))).drew;have HSA:=hide (h3.trans (aG.on (S:=inD db nb kb lb lv) h3l (a_ wr (.cells (bL loose[i][j]).toArray 200))));have HSB:=hide (HSA.out.trans (aG.on (S:=inD db nb kb lb lv) (w:=wr.alloc (.cells (bL loose[i][j]).toArray 200)) (by simp;omega) (r_ _ _).drew));have HKS:=hide (DBy.keptSet q1 q2 hiK hsx);have HG1:=hide g1;have HG2:=hide g2;have hkbl:kb<wr.heap.size:=h2.lt h1.lt (.inr (.inr (.inl rfl)));have c1:=q1.c1;generalize hxe:loose[i][j]=x at *;have HRA:=hide hra;have hb0:=hbx.1;have hb1:=hbx.2.1;have hcl:(bL x).length=97:=aY hsx;have hz:(Tryz.zeroCells200).size=97:=by kernel_rfl
     have hst:=zBB (P:=p_) wr Tryz.zeroCells200 200 (bL x) (by rw[hcl,hz]) (qY x);have c00:(wr.alloc (.cells (bL x).toArray 200)).cell? ⟨wr.heap.size,0,none⟩=some (.int .i64 x.1):=by rw[aC];rfl
     have hrd:(wr.alloc (.cells (bL x).toArray 200)).drew.rangeAt wr.heap.size 1 (secV x.2):=(World.rangeAt_drew _ _ _ _).2 (jD (Go.heap_alloc_new wr _) fun j _=>by rw[Nat.add_comm];rfl);have HXE:=hide hxe;clear hz hra hbx how h1 h2 h3 hm g1 g2 q1 q2 hxe hiK
     cases hkb:pA k x.1.toNat with
     | true=>
      have hkb':(Go.bits .and .u64 (k / 2 ^ x.1.toNat) 1==1)=true:=hkb;have HMS':=hide (HMS.out hkb);clear hkb HMS HMK;go_wp2_with (first
       | (refine wpList_load_mid (by rfl) 200 _ (by rfl) g (j*97) (by rfl) (bL x) _ HRA.out Tryz.underlying200 (by rfl) (by rw[aY hsx];exact gA) ?_)
       | fail)
      obtain⟨hth,r1,r2,r3,r4⟩:=HKS.out;have HR1:=hide r1;have HR2:=hide r2;have HR3:=hide (HSB.out.trans r3);have HC4:Hid (((wr.alloc (.cells (bL x).toArray 200)).drew.setCells kb (i*96) (secV x.2)).cell? ⟨db,1,none⟩=some (.slice (some ⟨kb,0,none⟩) n n)):=(b_ (a:=⟨db,1,none⟩) r4).trans c1;have HT4:=hide (World.there_setCells hth kb (i*96) (secV x.2));have HR4:=hide (World.rangeAt_setCells_apart hrd kb (i*96) (secV x.2) (.inl (by omega)));have hu:=Tryz.underlying198;have hcs:(secV x.2).length=96:=(cM _).trans hsx;have hi2:(Tryz.prog.info? 198).map (·.size)=some (secV x.2).length:=by rw[hcs];exact nV
      have h1c:=rV x.2;have hia0:(0:Int)<=(i:Int):=by omega
      clear r1 r2 r3 r4 hst c00
      go_region_held3 (fun w'=>w'.cell? ⟨db,1,none⟩=some (.slice (some ⟨kb,0,none⟩) n n)/\w'.rangeAt wr.heap.size 1 (secV x.2)/\w'.there kb (i*96) 96) (first|exact⟨HC4.out,HR4.out,HT4.out⟩|exact⟨c1,hrd,hth⟩) (fail)
      clear hrd hth c1 hi2 hu h1c;have HLO:Hid (B<=((wr.alloc (.cells (bL x).toArray 200)).drew.setCells kb (i*96) (secV x.2)).heap.size):=hide (by have:=HR3.out.bel.size;omega);generalize (wr.alloc (.cells (bL x).toArray 200)).drew.setCells kb (i*96) (secV x.2)=W4 at *;go_wp2;exact⟨⟨j+1,by omega,by go_num,HR1.out,⟨_,HMS'.out,HR2.out⟩,HR3.out,HLO.out⟩,by simp[intOf];omega⟩
     | false=>
      have hkb':(Go.bits .and .u64 (k / 2 ^ x.1.toNat) 1==1)=false:=hkb;have HMK':=hide (HMK.out hkb);clear hkb HMS HMK;go_wp2_with (first
       | (refine wpList_load_mid (by rfl) 200 _ (by rfl) g (j*97) (by rfl) (bL x) _ HRA.out Tryz.underlying200 (by rfl) (by rw[aY hsx];exact gA) ?_)
       | fail)
      exact⟨⟨j+1,by omega,by go_num,HG1.out,⟨_,HMK'.out,HG2.out⟩,HSA.out,by simp;omega⟩,by simp[intOf];omega⟩
    ·have ej:j=m:=by omega
     subst ej;have hlt2':¬(j:Int)<(j:Int):=by omega
     have HI2:Hid (RstI w wr B db nb kb lb n lv loose s k L (i+1) 0):=⟨h1,⟨K',hm.next hio (by rw[<-HM.out];exact n_ _),h2⟩,h3,h3l⟩;clear h1 h2 h3 hm;go_wp2;exact⟨⟨i+1,by omega,by go_num,HI2.out⟩,by simp[intOf];omega⟩
  ·have ei:i=n:=by omega
   subst ei;have hlt':¬(i:Int)<(i:Int):=by omega
   obtain⟨h1,⟨K',hm,h2⟩,h3,h3l⟩:=hI;have hKe:=hm.done H4.out HKN.out;obtain⟨q1,q2⟩:=DBy.on h1 h2 (r_ _ wr).drew;obtain⟨r1,r2,r3,r4⟩:=DBy.nowAll q1 q2 K' h2.nk h2.sk;have hcp:=uY (P:=p_) wr.drew 191 191 3 198 96 nb 0 i i i (.slice (some ⟨kb,0,none⟩) i i) (s.now.flatMap secV) 198 (K'.flatMap secV) Tryz.underlying191 nV q2.hn rfl
    (by
     have hl:=run_loadCells_list (P:=p_) wr.drew ⟨kb,0,none⟩ (K'.flatMap secV) (fun j v hv=>by
      rw[Go.Addr.add_mid,cell_of_row wr.drew kb (0+j) _ _ _ q2.hk,List.getElem?_toArray,Nat.zero_add];exact hv)
     rw[cC (z:=96) fun x hx=>(cM x).trans (h2.sk x hx),h2.nk] at hl;simp only[Builtin.firstCells,Nat.min_self];exact hl)
    (by rw[cC (z:=96) fun x hx=>(cM x).trans (h2.sk x hx),h2.nk,cC (z:=96) fun x hx=>(cM x).trans (h2.sn x hx),h2.nn];omega)
    (fun v hv=>by obtain⟨x,_,hx⟩:=List.mem_flatMap.1 hv;exact rV x v hx)
   have c0:=q1.c0;have c1:=q1.c1;have HSW:=hide ((h3.trans (aG.on (S:=inD db nb kb lb lv) h3l (r_ _ wr).drew)).trans r3);have HC:Hid ((wr.drew.setCells nb 0 (K'.flatMap secV)).cell? ⟨db,0,none⟩=some (.slice (some ⟨nb,0,none⟩) i i)/\(wr.drew.setCells nb 0 (K'.flatMap secV)).cell? ⟨db,1,none⟩=some (.slice (some ⟨kb,0,none⟩) i i)):=⟨(b_ (a:=⟨db,0,none⟩) r4).trans c0,(b_ (a:=⟨db,1,none⟩) r4).trans c1⟩;have HDK:Hid (DK (wr.drew.setCells nb 0 (K'.flatMap secV)) B db (inD db nb kb lb lv) ⟨K',K',s.wait,s.left,s.down⟩):=
    ⟨nb,kb,lb,i,lv,loose,L,r1,r2,rfl,H4.out,H5.out,H6.out,by have:=HSW.out.bel.size;omega⟩
   have hmn:Nat.min i i=i:=Nat.min_self i;have HKE:=hide hKe;clear h1 h2 h3 hm hKe q1 q2 r1 r2 r3 r4;generalize hfm:K'.flatMap secV=cs at *;clear hfm;go_wp2_with fail
   go_region_held3 (fun w'=>w'.cell? ⟨db,0,none⟩=some (.slice (some ⟨nb,0,none⟩) i i)/\w'.cell? ⟨db,1,none⟩=some (.slice (some ⟨kb,0,none⟩) i i)) (first|go_keep|exact HC.out) (fail)
   have HT:=hide (zDW _ HDK.out);clear HDK HC hcp c0 c1;generalize wr.drew.setCells nb 0 cs=W4 at *;go_wp2_with fail;refine HT.out.mono ?_;rintro e w3 ⟨rfl,S3,hk3,hs3⟩;have HS3:=hide (HSW.out.trans hs3);have HS3b:=hide hk3.db_in;obtain⟨nb',kb',lb',n',lv',loose',L',g1,g2,hS',g4,g5,g6,g7⟩:=hk3;have c5:=g1.c5;have c4:=g1.c4;have f5:=g1.soft 5;have f4:=g1.soft 4;have HE:Hid (ActD w3 ((w3.setCell ⟨db,5,none⟩ (.bool false)).setCell ⟨db,4,none⟩ (.int .i64 (-1))) B db S3 ⟨K',K',[],-1,false⟩):=
    ⟨S3,⟨nb',kb',lb',n',lv',loose',-1,(g1.down' false).left' (-1),(g2.head 5 _).head 4 _,hS',g4,g5,fun _=>⟨rfl,by decide,by decide⟩,by simpa using g7⟩,(zBW HS3b.out g2.lo.1 5 _).trans (zBW HS3b.out g2.lo.1 4 _)⟩
   clear g1 g2 g4 g5 g6 hS' hs3;go_wp2;go_end0;refine⟨rfl,?_⟩;unfold kR;rw[<-HKE.out];exact ActD.after HS3.out HE.out
end
section
variable {B db:Nat} {S:Nat->Prop} {s:DSt}
theorem zNJ (w:World) (h:DK w B db S s):Calls p_ 56 #[.pointer (some ⟨db,0,none⟩)] w fun e w'=>e=.returned (.bool s.down)/\w'=w:=by
 obtain⟨nb,kb,lb,n,lv,loose,L,h1,h2,_⟩:=h;have c5:=h1.c5;clear h1 h2;generalize s.down=dn at *;go_enter Tryz.func56,Tryz.ntmps56;go_wp2;go_ret;exact⟨rfl,rfl⟩
theorem zNS (a:Int) (w:World) (h:DK w B db S s) (ha0:-9223372036854775808<=a) (ha1:a<=9223372036854775807):Calls p_ 53 #[.pointer (some ⟨db,0,none⟩),.int .i64 a] w fun e w'=>e=.returned (.tuple #[])/\ActD w w' B db S (armD s a):=by
 obtain⟨nb,kb,lb,n,lv,loose,L,h1,h2,hS,h4,h5,h6,h7⟩:=h;have c4:=h1.c4;have f4:=h1.soft 4;have HE:Hid (ActD w (w.setCell ⟨db,4,none⟩ (.int .i64 a)) B db S (armD s a)):=
  ⟨S,⟨nb,kb,lb,n,lv,loose,a,h1.left' a,h2.head _ _,hS,h4,h5,fun _=>⟨rfl,ha0,ha1⟩,by simpa using h7⟩,zBW (by rw[hS];exact .inl rfl) h2.lo.1 _ _⟩
 clear h1 h2 h4 h5 h6 hS;go_enter Tryz.func53,Tryz.ntmps53;go_wp2;go_end0;exact⟨rfl,HE.out⟩
end
end
section
open Go.RowKit Go.Joins Go.Shelf
structure FlI (w0 wr:World) (B:Nat) (m:EMem) (s:ESt) (v:Value):Prop where
 ek:EK wr B m s
 ar:xH s 120
 rv:tG wr B (allF m s.ses) v (aS s.x.rows)
 bel:Below w0.heap.size w0 wr
 lo:w0.heap.size<=B
 la:Laid w0
structure FlE (w0 wr:World) (B db:Nat) (v v2:Value):Prop where
 ex:∃ S d l l2,DK wr B db S d/\tG wr B S v l/\tG wr B S v2 l2/\∀ k,(kR d k).now.length=120/\∃ rows,(aS rows=l∨aS rows=l2)/\zFP (kR d k) rows
 bel:Below w0.heap.size w0 wr
 lo:w0.heap.size<=B
structure NxV (w0 wr:World) (B:Nat) (m:EMem) (s:ESt) (v v2:Value) (x:ActL):Prop where
 i:FlI w0 wr B m s v
 ex:∃ l2,tG wr B (allF m s.ses) v2 l2/\∀ r,zNX s x r->aS r=aS s.x.rows∨aS r=l2
section
variable {w0 wr w':World} {B:Nat} {m m':EMem} {s s':ESt} {v v2:Value} {l2:Rws}
theorem FlI.on (h:FlI w0 wr B m s v) (hb:Below wr.heap.size wr w'):FlI w0 w' B m s v:={ h with ek:=h.ek.on hb,rv:=h.rv.on hb,bel:=aB h.bel (n_ _) hb }
theorem FlI.laid (h:FlI w0 wr B m s v):∀ W,Below B wr W->Laid W:=fun _ hW=>iL h.la (h.bel.trans (hW.mono h.lo))
theorem FlI.fine (h:FlI w0 wr B m s v) (h2:tG wr B (allF m s.ses) v2 l2):FlE w0 wr B m.db v v2:=by
 obtain⟨S,k1,k2⟩:=h.ek.sa.disk;have hS:∀ k,S k->allF m s.ses k:=fun k e=>⟨1,k2 k e⟩;refine⟨⟨S,s.x.d,_,_,k1,h.rv.less hS,h2.less hS,fun k=>?_⟩,h.bel,h.lo⟩;obtain⟨r1,r2⟩:=cQ.restart h.ar.ok.g k;exact⟨r2.trans h.ar.len,s.x.rows,.inl rfl,_,_,_,r1⟩
theorem zNT (n:Int) (h:RunE w0 wr B m s 120) (hr:s.x.rows=[]) (h0:-9223372036854775808<=n) (h1:n<=9223372036854775807):
  Calls p_ 53 #[.pointer (some ⟨m.db,0,none⟩),.int .i64 n] wr fun e w'=>e=.returned (.tuple #[])/\∃ m' s',FlI w0 w' B m' s' (.slice none 0 0)/\m'.eb=m.eb/\m'.db=m.db/\s'.c=s.c:=by
 obtain⟨lb,S,v,q1,hT⟩:=h.ek.sa;refine(zNS n wr q1.lk.dk h0 h1).mono ?_;rintro e w' ⟨rfl,S2,k1,k2⟩;have ha:ActS wr w' B m.sb m.db m.Ts { s.x with d:=armD s.x.d n }:=by
  rw[hT];exact⟨_,⟨lb,S2,v,q1.step k1 k2 rfl,rfl⟩,zMG k2⟩
 obtain⟨T',e1,e2,_⟩:=h.ek.store ha;refine⟨rfl,_,_,⟨e1,⟨h.fit.ok.store (cQ.arm h.fit.ok.g n) rfl,h.fit.s4,h.fit.len⟩,?_,h.bel.trans (e2.bel.mono h.lo),h.lo,h.la⟩,rfl,rfl,rfl⟩;show tG w' B _ _ (aS s.x.rows);rw[hr];exact⟨World.ownsRow_nil _ _ _ _,fun k e=>by cases e⟩
theorem zJD (h:FlI w0 wr B m s v) {i:Nat} {u:VwL} (hu:s.ses i=some u):
  Calls p_ 55 #[.pointer (some ⟨(m.W i).1,0,none⟩)] wr fun e w'=>∃ ca cc,e=.returned (.slice ca u.chs.length cc)/\bW w' ca u.chs/\Below wr.heap.size wr w':=by
 refine(rF wr (h.ek.vw i u hu) (by have:=(h.ar.ok.ses i u hu).ov.cn;omega)).mono ?_;rintro e w' ⟨cv,rfl,ho,hb⟩;obtain⟨ca,cc,rfl,hc,_⟩:=qP ho;exact⟨ca,cc,rfl,hc,hb⟩
theorem zI4 (h:FlI w0 wr B m s v) {i:Nat} {u:VwL} (hu:s.ses i=some u) {x:ActL} (hx:sesX x=i) {ca:Option Addr} {cc:Nat} (hc:bW wr ca u.chs):
  ∃ ra rc,v=.slice ra (aS s.x.rows).length rc/\Calls p_ 54 #[.slice ra (aS s.x.rows).length rc,.slice ca u.chs.length cc] wr fun e w'=>∃ v2,e=.returned v2/\NxV w0 w' B m s v v2 x:=by
 obtain⟨ra,rc,e,hh,hnil⟩:=h.rv.form;have hsm:=zNF h.ar.ok;refine⟨ra,rc,e,(zK0 (aS s.x.rows) ra rc u.chs ca cc wr hh hnil hc (by omega) (by have:=(h.ar.ok.ses i u hu).ov.cn;omega)).mono ?_⟩;rintro e w' ⟨v2,rfl,ho,hb⟩;refine⟨v2,rfl,h.on hb,_,⟨ownsRow_le ho h.ek.blo,fun k e ⟨j,hj⟩=>?_⟩,fun r hr=>?_⟩
 ·have h1:=(l_ ho k e).1;have h2:=h.ek.lt hj;omega
 ·rcases hr with e|⟨_,u',hu',e⟩
  ·exact .inl (by rw[e])
  ·right;rw[hx,hu] at hu';cases hu';rw[e,zBY (cQ.fine h.ar.ok.g)]
theorem FlI.same (h:FlI w0 wr B m s v) {x:ActL} (hx:(x.kind.toList==kZ)=false∨s.ses (sesX x)=none):NxV w0 wr B m s v v x:=
 ⟨h,_,h.rv,fun r hr=>by
  rcases hr with e|⟨hk,u,hu,_⟩
  ·exact .inl (by rw[e])
  ·rcases hx with hx|hx
   ·rw[hx] at hk;cases hk
   ·rw[hx] at hu;cases hu⟩
structure FlP (w0 w':World) (B:Nat) (m0 m':EMem) (s s':ESt) (v v2:Value):Prop where
 ek:EK w' B m' s'
 eb:m'.eb=m0.eb
 db:m'.db=m0.db
 c:s'.c<=s.c+1
 bel:Below w0.heap.size w0 w'
 lo:w0.heap.size<=B
 la:Laid w0
 ex:∃ l2,tG w' B (allF m' s'.ses) v2 l2
 or:xH s' 120∨(s'.x.d.down=true/\FlE w0 w' B m'.db v v2)
theorem zNM (x:ActL) (ao:Option Addr) (cap:Nat) (h:NxV w0 wr B m s v v2 x) (hd:iM w0 ao [x]) (hl:fT x) (hc:s.c<=150):
  Calls p_ 37 #[.pointer (some ⟨m.eb,0,none⟩),.slice ao 1 cap] wr fun e w'=>∃ ov,e=.returned ov/\∃ m',FlP w0 w' B m m' s (hO s [x]).e v v2:=by
 have hsz:=h.i.bel.size;have hi:=h.i;have h0:EK wr B { m with Q:=fun _=>False } s:=⟨hi.ek.hi,hi.ek.sa,hi.ek.vs,hi.ek.vw,hi.ek.ds,hi.ek.ap,hi.ek.mn,hi.ek.s4⟩;refine(zKm [x] ao cap wr h0 (by simp) hi.laid (fun W hW=>?_) (fun y hy=>by rw[List.mem_singleton.1 hy];exact hl) (fun _ h=>h.elim) (fun _ _ h=>h) (fun k hk=>?_)).mono ?_
 ·have hh:iM W ao [x]:=zFH hd fun k hk=>by
   refine(hW k (by omega) fun ⟨i,e⟩=>?_).trans (hi.bel.block k hk);have:=hi.ek.low e;have:=hi.lo;omega
  exact⟨hh,fun x hx=>(zBU hh hx).elim fun b hb=>hb.elim fun off ha=>ha.hs⟩
 ·have e:k=0:=by simpa using hk
  subst e;exact⟨hi.ar.ok,hc⟩
 ·rintro e w' ⟨ov,rfl,pb,m',cur,outs,hR⟩;obtain⟨f1,f2⟩:zHT s (hO s [x]).e 120 x:=xH.ply (p:=⟨s,fun _=>noD,[]⟩) hi.ar x;obtain⟨l2,hl2,hmay⟩:=h.ex;have hv2:=hl2.step hR.st;refine⟨ov,rfl,m',hR.ek,hR.eb,hR.db.1,f1,hi.bel.trans (hR.st.bel.mono hi.lo),hi.lo,hi.la,⟨l2,hv2⟩,f2.imp id fun ⟨d1,d2⟩=>⟨d1,?_⟩⟩;obtain⟨S,k1,k2⟩:=hR.ek.sa.disk;have hS:∀ k,S k->allF m' (hO s [x]).e.ses k:=fun k e=>⟨1,k2 k e⟩;refine⟨⟨S,_,_,_,k1,(hi.rv.step hR.st).less hS,hv2.less hS,fun k=>?_⟩,hi.bel.trans (hR.st.bel.mono hi.lo),hi.lo⟩;obtain⟨q1,r,q2,q3⟩:=d2.2 k;exact⟨q1,r,hmay r q2,q3⟩
theorem zNL {m0:EMem} (h:FlP w0 wr B m0 m s' s v v2):Calls p_ 56 #[.pointer (some ⟨m0.db,0,none⟩)] wr fun e w'=>e=.returned (.bool s.x.d.down)/\w'=wr:=by
 obtain⟨S,k1,_⟩:=h.ek.sa.disk;rw[h.db] at k1;exact zNJ wr k1
theorem zNN {m0:EMem} (h:FlP w0 wr B m0 m s' s v v2) (ha:xH s 120):Calls p_ 35 #[.pointer (some ⟨m0.eb,0,none⟩)] wr fun e w'=>∃ v',e=.returned v'/\FlI w0 w' B m s v'/\∃ l2,tG w' B (allF m s.ses) v2 l2:=by
 have hsm:=ha.ok.few;rw[<-h.eb];refine(zBq wr h.ek (by omega)).mono ?_;rintro e w' ⟨v',rfl,ho,hb⟩;obtain⟨l2,hl2⟩:=h.ex;refine⟨v',rfl,⟨h.ek.on hb,ha,⟨ownsRow_le ho h.ek.blo,fun k e ⟨j,hj⟩=>?_⟩,aB h.bel (n_ _) hb,h.lo,h.la⟩,l2,hl2.on hb⟩;have h1:=(l_ ho k e).1;have h2:=h.ek.lt hj;omega
theorem zNU {S:Nat->Prop} {d:DSt} {db area first u:Nat} {rows:List Chg} (w:World) (hk:DK w B db S d) (hr:cQ d area first u rows):
  Calls p_ 27 #[.pointer (some ⟨db,0,none⟩)] w fun e w'=>∃ eb,e=.returned (.tuple #[.pointer (some ⟨eb,0,none⟩),.nilIface])/\Below w.heap.size w w'/\Calls p_ 35 #[.pointer (some ⟨eb,0,none⟩)] w' fun e w''=>∃ ra rc,e=.returned (.slice ra (aS rows).length rc)/\bY w'' ra (aS rows)/\Below w'.heap.size w' w'':=by
 have hfew:=hr.few;refine(zIf w hk hr).mono ?_;rintro e w' ⟨eb,rfl,hn⟩;obtain⟨m2,hek,he,_,_⟩:=hn.ex;refine⟨eb,rfl,hn.bel,?_⟩;rw[<-he];refine(zBq w' hek (by show rows.length<=1000;omega)).mono ?_;rintro e w'' ⟨v,rfl,ho,hb⟩;obtain⟨ra,rc,rfl,hh⟩:=lV ho;exact⟨ra,rc,rfl,hh,hb⟩
end
end
section
open Go.RowKit Go.Joins Go.Shelf
attribute [local go_sem ↓] Go.wp_at_zero Go.wp_at_succ
theorem topFall_walk (l:List ActL) (ao:Option Addr) (cap:Nat) (fuse key:Int) (w:World) (hL:Laid w) (hd:iM w ao l) (hcap:l.length<=cap) (hfu0:-9223372036854775808<=fuse) (hfu:fuse<=9223372036854775807):
  Calls p_ 11 #[.slice ao l.length cap,.int .i64 fuse,.int .u64 key] w fun e w'=>e=.returned (.bool true)/\Below w.heap.size w w':=by
 have nn:=eG;have ne:=pX;have n1:=bM 114;have n2:=rD 114;have HL:=hide hL;have HD:=hide hd;clear hL hd;go_enter Tryz.func11,Tryz.ntmps11;go_wp2_with fail;refine(zHJ w).mono ?_;rintro e w1 ⟨rfl,hb1⟩;have HB1:=hide hb1;have HD1:=hide (zHR hb1 HD.out);clear hb1;go_wp2_with fail;refine(zCZ l 80 cap ao w1 HD1.out (by omega)).mono ?_;rintro e w2 ⟨rfl,hw2⟩;rw[hw2];clear hw2;cases hlA:gT l 80
 ·go_wp2;go_ret;exact⟨rfl,HB1.out⟩
 obtain⟨hll,hli⟩:=zIQ HD.out hlA;have HLI:=hide hli;clear hlA hli;go_wp2_with fail;refine(zEi 120 w w1 (by decide) (by decide) HL.out HB1.out).mono ?_;rintro e w3 ⟨db,eb,rfl,m,s,hrun,rfl,rfl,fr⟩;have HAR:Hid (∀ n:Int,n=min (max fuse (-1)) 400->Calls p_ 53 #[.pointer (some ⟨m.db,0,none⟩),.int .i64 n] w3 fun e w'=>e=.returned (.tuple #[])/\∃ m' s',FlI w w' w1.heap.size m' s' (.slice none 0 0)/\m'.eb=m.eb/\m'.db=m.db/\s'.c=s.c):=fun n hn=>zNT n hrun fr.rows (by omega) (by omega);have hc0:=fr.c;generalize w1.heap.size=B at *;clear hrun fr HB1 HD1
 go_upto_block 0 with(first
  | (go_at_call 53;refine(HAR.out _ rfl).mono ?_;rintro e w5 ⟨rfl,ha5⟩;have HT0:=hide ha5;clear ha5)
  | fail)
 clear HAR
 go_cut [10,11] (fun v v2 wx=>FlE w wx B m.db v v2)
 case first=>
  go_wp2_with fail
  go_loopw [10,11,12] (fun v v2 iv wr=>∃ (k:Nat) (m':EMem) (s':ESt),k<=l.length/\iv=.int .i64 (k:Int)/\FlI w wr B m' s' v/\(∃ l2,tG wr B (allF m' s'.ses) v2 l2)/\m'.eb=m.eb/\m'.db=m.db/\s'.c<=k) (fun _ _ iv _=>l.length-(intOf iv).toNat)
  case atStart=>
   obtain⟨m',s',h1,h2,h3,h4⟩:=HT0.out;exact⟨0,m',s',Nat.zero_le _,rfl,h1,⟨[],⟨World.ownsRow_nil _ _ _ _,fun k e=>by cases e⟩⟩,h2,h3,by omega⟩
  case round=>
   obtain⟨k,m',s',hk,rfl,hI,hl2,heb,hdb,hcc⟩:=hrel;clear HT0;have HI:=hide hI;have HL2:=hide hl2;clear hI hl2;by_cases hlt:k<l.length
   ·have hlt':(k:Int)<(l.length:Int):=by omega
    have hk0:(0:Int)<=(k:Int):=by omega
    have hk1:(k:Int)+1<=(cap:Int):=by omega
    have hk2:k+1<=cap:=by omega
    rcases HD.out with e|⟨b,off,e,hc⟩
    ·rw[e] at hlt;simp at hlt
    subst e;have hx:=hc k hlt;have HX:=hide hx;have HLX:=hide (HLI.out _ (List.getElem_mem hlt));clear hc;generalize l[k]=x at *;have hse:=zL3 x;have hslt:=zFf x;have x0:=aA HI.out.bel HX.out.kind;have x3:=aA HI.out.bel HX.out.c;have hac1:iM w (some ⟨b,off+k*9,none⟩) [x]:=.inr ⟨b,off+k*9,rfl,fun i hi=>by
     have e:i=0:=by simpa using hi
     subst e;simpa using HX.out⟩
    have HPA:Hid (∀ W v2,NxV w W B m' s' u10 v2 x->Calls p_ 37 #[.pointer (some ⟨m.eb,0,none⟩),.slice (some ⟨b,off+k*9,none⟩) 1 (cap-k)] W fun e w'=>∃ ov,e=.returned ov/\∃ m6,FlP w w' B m' m6 s' (hO s' [x]).e u10 v2):=fun W v2 h=>by
     have:=zNM x (some ⟨b,off+k*9,none⟩) (cap-k) h hac1 HLX.out (by omega);rw[heb] at this;exact this
    clear hac1 HL2;have h3:((x.kind.toList==[99,111,109,109,105,116])=true/\∃ u,s'.ses (sesX x)=some u)∨((x.kind.toList==[99,111,109,109,105,116])=true/\s'.ses (sesX x)=none)∨(x.kind.toList==[99,111,109,109,105,116])=false:=by
     cases (x.kind.toList==[99,111,109,109,105,116])<;>cases s'.ses (sesX x)<;>simp
    generalize hs6:(hO s' [x]).e=s6 at *;clear hs6;rcases h3 with⟨kc,u,hu⟩|⟨kc,hu⟩|kc
    focus
     have HDE:=hide (mT wr HI.out.ek hslt hu);rw[heb] at HDE;have HCH:=hide (zJD HI.out hu);go_wp2_with fail;refine HDE.out.mono ?_;rintro e w4 ⟨rfl,hw4⟩;rw[hw4];clear hw4 HDE;generalize (m'.W (sesX x)).1=wb at *;go_wp2_with fail;refine HCH.out.mono ?_;rintro e w5 ⟨ca,cc,rfl,hc5,hb5⟩;obtain⟨ra,rc,ev,hap⟩:=zI4 (HI.out.on hb5) hu rfl hc5 (cc:=cc);have HAP:=hide hap;have HEV:=hide ev;clear hap HCH hc5;rw[ev] at HPA HAP ⊢;clear ev;go_wp2_with fail;refine HAP.out.mono ?_;rintro e w7 ⟨v2,rfl,hnx⟩;have HPL:=hide (HPA.out w7 v2 hnx);clear hnx HAP
    rotate_left
    focus
     have HDE:=hide (pC wr HI.out.ek hslt hu);have HE7:Hid (errV 7=.iface 114 (.int .i64 7)):=rfl;rw[heb,HE7.out] at HDE;go_wp2_with fail;refine HDE.out.mono ?_;rintro e w4 ⟨rfl,hw4⟩;rw[hw4];clear hw4 HDE;have HPL:=hide (HPA.out wr u10 (HI.out.same (.inr hu)))
    rotate_left
    focus
     have HDE:Hid (∃ pv ev,Calls p_ 28 #[.pointer (some ⟨m.eb,0,none⟩),.int .i64 (sesX x:Int)] wr fun e w'=>e=.returned (.tuple #[pv,ev])/\w'=wr):=by
      cases hu:s'.ses (sesX x) with
      | none=>
       have h9:=pC wr HI.out.ek hslt hu;rw[heb] at h9;exact⟨_,_,h9⟩
      | some u=>
       have h9:=mT wr HI.out.ek hslt hu;rw[heb] at h9;exact⟨_,_,h9⟩
     obtain⟨pv,ev,hde⟩:=HDE.out;have HD2:=hide hde;clear hde HDE;go_wp2_with fail;refine HD2.out.mono ?_;rintro e w4 ⟨rfl,hw4⟩;rw[hw4];clear hw4 HD2;have HPL:=hide (HPA.out wr u10 (HI.out.same (.inl kc)))
    all_goals
     clear HPA HI;go_wp2_with fail;refine HPL.out.mono ?_;rintro e w6 ⟨ov,rfl,m6,hP⟩;have HDN:=hide (zNL hP);rw[hdb] at HDN;have he6:=hP.eb.trans heb;have hd6:=hP.db.trans hdb;have hc6:=hP.c;rcases hP.or with ha|⟨hdn,hE⟩
     ·rw[ha.up] at HDN;have HRW:=hide (zNN hP ha);rw[heb] at HRW;clear hP ha HPL;go_wp2_with fail;refine HDN.out.mono ?_;rintro e w7 ⟨rfl,hw7⟩;rw[hw7];clear hw7 HDN;go_wp2_with fail;refine HRW.out.mono ?_;rintro e w8 ⟨v8,rfl,hI8,hl8⟩;have HI8:=hide hI8;have HL8:=hide hl8;clear hI8 hl8 HRW;go_wp2_with fail;exact⟨⟨k+1,m6,s6,by omega,by go_num,HI8.out,HL8.out,he6,hd6,by omega⟩,by simp[intOf];omega⟩
     ·rw[hdn] at HDN;rw[hd6] at hE;have HE:=hide hE;clear hP hE HPL;go_wp2_with fail;refine HDN.out.mono ?_;rintro e w7 ⟨rfl,hw7⟩;rw[hw7];clear hw7 HDN;go_wp2_with fail;go_meet;exact HE.out
   ·have ek:k=l.length:=by omega
    subst ek;have hlt':¬(l.length:Int)<(l.length:Int):=by omega
    obtain⟨l2,hl2⟩:=HL2.out;have hE:=HI.out.fine hl2;rw[hdb] at hE;have HE:=hide hE;clear hE hl2 HL2 HI;go_wp2_with fail;go_meet;exact HE.out
 case rest=>
  obtain⟨S,d,L1,L2,hk,hv1,hv2,hres⟩:=hcut.ex;have HBC:=hide hcut.bel;have hlo:=hcut.lo;obtain⟨h120,rows,hor,hrg⟩:=hres key;obtain⟨ar,fi,us,hrest⟩:=hrg;have HRS:=hide (zIs key wc hk);generalize kR d key=d9 at *;have HOR:=hide hor;have HRE:=hide hrest;have HV1:=hide hv1;have HV2:=hide hv2;clear hk hres hor hrest hv1 hv2 hcut h120 HT0;go_wp2_with fail;refine HRS.out.mono ?_;rintro e w8 ⟨rfl,S8,hk8,hs8⟩;have HV18:=hide (HV1.out.step hs8);have HV28:=hide (HV2.out.step hs8);have HB8:=hide (HBC.out.trans (hs8.bel.mono hlo));have HOP:=hide (zNU w8 hk8 HRE.out);have hfew:=cQ.few HRE.out;have hrl:(aS rows).length<=40:=by unfold aS;rw[List.length_map];exact hfew
  clear hk8 hs8 HV1 HV2 HRS;go_wp2_with fail;refine HOP.out.mono ?_;rintro e w9 ⟨eb2,rfl,hb9,hro⟩;have HRO:=hide hro;have HV19:=hide (HV18.out.on hb9);have HV29:=hide (HV28.out.on hb9);have HB9:=hide (aB HB8.out (n_ _) hb9);clear hb9 hro HOP HV18 HV28;go_wp2_with fail;refine HRO.out.mono ?_;rintro e w10 ⟨ga,gc,rfl,hga,hb10⟩;obtain⟨fa,fc,e1,hfa,_⟩:=(HV19.out.on hb10).form;obtain⟨ea,ec,e2,hea,_⟩:=(HV29.out.on hb10).form;have HS1:=hide (zCV (aS rows) L1 ga fa gc fc w10 hga hfa (by omega));have HS2:Hid (∀ W,Below w10.heap.size w10 W->Calls p_ 34 #[.slice ga (aS rows).length gc,.slice ea L2.length ec] W fun e w'=>∃ b,e=.returned (.bool b)/\(b=true↔aS rows=L2)/\Below W.heap.size W w'):=fun W hb=>zCV (aS rows) L2 ga ea gc ec W (lX hb hga) (lX hb hea) (by omega);have HB10:=hide (aB HB9.out (n_ _) hb10);subst e1;subst e2;clear hga hfa hea hb10 HRO HV19 HV29;go_wp2_with fail;refine HS1.out.mono ?_;rintro e w11 ⟨b1,rfl,hb1e,hb11⟩;have HB1E:=hide hb1e;have HB11:=hide hb11;clear hb1e hb11 HS1
  cases b1 with
  | true=>
   clear HS2;go_wp2;go_ret;exact⟨rfl,aB HB10.out (n_ _) HB11.out⟩
  | false=>
   have hL2:aS rows=L2:=by
    rcases HOR.out with e|e
    ·exact absurd (HB1E.out.2 e) (by decide)
    ·exact e
   have HS3:=hide (HS2.out _ HB11.out);have HLL:=hide hL2;clear hL2;go_wp2_with fail;refine HS3.out.mono ?_;rintro e w12 ⟨b2,rfl,hb2e,hb12⟩;have hb2t:b2=true:=hb2e.2 HLL.out;subst hb2t;have HB12:=hide (aB (aB HB10.out (n_ _) HB11.out) (n_ _) hb12);clear hb2e hb12 HS3;go_wp2;go_ret;exact⟨rfl,HB12.out⟩
end
section
open Go.ChangeShapes Go.WideShapes Go.ChangeAt Go.RowKit
theorem Tryz.own:ownKnob Tryz.prog.godebug=none:=by kernel_rfl
theorem Tryz.laidOut:laidOutB p_=true:=by kernel_rfl
theorem yO {H:Type} {enc:TypeId×Value->H} {P:Program} (hl:laidOutB P=true) {W W':World} (hb:Below W.heap.size W W'):
  ∀ (ts:List TypeId) (vs:List Value) (ds:List (DataW H)) (ps:List MemPlace),(∀ t∈ts,P.readableRec t=true/\t<P.types.size)->
   DataW.TrodAll enc P W 0 (fun _=>true) true ts vs ds ps->(∀ x∈ps,x.block<W.heap.size)->
   DataW.TrodAll enc P W' 0 (fun b=>decide (b<W.heap.size)) true ts vs ds ps
 | [],vs,ds,ps,_,h,_=>by
  obtain⟨rfl,rfl,rfl⟩:=trodAll_nil h;exact trodAll_mk0
 | t::ts,vs,ds,ps,hr,h,hlt=>by
  obtain⟨v,vs',d,ds',p,q,rfl,rfl,rfl,h0,r0⟩:=trodAll_cons h;exact trodAll_cons_mk (Below.trod hl (hr t (by simp)).1 (hr t (by simp)).2 h0 hb (fun x hx=>hlt x (by simp[hx])))
   (yO hl hb ts vs' ds' q (fun t' ht=>hr t' (by simp[ht])) r0 (fun x hx=>hlt x (by simp[hx])))
theorem zKX {H:Type} {enc:TypeId×Value->H} {P:Program} {f:Func} {s:ChangeSpec} {tb:TypeId} {W W':World} {args:Array Value} {ds gs:List (DataW H)} {before:List MemPlace}
  (hl:laidOutB P=true) (hrt:f.resultTypes=#[tb]) (htb:P.underlying tb=some .bool) (hv:s.vars=[])
  (hrd:∀ t∈f.params.toList,P.readableRec t=true/\t<P.types.size)
  (hW:DataW.Whole enc P f.params.toList s.vars false W args.toList ds gs before) (hs:s.fn H (ds++gs)={ results:=[.lit (.bool true)],args:=ds }) (hb:Below W.heap.size W W'):
  s.post enc P f false true false false W args (.bool true) W':=by
 have hlt:∀ x∈before,x.block<W.heap.size:=fun x hx=>hW.lt x hx;have hW':=hW;obtain⟨p,q,hA,hV,rfl,_,_⟩:=hW;rw[hv] at hV;obtain⟨rfl,rfl⟩:=trodVars_none hV;refine⟨ds,[],p++[],[],p,[],hW',?_,?_,?_,hb.frame _,fun h=>by cases h⟩
 ·rw[hs,hrt];exact trodAll_mk1 (shut_bool htb true)
 ·rw[hs];exact yO hl hb _ _ _ _ hrd hA (fun x hx=>hlt x (by simp[hx]))
 ·rw[hs,hv];rfl
end
section
open Go.ChangeShapes Go.WideShapes Go.ChangeAt Go.RowKit Go.Joins Go.Deep
section
variable {H:Type} {enc:TypeId×Value->H} {w:World} {base:Nat} {held:Bool}
theorem dY {P:Program} {spare:Nat->Bool} {n i:Nat} {t:TypeId} {fs:Array Field} {cs:List Value} {xs:List (DataW H×List MemPlace)} (hxl:xs.length=fs.size)
  (hf:∀ (i:Nat) (f:Field),fs[i]?=some f->DataW.trod enc P w base spare held n f.type ((cs.drop f.offset).take (P.cellsOf f.type))=xs[i]?) {f:Field} (hi:fs[i]?=some f) (ho:f.offset=i) (hc:P.cellsOf f.type=1) (ht:f.type=t) (hl:i<cs.length):
  ∃ v y,cs[i]?=some v/\DataW.trod enc P w base spare held n t [v]=some y:=by
 have h:=hf i f hi;have hx:i<xs.length:=by rw[hxl];exact(Array.getElem?_eq_some_iff.1 hi).1
 rw[ho,hc,ht,List.getElem?_eq_getElem hx] at h;have e:(cs.drop i).take 1=[cs[i]]:=by
  rw[List.drop_eq_getElem_cons hl];rfl
 rw[e] at h;exact⟨_,_,List.getElem?_eq_getElem hl,h⟩
theorem zFG {a:Int} (h:(Lit.int .i64 a).wf=true):-9223372036854775808<=a/\a<=9223372036854775807:=by
 simpa[Lit.wf,IntKind.min,IntKind.signed,IntKind.bits] using h
theorem zH9 {v:Value} {fuel:Nat} {x:DataW H×List MemPlace} (h:DataW.trod enc p_ w base (fun _=>true) held fuel 36 [v]=some x):∃ (ao:Option Addr) (cap:Nat) (l:List Chg),v=.slice ao l.length cap/\bW w ao l:=by
 rcases open_slice Tryz.underlying36 h with⟨hcs,_⟩|⟨a,len,cap,m,n,D,Pl,hcs,_,hl,hm,hmm,_,hx⟩
 ·simp at hcs;subst hcs;exact⟨_,_,[],rfl,.inl rfl⟩
 ·simp at hcs;subst hcs;simp only[if_true] at hmm;by_cases h0:len=0
  ·subst h0;exact⟨_,_,[],rfl,.inl rfl⟩
  ·obtain⟨b,off,spot⟩:=a;have hc3:Tryz.prog.cellsOf 133=3:=by kernel_rfl
   have hspot:spot=none:=by
    obtain⟨cs,h1,_⟩:=hx 0 (by omega);rw[hc3] at h1;obtain⟨_,hlen,hcell⟩:=World.cells?_some h1;have e0:=(hcell 0 (by omega)).trans (List.getElem?_eq_getElem (by omega));simpa[Addr.add] using World.cell?_spot e0
   subst hspot;have each:∀ i,i<len->∃ c:Chg,w.cell? ⟨b,off+i*3,none⟩=some (.string c.key)/\w.cell? ⟨b,off+i*3+1,none⟩=some (.string c.val)/\w.cell? ⟨b,off+i*3+2,none⟩=some (.bool c.gone):=by
    intro i hi;obtain⟨cs,h1,h2⟩:=hx i (by omega);rw[hc3] at h1;obtain⟨_,hlen,hcell⟩:=World.cells?_some h1;obtain⟨xs,k,hk,hxy,_,hxl,hf⟩:=DataW.trod_struct Tryz.underlying133 h2;obtain⟨v0,y0,e0,g0⟩:=dY (i:=0) (t:=9) hxl hf rfl rfl (by kernel_rfl) rfl (by omega);obtain⟨v1,y1,e1,g1⟩:=dY (i:=1) (t:=9) hxl hf rfl rfl (by kernel_rfl) rfl (by omega);obtain⟨v2,y2,e2,g2⟩:=dY (i:=2) (t:=4) hxl hf rfl rfl (by kernel_rfl) rfl (by omega);obtain⟨s0,q0,_,_⟩:=DataW.trod_string Tryz.underlying9 g0;obtain⟨s1,q1,_,_⟩:=DataW.trod_string Tryz.underlying9 g1;obtain⟨b2,q2,_⟩:=DataW.trod_bool Tryz.underlying4 g2;simp at q0 q1 q2;subst q0 q1 q2;have c0:=(hcell 0 (by omega)).trans e0;have c1:=(hcell 1 (by omega)).trans e1;have c2:=(hcell 2 (by omega)).trans e2;rw[add_add,add_plain] at c0 c1 c2;exact⟨⟨s0,s1,b2⟩,by simpa using c0,by simpa[Nat.add_assoc] using c1,by simpa[Nat.add_assoc] using c2⟩
   haveI:Inhabited Chg:=⟨⟨ByteArray.empty,ByteArray.empty,false⟩⟩
   obtain⟨q,hq⟩:=choose_lt each;refine⟨_,cap,(List.range len).map q,by simp,.inr ⟨b,off,rfl,?_⟩⟩;intro i hi;have hi':i<len:=by simpa using hi
   simpa using hq i hi'
theorem zGZ {v:Value} {fuel:Nat} {x:DataW H×List MemPlace} (h:DataW.trod enc p_ w base (fun _=>true) held fuel 37 [v]=some x):
  ∃ (ao:Option Addr) (cap:Nat) (l:List (ByteArray×ByteArray)),v=.slice ao l.length cap/\bY w ao l/\l.length<=maxLen/\(ao=none->cap=0/\l=[]):=by
 rcases open_slice Tryz.underlying37 h with⟨hcs,_⟩|⟨a,len,cap,m,n,D,Pl,hcs,_,hl,hm,hmm,_,hx⟩
 ·simp at hcs;subst hcs;exact⟨_,_,[],rfl,.inl rfl,Nat.zero_le _,fun _=>⟨rfl,rfl⟩⟩
 ·simp at hcs;subst hcs;simp only[if_true] at hmm;by_cases h0:len=0
  ·subst h0;exact⟨_,_,[],rfl,.inl rfl,Nat.zero_le _,fun h=>by cases h⟩
  ·obtain⟨b,off,spot⟩:=a;have hc3:Tryz.prog.cellsOf 80=2:=by kernel_rfl
   have hspot:spot=none:=by
    obtain⟨cs,h1,_⟩:=hx 0 (by omega);rw[hc3] at h1;obtain⟨_,hlen,hcell⟩:=World.cells?_some h1;have e0:=(hcell 0 (by omega)).trans (List.getElem?_eq_getElem (by omega));simpa[Addr.add] using World.cell?_spot e0
   subst hspot;have each:∀ i,i<len->∃ c:ByteArray×ByteArray,w.cell? ⟨b,off+i*2,none⟩=some (.string c.1)/\w.cell? ⟨b,off+i*2+1,none⟩=some (.string c.2):=by
    intro i hi;obtain⟨cs,h1,h2⟩:=hx i (by omega);rw[hc3] at h1;obtain⟨_,hlen,hcell⟩:=World.cells?_some h1;obtain⟨xs,k,hk,hxy,_,hxl,hf⟩:=DataW.trod_struct Tryz.underlying80 h2;obtain⟨v0,y0,e0,g0⟩:=dY (i:=0) (t:=9) hxl hf rfl rfl (by kernel_rfl) rfl (by omega);obtain⟨v1,y1,e1,g1⟩:=dY (i:=1) (t:=9) hxl hf rfl rfl (by kernel_rfl) rfl (by omega);obtain⟨s0,q0,_,_⟩:=DataW.trod_string Tryz.underlying9 g0;obtain⟨s1,q1,_,_⟩:=DataW.trod_string Tryz.underlying9 g1;simp at q0 q1;subst q0 q1;have c0:=(hcell 0 (by omega)).trans e0;have c1:=(hcell 1 (by omega)).trans e1;rw[add_add,add_plain] at c0 c1;exact⟨(s0,s1),by simpa using c0,by simpa[Nat.add_assoc] using c1⟩
   haveI:Inhabited (ByteArray×ByteArray):=⟨(ByteArray.empty,ByteArray.empty)⟩
   obtain⟨q,hq⟩:=choose_lt each;refine⟨_,cap,(List.range len).map q,by simp,.inr ⟨b,off,rfl,?_⟩,by simp;omega,fun h=>by cases h⟩;intro i hi;have hi':i<len:=by simpa using hi
   simpa using hq i hi'
theorem zH6 {v:Value} {fuel:Nat} {x:DataW H×List MemPlace} (h:DataW.trod enc p_ w base (fun _=>true) held fuel 22 [v]=some x):
  ∃ (ao:Option Addr) (cap:Nat) (l:List ActL),v=.slice ao l.length cap/\iM w ao l:=by
 rcases open_slice Tryz.underlying22 h with⟨hcs,_⟩|⟨a,len,cap,m,n,D,Pl,hcs,_,hl,hm,hmm,_,hx⟩
 ·simp at hcs;subst hcs;exact⟨_,_,[],rfl,.inl rfl⟩
 ·simp at hcs;subst hcs;simp only[if_true] at hmm;by_cases h0:len=0
  ·subst h0;exact⟨_,_,[],rfl,.inl rfl⟩
  ·obtain⟨b,off,spot⟩:=a;have hc9:Tryz.prog.cellsOf 39=9:=by kernel_rfl
   have hspot:spot=none:=by
    obtain⟨cs,h1,_⟩:=hx 0 (by omega);rw[hc9] at h1;obtain⟨_,hlen,hcell⟩:=World.cells?_some h1;have e0:=(hcell 0 (by omega)).trans (List.getElem?_eq_getElem (by omega));simpa[Addr.add] using World.cell?_spot e0
   subst hspot;have each:∀ i,i<len->∃ c:ActL,vI w b (off+i*9) c:=by
    intro i hi;obtain⟨cs,h1,h2⟩:=hx i (by omega);rw[hc9] at h1;obtain⟨_,hlen,hcell⟩:=World.cells?_some h1;obtain⟨xs,k,hk,hxy,_,hxl,hf⟩:=DataW.trod_struct Tryz.underlying39 h2;obtain⟨v0,y0,e0,g0⟩:=dY (i:=0) (t:=9) hxl hf rfl rfl (by kernel_rfl) rfl (by omega);obtain⟨v1,y1,e1,g1⟩:=dY (i:=1) (t:=3) hxl hf rfl rfl (by kernel_rfl) rfl (by omega);obtain⟨v2,y2,e2,g2⟩:=dY (i:=2) (t:=3) hxl hf rfl rfl (by kernel_rfl) rfl (by omega);obtain⟨v3,y3,e3,g3⟩:=dY (i:=3) (t:=3) hxl hf rfl rfl (by kernel_rfl) rfl (by omega);obtain⟨v4,y4,e4,g4⟩:=dY (i:=4) (t:=35) hxl hf rfl rfl (by kernel_rfl) rfl (by omega);obtain⟨v5,y5,e5,g5⟩:=dY (i:=5) (t:=9) hxl hf rfl rfl (by kernel_rfl) rfl (by omega);obtain⟨v6,y6,e6,g6⟩:=dY (i:=6) (t:=9) hxl hf rfl rfl (by kernel_rfl) rfl (by omega);obtain⟨v7,y7,e7,g7⟩:=dY (i:=7) (t:=36) hxl hf rfl rfl (by kernel_rfl) rfl (by omega);obtain⟨v8,y8,e8,g8⟩:=dY (i:=8) (t:=37) hxl hf rfl rfl (by kernel_rfl) rfl (by omega);obtain⟨s0,q0,_,_⟩:=DataW.trod_string Tryz.underlying9 g0;obtain⟨s1,q1,_,w1⟩:=DataW.trod_int Tryz.underlying3 g1;obtain⟨s2,q2,_,_⟩:=DataW.trod_int Tryz.underlying3 g2;obtain⟨s3,q3,_,_⟩:=DataW.trod_int Tryz.underlying3 g3;obtain⟨s4,q4,_,_⟩:=DataW.trod_int Tryz.underlying35 g4;obtain⟨s5,q5,_,_⟩:=DataW.trod_string Tryz.underlying9 g5;obtain⟨s6,q6,_,_⟩:=DataW.trod_string Tryz.underlying9 g6;obtain⟨ca,cc,chs,q7,h7⟩:=zH9 g7;obtain⟨sa,sc,sps,q8,h8,n8,_⟩:=zGZ g8;simp at q0 q1 q2 q3 q4 q5 q6;subst q0 q1 q2 q3 q4 q5 q6 q7 q8;have c0:=(hcell 0 (by omega)).trans e0;have c1:=(hcell 1 (by omega)).trans e1;have c2:=(hcell 2 (by omega)).trans e2;have c3:=(hcell 3 (by omega)).trans e3;have c4:=(hcell 4 (by omega)).trans e4;have c5:=(hcell 5 (by omega)).trans e5;have c6:=(hcell 6 (by omega)).trans e6;have c7:=(hcell 7 (by omega)).trans e7;have c8:=(hcell 8 (by omega)).trans e8;rw[add_add,add_plain,<-Nat.add_assoc] at c0 c1 c2 c3 c4 c5 c6 c7 c8;exact⟨⟨s0,s1,s2,s3,s4,s5,s6,ca,cc,chs,sa,sc,sps⟩,⟨c0,c1,c2,c3,c4,c5,c6,c7,c8,h7,h8,n8,zFG w1⟩⟩
   haveI:Inhabited ActL:=⟨⟨ByteArray.empty,0,0,0,0,ByteArray.empty,ByteArray.empty,none,0,[],none,0,[]⟩⟩
   obtain⟨q,hq⟩:=choose_lt each;refine⟨_,cap,(List.range len).map q,by simp,.inr ⟨b,off,rfl,?_⟩⟩;intro i hi;have hi':i<len:=by simpa using hi
   simpa using hq i hi'
end
theorem zCl {H:Type} {enc:TypeId×Value->H} {W:World} {base:Nat} {v:Value} {d:DataW H} {p:List MemPlace}
  (hv:Value.okWide p_ W .any base 22 v) (h:DataW.Trod enc p_ W 0 (fun _=>true) true 22 v d p):∃ (ao:Option Addr) (cap:Nat) (l:List ActL),v=.slice ao l.length cap/\iM W ao l/\l.length<=cap:=by
 obtain⟨a0,len,cap,rfl⟩:=okWide_slice Tryz.underlying22 hv;obtain⟨fuel,hf⟩:=h;have hf':DataW.trod enc p_ W 0 (fun _=>true) true fuel 22 [.slice a0 len cap]=some (d,p):=by simpa[Value.cells] using hf
 have hc:len<=cap:=by
  rcases open_slice Tryz.underlying22 hf' with⟨e,_⟩|⟨a,l,c,m,n,D,Pl,e,_,hl,_⟩
  ·simp at e;omega
  ·simp at e;omega
 obtain⟨ao,c,l,e,hl⟩:=zH6 hf';have e':=e;simp at e';exact⟨ao,c,l,e,hl,by omega⟩
end
end Go.Proofs.YtnboipekkahmnaaGreatDoor
