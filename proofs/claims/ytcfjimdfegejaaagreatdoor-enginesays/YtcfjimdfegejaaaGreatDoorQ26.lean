import Derived.Test.YtcfjimdfegejaaaGreatDoorQ23
set_option maxHeartbeats 8000000
set_option maxRecDepth 100000
namespace Go.Proofs.YtcfjimdfegejaaaGreatDoor
open List renaming getElem?_eq_getElem→VY,getElem_mem→MZ,length_append→YY,length_map→RZ,length_pos_iff→K3,length_take→XY,map_append→X1,mem_singleton→GZ,take_of_length_le→LZ,take_succ_eq_append_getElem→ZY
open Nat renaming zero_add→TZ,zero_le→OZ
open Option renaming some→I0
open Value renaming bool→D5,oneCell'→U1,slice→FZ
open World renaming frozen?_of_block→CZ,news_of_block→V2,ownsRow→F2
open Go.Proofs.Tryz
open Obj renaming cells→o_
open World renaming cell?_of_block→b_,cell?_setCell_other→t_,cell?_setCell_same→u_,ownsRow.lt→l_
open Go.RowKit.Below renaming heap_setCell→h_,refl→r_
open Nat renaming le_refl→n_
open Go.Proofs.Tryz renaming prog→p_
open Value renaming string→v_
open Go.Joins renaming below_alloc1→a_
variable {n i a B sb u many:Nat} {v:Mc} {K:List (List BA)} {ga rows:ta} {X:Nat->Prop} {w:World} {rv:Value}
section
open Go.RowKit Go.Joins
attribute [local go_sem ↓] Go.wp_at_zero Go.wp_at_succ
structure gH (r:Zd) (s:Cc):Prop where
 rows:r.rows=aS s.x.rows
 u:r.u=s.x.used
 many:r.many=s.x.d.now.length-50
 pl:r.PL.length=s.now+1
 last:r.PL[s.now]?=some r.rv
 kk:KK s (r.KL.map (·.1))
 kl:∀ p∈r.KL,p.1.length<=12
def kQ (w w':World) (B:Nat) (X:Nat->Prop) (r:Zd) (s':Cc):Prop:=∃ r',r'.eb=r.eb/\RE w' B X r' s'.Da/\gH r' s'/\iI w w' B X
section
variable {w w':World} {B:Nat} {X:Nat->Prop} {r:Zd} {f:Fs} {s:Cc}
theorem RE.uw (h:RE w B X r f) (hp:r.PL.length=n+1):∃ g cap,r.pv=.slice (some ⟨g,0,none⟩) (n+1) cap/\n+1<=cap/\cap<=9223372036854775807/\∀ i (hi:i<r.PL.length),w.cell? ⟨g,i,none⟩=some r.PL[i]:=by
 have ho:=h.past;rcases aX ho with⟨_,e⟩|⟨g,cap,e,_,_,h3,h4⟩
 ·omega
 ·rw[hp] at e h3;refine⟨g,cap,e,h3,by unfold maxLen at h4;omega,fun i hi=>?_⟩;have:=F2.cells ho (g:=g) (by rw[e];rfl) i r.PL[i] (VY hi);rwa [Go.Addr.add_mid,TZ] at this
theorem RE.same (h:RE w B X r s.Da) (hl:gH r s) (hb:Below w.heap.size w w'):kQ w w' B X r s:=⟨r,rfl,h.on hb,hl,h.here hb⟩
theorem IJ (w:World) (h:RE w B X r f) (hp:r.PL.length=n+1) (hn:n<=1000):Calls p_ 24 #[.pointer (some ⟨r.eb,0,none⟩)] w fun e w'=>e=.returned (.int .i64 (n:Int))/\w'=w:=by
 obtain⟨g,cap,e,_⟩:=h.uw hp;have c:=h.c1;rw[e] at c;clear h e hp;have yl:(n:Int)<=1000:=by omega
 have rz:(0:Int)<=(n:Int):=by omega
 go_enter func24,ntmps24;go_wp2;go_ret;exact⟨rfl,rfl⟩
theorem lA (w:World) (h:RE w B X r f) (hi:i<4) (hv:f i=some v):
  Calls p_ 20 #[.pointer (some ⟨r.eb,0,none⟩),.int .i64 (i:Int)] w fun e w'=>e=.returned (.tuple #[.pointer (some ⟨r.W i,0,none⟩),.int .i64 0])/\w'=w:=by
 have c:=h.cd i hi;unfold qn at c;rw[hv] at c;dsimp only at c;have h1:(0:Int)<=(i:Int):=by omega
 have h2:(i:Int)<4:=by omega
 have h3:decide ((i:Int)<0)=false:=by simp
 have h4:decide ((3:Int)<(i:Int))=false:=by simp;omega
 clear h;go_enter func20,ntmps20;go_wp2;go_ret2;exact⟨rfl,rfl⟩
theorem BS (w:World) (h:RE w B X r f) (hi:i<4) (hv:f i=none):
  Calls p_ 20 #[.pointer (some ⟨r.eb,0,none⟩),.int .i64 (i:Int)] w fun e w'=>e=.returned (.tuple #[.pointer none,.int .i64 7])/\w'=w:=by
 have c:=h.cd i hi;unfold qn at c;rw[hv] at c;dsimp only at c;have h1:(0:Int)<=(i:Int):=by omega
 have h2:(i:Int)<4:=by omega
 have h3:decide ((i:Int)<0)=false:=by simp
 have h4:decide ((3:Int)<(i:Int))=false:=by simp;omega
 clear h;go_enter func20,ntmps20;go_wp2;go_ret2;exact⟨rfl,rfl⟩
theorem IS (eb:Nat) (i:Int) (hi:i<0∨3<i) (w:World):
  Calls p_ 20 #[.pointer (some ⟨eb,0,none⟩),.int .i64 i] w fun e w'=>e=.returned (.tuple #[.pointer none,.int .i64 1])/\w'=w:=by
 have hc:i<0∨(¬i<0/\3<i):=by omega
 rcases hc with h1|⟨h1,h2⟩
 all_goals
  go_enter func20,ntmps20;go_wp2;go_ret2;exact⟨rfl,rfl⟩
theorem zN3 (eb:Nat) (i:Int) (hi:i<0∨3<i) (w:World):
  Calls p_ 10 #[.pointer (some ⟨eb,0,none⟩),.int .i64 i] w fun e w'=>e=.returned (.int .i64 1)/\w'=w:=by
 have hc:i<0∨(¬i<0/\3<i):=by omega
 rcases hc with h1|⟨h1,h2⟩
 all_goals
  go_enter func10,ntmps10;go_wp2;go_ret;exact⟨rfl,rfl⟩
theorem zNB (w:World) (h:RE w B X r f) (hi:i<4) (hv:f i=some v):
  Calls p_ 10 #[.pointer (some ⟨r.eb,0,none⟩),.int .i64 (i:Int)] w fun e w'=>e=.returned (.int .i64 7)/\w'=w:=by
 have c:=h.cd i hi;unfold qn at c;rw[hv] at c;dsimp only at c;have h1:(0:Int)<=(i:Int):=by omega
 have h2:(i:Int)<4:=by omega
 have h3:decide ((i:Int)<0)=false:=by simp
 have h4:decide ((3:Int)<(i:Int))=false:=by simp;omega
 clear h;go_enter func10,ntmps10;go_wp2;go_ret;exact⟨rfl,rfl⟩
theorem RE.begin (h:RE w B X r s.Da) (hl:gH r s) (hi:i<4) (sn:Sn) (bj:sn.n=s.now):
  kQ w ((w.setCell ⟨r.eb,3+i,none⟩ (.pointer (some ⟨w.heap.size,0,none⟩))).alloc (o_ #[r.rv,.int .i64 (s.now:Int),.slice none 0 0,.slice none 0 0] 90)).drew B X r (dX s i):=by
 have Zb:=h.set (3+i) (.pointer (some ⟨w.heap.size,0,none⟩));have hz:(w.setCell ⟨r.eb,3+i,none⟩ (.pointer (some ⟨w.heap.size,0,none⟩))).heap.size=w.heap.size:=by simp
 have Fi:∀ k,k≠r.eb->(w.setCell ⟨r.eb,3+i,none⟩ (.pointer (some ⟨w.heap.size,0,none⟩))).heap[k]?=w.heap[k]?:=fun k hk=>h_ _ _ _ _ hk;have Na:=u_ w ⟨r.eb,3+i,none⟩ (.pointer (some ⟨w.heap.size,0,none⟩)) (h.cd i hi);have NI:∀ j,j≠3+i->(w.setCell ⟨r.eb,3+i,none⟩ (.pointer (some ⟨w.heap.size,0,none⟩))).cell? ⟨r.eb,j,none⟩=w.cell? ⟨r.eb,j,none⟩:=fun j hj=>t_ _ _ _ _ (by simp<;>omega);have El:∀ j,(w.setCell ⟨r.eb,3+i,none⟩ (.pointer (some ⟨w.heap.size,0,none⟩))).frozen? ⟨r.eb,j,none⟩=false:=fun j=>by rw[World.frozen?_setCell];exact h.soft j
 generalize w.setCell ⟨r.eb,3+i,none⟩ (.pointer (some ⟨w.heap.size,0,none⟩))=w5 at *;have hb:=a_ w5 (o_ #[r.rv,.int .i64 (s.now:Int),.slice none 0 0,.slice none 0 0] 90);have cn:=aC w5 #[r.rv,.int .i64 (s.now:Int),.slice none 0 0,.slice none 0 0] 90;have fn:=aQ w5 #[r.rv,.int .i64 (s.now:Int),.slice none 0 0,.slice none 0 0] 90;have Mb:(w5.alloc (o_ #[r.rv,.int .i64 (s.now:Int),.slice none 0 0,.slice none 0 0] 90)).heap.size=w5.heap.size+1:=by simp
 rw[hz] at cn fn Mb;generalize w5.alloc (o_ #[r.rv,.int .i64 (s.now:Int),.slice none 0 0,.slice none 0 0] 90)=w6 at *;have Pe:=(r_ w6.heap.size w6).drew;have Qv:r.eb<w5.heap.size:=by rw[hz];exact h.lt (i:=0) rfl
 obtain⟨ra,rc,e,hh⟩:=lV h.rs.own;have La:∀ k,yh ra k->r.rv.ownBlock=some k/\k<w.heap.size:=fun k hk=>by
  obtain⟨off,hk⟩:=hk;rcases aX h.rs.own with⟨e2,_⟩|⟨g,cap,e2,_⟩
  ·rw[e,hk] at e2;injection e2 with e3;cases e3
  ·have e3:=e2;rw[e,hk] at e3;injection e3 with e3;cases e3;exact⟨by rw[e2];rfl,h.rs.lt (.inr (by rw[e2];rfl))⟩
 have Wi:ra=none->rc=0/\r.rows=[]:=fun e0=>by
  rcases aX h.rs.own with⟨e2,e4⟩|⟨g,cap,e2,_⟩
  ·rw[e,e0] at e2;injection e2 with _ _ e5;exact⟨e5,List.length_eq_zero_iff.1 e4⟩
  ·rw[e,e0] at e2;injection e2 with e3;cases e3
 have hold:∀ k,k<w.heap.size->k≠r.eb->w6.drew.heap[k]?=w.heap[k]?:=fun k hk hn=>(Pe.block k (by omega)).trans ((hb.block k (by omega)).trans (Fi k hn));have hr:px w6.drew w.heap.size (gj w.heap.size ra none none (aS s.x.rows) [] []) ⟨aS s.x.rows,s.now,[],[]⟩:=by
  have hh6:bY w6.drew ra r.rows:=dP hh fun _ k hk=>hold k (La k hk).2 fun e=>h.im k (.inl (La k hk).1) (.inr ⟨0,e⟩);rw[hl.rows] at Wi hh6 e;exact⟨sn,bj,ra,rc,none,0,none,0,⟨by rw[<-e];exact aA Pe (cn 0),by rw[bj];exact aA Pe (cn 1),aA Pe (cn 2),aA Pe (cn 3),fun j=>aE Pe (by show w.heap.size<_;omega) (fn j),hh6,Wi,.inl rfl,.inl rfl⟩,rfl,fun k hk _=>by have:=(La k hk).2;omega,fun _ _ hn=>absurd rfl hn,fun _ _ hn=>absurd rfl hn⟩
 have h2:=h.begun (i:=i) (by have:=Pe.size;omega) hold (fun j hj=>(b_ (Pe.block _ (show r.eb<_ by omega))).trans ((b_ (hb.block _ Qv)).trans (NI j hj))) (aA Pe (aA hb Na)) (fun j=>aE Pe (by show r.eb<_;omega) (aE hb Qv (El j))) (n_ _) hr fun k hk=>by
  rcases hk with hk|⟨_,hk⟩|⟨hk,_⟩|⟨hk,_⟩
  ·exact .inl hk
  ·exact .inr (.inl (La k hk).1)
  ·exact absurd rfl hk
  ·exact absurd rfl hk
 exact⟨{ r with W:=Se r.W i w.heap.size,G:=Se r.G i (gj w.heap.size ra none none (aS s.x.rows) [] []) },rfl,h2,⟨hl.rows,hl.u,hl.many,hl.pl,hl.last,hl.kk.begin i,hl.kl⟩,⟨Zb.Ia.trans ((aB hb (n_ _) Pe).mono (by have:=h.bl;omega)),fun k e=>(Pe.block k (by have:=h.xl k e;omega)).trans ((hb.block k (by have:=h.xl k e;omega)).trans (Zb.fx k e))⟩⟩
theorem zNA (w:World) (h:RE w B X r s.Da) (hl:gH r s) (sn:Sn) (bj:sn.n=s.now) (hn:s.now<=1000) (hi:i<4) (hv:s.Da i=none):
  Calls p_ 10 #[.pointer (some ⟨r.eb,0,none⟩),.int .i64 (i:Int)] w fun e w'=>e=.returned (.int .i64 0)/\kQ w w' B X r (dX s i):=by
 have c:=h.cd i hi;unfold qn at c;rw[hv] at c;dsimp only at c;have h1:(0:Int)<=(i:Int):=by omega
 have h2:(i:Int)<4:=by omega
 have h3:decide ((i:Int)<0)=false:=by simp
 have h4:decide ((3:Int)<(i:Int))=false:=by simp;omega
 obtain⟨g,cap,ep,a0a,a0b,Ee⟩:=h.uw hl.pl;have c1:=h.c1;rw[ep] at c1;have cl:w.cell? ⟨g,s.now,none⟩=some r.rv:=by
  have Aa:s.now<r.PL.length:=by rw[hl.pl];omega
  rw[Ee s.now Aa];have:=hl.last;rwa [VY Aa] at this
 have fz:=h.soft (3+i);have Qv:=h.lt (i:=0) (k:=r.eb) rfl;have HN:=aa fun W (hb:Below w.heap.size w W)=>IJ W (h.on hb) hl.pl hn;have HE:=aa (h.begin hl hi sn bj);have yl:(s.now:Int)<=1000:=by omega
 have rz:(0:Int)<=(s.now:Int):=by omega
 have Lu:(s.now:Int)<(s.now:Int)+1:=by omega
 obtain⟨ra,rc,er,_⟩:=lV h.rs.own;rw[er] at cl HE;clear h Ee ep er;generalize r.eb=eb at *;generalize s.now=now at *;go_enter func10,ntmps10;go_wp2_with fail
 go_region_with (first
  | (go_at_call 24;refine(HN.out _ (r_ _ _).drew).mono ?_;rintro e w2 ⟨rfl,rfl⟩)
  | fail)
 all_goals
  go_wp2;go_ret;exact⟨rfl,HE.out⟩
theorem RE.ended (h:RE w B X r s.Da) (hl:gH r s) (ok:Ed s) (h4:S4 s) (hi:i<4):RE (w.setCell ⟨r.eb,3+i,none⟩ (.pointer none)) B X r (Gd s i).Da/\gH r (Gd s i)/\iI w (w.setCell ⟨r.eb,3+i,none⟩ (.pointer none)) B X:=
 ⟨h.drop hi,⟨hl.rows,hl.u,hl.many,hl.pl,hl.last,hl.kk.ended ok h4 i,hl.kl⟩,h.set _ _⟩
theorem zN1 (w:World) (h:RE w B X r s.Da) (hl:gH r s) (ok:Ed s) (h4:S4 s) (hi:i<4):
  Calls p_ 14 #[.pointer (some ⟨r.eb,0,none⟩),.int .i64 (i:Int)] w fun e w'=>e=.returned (.int .i64 ((dS s i).1:Nat))/\kQ w w' B X r (dS s i).2:=by
 have h1:(0:Int)<=(i:Int):=by omega
 have h2:(i:Int)<4:=by omega
 unfold dS
 cases hv:s.Da i with
 | none=>
  dsimp only;have HD:=aa (BS w h hi hv);have HS:=aa (h.same hl (r_ _ w));clear h;go_enter func14,ntmps14;go_wp2_with fail;refine HD.out.mono ?_;rintro e w1 ⟨rfl,rfl⟩;go_wp2;go_ret;exact⟨rfl,HS.out⟩
 | some v=>
  dsimp only;have HD:=aa (lA w h hi hv);have HS:=aa (h.ended hl ok h4 hi);have c:=h.cd i hi;have fz:=h.soft (3+i);clear h;go_enter func14,ntmps14;go_wp2_with fail;refine HD.out.mono ?_;rintro e w1 ⟨rfl,rfl⟩;go_wp2;go_ret;exact⟨rfl,r,rfl,HS.out⟩
theorem zN2 (eb:Nat) (i:Int) (hi:i<0∨3<i) (w:World):
  Calls p_ 14 #[.pointer (some ⟨eb,0,none⟩),.int .i64 i] w fun e w'=>e=.returned (.int .i64 1)/\w'=w:=by
 have HD:=aa (IS eb i hi w);clear hi;go_enter func14,ntmps14;go_wp2_with fail;refine HD.out.mono ?_;rintro e w1 ⟨rfl,rfl⟩;go_wp2;go_ret;exact⟨rfl,rfl⟩
end
def kZ (K:List (List BA)) (ga:ta) (a n:Nat):Bool:=((K.take n).drop (a+1)).all fun ks=>!ji ga ks
theorem zNx (h:K.length<=n):kZ K ga a n=jY K ga a:=by
 unfold kZ jY;rw[LZ h]
theorem zLe (K:List (List BA)) (ga:ta) (a:Nat):kZ K ga a (a+1)=true:=by
 unfold kZ;rw[List.drop_eq_nil_of_le (by rw[XY];omega)];rfl
theorem zMp (hn:n<K.length) (ha:a<n) (h:kZ K ga a n=true) (hh:ji ga K[n]=false):kZ K ga a (n+1)=true:=by
 unfold kZ at h ⊢;rw[ZY hn,List.drop_append_of_le_length (by rw[XY];omega),List.all_append,h];simp[hh]
theorem zNO (hn:n<K.length) (ha:a<n) (hh:ji ga K[n]=true):jY K ga a=false:=by
 unfold jY;rw[List.all_eq_false];refine⟨K[n],?_,by simp[hh]⟩;have:(K.drop (a+1))[n-(a+1)]?=some K[n]:=by
  rw[List.getElem?_drop,show a+1+(n-(a+1))=n by omega];exact VY hn
 exact List.mem_of_getElem? this
theorem zON {ks:List BA} (hi:i<ks.length):ji ga (ks.take (i+1))=(ji ga (ks.take i) || ga.any fun s=>Fb s.1 s.2 ks[i]):=by
 unfold ji;rw[ZY hi,List.any_append];simp
section
variable {w:World} {B:Nat} {X:Nat->Prop} {r:Zd} {f:Fs}
theorem RE.IF (h:RE w B X r f) (hk:r.KL.length=n+1):∃ g cap,r.kv=.slice (some ⟨g,0,none⟩) (n+1) cap/\∀ i (hi:i<r.KL.length),w.cell? ⟨g,i,none⟩=some r.KL[i].2:=by
 have ho:=h.keys;rcases aX ho with⟨_,e⟩|⟨g,cap,e,_⟩
 ·omega
 ·rw[hk] at e;refine⟨g,cap,e,fun i hi=>?_⟩;have:=F2.cells ho (g:=g) (by rw[e];rfl) i r.KL[i].2 (by rw[List.getElem?_map,VY hi];rfl);rwa [Go.Addr.add_mid,TZ] at this
theorem RE.TQ (h:RE w B X r f) (hi:i<r.KL.length):∃ ao cap,r.KL[i].2=.slice ao r.KL[i].1.length cap/\(0<r.KL[i].1.length->∃ g,ao=some ⟨g,0,none⟩)/\∀ g j (hj:j<r.KL[i].1.length),ao=some ⟨g,0,none⟩->w.cell? ⟨g,j,none⟩=some (.string r.KL[i].1[j]):=by
 rcases zHo (h.Am _ (MZ hi)) with⟨e,e2⟩|⟨g,cap,e,_,_,hc⟩
 ·refine⟨none,0,by rw[e,e2];rfl,fun hl=>?_,fun _ _ _ e=>nomatch e⟩;rw[e2] at hl;simp at hl
 ·refine⟨some ⟨g,0,none⟩,cap,e,fun _=>⟨g,rfl⟩,fun g' j hj eg=>?_⟩;cases eg;exact hc j hj
end
theorem zGY {r:Zd} {f:Fs} (w:World) (h:RE w B X r f) (hp:r.PL.length=n+1) (hk:r.KL.length=n+1) (hn:n<=1000) (ha:a<=n) (ga:ta) (sa:Option Addr) (sc:Nat) (hs:bY w sa ga) (Yn:ga.length<=1000) (Ui:∀ p∈r.KL,p.1.length<=1000):
  Calls p_ 41 #[.pointer (some ⟨r.eb,0,none⟩),.slice sa ga.length sc,.int .i64 (a:Int)] w fun e w'=>e=.returned (.bool (jY (r.KL.map (·.1)) ga a))/\Below w.heap.size w w':=by
 have HR:=aa h;have HN:=aa fun W (hb:Below w.heap.size w W)=>IJ W (h.on hb) hp hn;obtain⟨gk,kc,ek,AI⟩:=h.IF hk;have c2:=h.c2;rw[ek] at c2;have HKC:=aa AI;have HS:=aa hs;have HKL:=aa Ui;clear h hs AI Ui ek;have hKm:∀ i (hi:i<r.KL.length),(r.KL.map (·.1))[i]'(by rw[RZ];exact hi)=r.KL[i].1:=fun i hi=>by rw[List.getElem_map]
 have HKM:=aa hKm;have KB:(r.KL.map (·.1)).length=n+1:=by rw[RZ,hk]
 have ZU:=aa KB;clear hKm KB;generalize r.eb=eb at *;have xt:(0:Int)<=(a:Int):=by omega
 have Hh:(a:Int)<=1000:=by omega
 go_enter func41,ntmps41;go_wp2
 go_loopw [7] (fun iv wr=>∃ k:Nat,a+1<=k/\k<=n+1/\iv=.int .i64 (k:Int)/\kZ (r.KL.map (·.1)) ga a k=true/\Below w.heap.size w wr) (fun iv _=>n+1-(intOf iv).toNat)
 case atStart=>exact⟨a+1,n_ _,by omega,by go_num,zLe _ _ _,r_ _ _⟩
 case round=>
  obtain⟨k,ml,lf,rfl,Ee,hb⟩:=hrel;have Ys:=aa Ee;have HB:=aa hb;have d2:=aA hb c2;have Od:=aa (HN.out _ hb);clear Ee hb;by_cases RO:k<=n
  ·have SO:(k:Int)<=(n:Int):=by omega
   have a0x:(k:Int)<(n:Int)+1:=by omega
   have Ih:(0:Int)<=(k:Int):=by omega
   have ZH:k<r.KL.length:=by omega
   have RQ:=HKC.out k ZH;obtain⟨ao,ac,ea,hao,WB⟩:=HR.out.TQ ZH;have fe:=HKL.out _ (MZ ZH);have Xt:=aa (HKM.out k ZH);rw[ea] at RQ;have kcw:=RQ;clear RQ;have HAC:=aa WB;have HAO:=aa hao;clear WB ea hao;have ay:k<(r.KL.map (·.1)).length:=by rw[ZU.out];omega
   have Ce:Hid (∀ (_:ji ga r.KL[k].1=false),kZ (r.KL.map (·.1)) ga a (k+1)=true):=fun e=>zMp ay (by omega) Ys.out (by rw[Xt.out];exact e);have HHT:Hid (∀ (_:ji ga r.KL[k].1=true),jY (r.KL.map (·.1)) ga a=false):=fun e=>zNO ay (by omega) (by rw[Xt.out];exact e);clear Xt ay;generalize r.KL[k].1=ks at *;go_wp2_with fail;refine Od.out.mono ?_;rintro e w1 ⟨rfl,mg⟩;rw[mg];clear mg Od;go_wp2_with fail
   go_loopw [8] (fun iv wq=>∃ i:Nat,i<=ks.length/\iv=.int .i64 (i:Int)/\ji ga (ks.take i)=false/\Below w.heap.size w wq) (fun iv _=>ks.length-(intOf iv).toNat)
   case atStart=>exact⟨0,OZ _,rfl,rfl,HB.out⟩
   case round=>
    obtain⟨i,hi,rfl,hit,za⟩:=hrel;have TU:=aa hit;have Cb:=aa za;have e2:=aA za c2;have k2:=aA za kcw;clear hit za d2;by_cases OO:i<ks.length
    ·have PO:(i:Int)<(ks.length:Int):=by omega
     have Qb:(0:Int)<=(i:Int):=by omega
     obtain⟨g,eg⟩:=HAO.out (by omega);subst eg;have jw:=HAC.out g i OO rfl;have au:Hid (∀ (_:(ga.any fun s=>Fb s.1 s.2 ks[i])=false),ji ga (ks.take (i+1))=false):=fun e=>by
      rw[zON OO,TU.out,e];rfl
     have HHI:Hid (∀ (_:(ga.any fun s=>Fb s.1 s.2 ks[i])=true),jY (r.KL.map (·.1)) ga a=false):=fun e=>HHT.out (by
      unfold ji;rw[List.any_eq_true];exact⟨ks[i],MZ OO,e⟩)
     generalize ks[i]=key at *;go_wp2_with fail
     go_loopw [9] (fun jv wq=>∃ j:Nat,j<=ga.length/\jv=.int .i64 (j:Int)/\((ga.take j).any fun s=>Fb s.1 s.2 key)=false/\Below w.heap.size w wq) (fun jv _=>ga.length-(intOf jv).toNat)
     case atStart=>exact⟨0,OZ _,rfl,rfl,Cb.out⟩
     case round=>
      obtain⟨j,hj,rfl,GD,Ra⟩:=hrel;have OG:=aa GD;have Zc:=aa Ra;have e3:=aA Ra c2;have k3:=aA Ra kcw;have SQ:=aA Ra jw;clear GD Ra e2 k2;by_cases ki:j<ga.length
      ·have Zx:(j:Int)<(ga.length:Int):=by omega
       have YH:(0:Int)<=(j:Int):=by omega
       rcases HS.out with e|⟨sb,VF,CB,dj⟩
       ·rw[e] at ki;simp at ki
       subst CB;obtain⟨s0,s1⟩:=dj j ki;replace ⟨s0,s1⟩:=Em Zc.out s0 s1;have EL:Hid (∀ (_:Fb ga[j].1 ga[j].2 key=false),((ga.take (j+1)).any fun s=>Fb s.1 s.2 key)=false):=fun e=>by
        rw[ZY ki,List.any_append,OG.out];simp[e]
       have DL:Hid (∀ (_:Fb ga[j].1 ga[j].2 key=true),jY (r.KL.map (·.1)) ga a=false):=fun e=>HHI.out (by
        rw[List.any_eq_true];exact⟨ga[j],MZ ki,e⟩)
       clear dj jw;generalize ga[j]=sp at *;have nS:=ad.some wr;have n0:∀ m:ad wr,m.w.cell? ⟨eb,2,none⟩=_:=fun m=>m.cell e3;have n1:∀ m:ad wr,m.w.cell? ⟨gk,k,none⟩=_:=fun m=>m.cell k3;have n2:∀ m:ad wr,m.w.cell? ⟨g,i,none⟩=_:=fun m=>m.cell SQ;have n3:∀ m:ad wr,m.w.cell? ⟨sb,VF+j*2,none⟩=_:=fun m=>m.cell s0;have n4:∀ m:ad wr,m.w.cell? ⟨sb,VF+j*2+1,none⟩=_:=fun m=>m.cell s1
       cases hq:Fb sp.1 sp.2 key with
       | false=>
        have HQ:=aa hq;have Pw:=aa (EL.out hq);clear hq EL DL;go_wp2;refine dE (by kernel_rfl) (by kernel_rfl) ?_
        repeat (go_big_quiet_step ((first
         | (go_at_call 91;exact fF (sD (GJ _ _ _ _) (congrArg D5 HQ.out))))))
        refine wpQuiet_nil ?_;intro w7 zm;replace zm:=jG zm;have Gi:=aa (aB Zc.out (n_ _) zm);clear n0 n1 n2 n3 n4 nS zm e3 k3 SQ s0 s1;go_wp2;exact⟨⟨j+1,by omega,by go_num,Pw.out,Gi.out⟩,by simp[intOf];omega⟩
       | true=>
        have HQ:=aa hq;have Pw:=aa (DL.out hq);clear hq EL DL;go_wp2;refine dE (by kernel_rfl) (by kernel_rfl) ?_
        repeat (go_big_quiet_step ((first
         | (go_at_call 91;exact fF (sD (GJ _ _ _ _) (congrArg D5 HQ.out))))))
        refine wpQuiet_nil ?_;intro w7 zm;replace zm:=jG zm;have Gi:=aa (aB Zc.out (n_ _) zm);clear n0 n1 n2 n3 n4 nS zm e3 k3 SQ s0 s1;go_wp2;go_ret;exact⟨by rw[Pw.out];rfl,Gi.out⟩
      ·have Zx:¬(j:Int)<(ga.length:Int):=by omega
       have HI2:=aa (au.out (by have:=OG.out;rwa [LZ (by omega)] at this));go_wp2_with fail;exact⟨⟨i+1,by omega,by go_num,HI2.out,Zc.out⟩,by simp[intOf];omega⟩
    ·have PO:¬(i:Int)<(ks.length:Int):=by omega
     have kq:=aa (Ce.out (by have:=TU.out;rwa [LZ (by omega)] at this));go_wp2_with fail;exact⟨⟨k+1,by omega,by omega,by go_num,kq.out,Cb.out⟩,by simp[intOf];omega⟩
  ·have SO:¬(k:Int)<=(n:Int):=by omega
   have HE:Hid (jY (r.KL.map (·.1)) ga a=true):=by
    rw[<-zNx (n:=k) (by rw[ZU.out];omega)];exact Ys.out
   go_wp2_with fail;refine Od.out.mono ?_;rintro e w1 ⟨rfl,mg⟩;rw[mg];clear mg Od;go_wp2;go_ret;exact⟨by rw[HE.out];rfl,HB.out⟩
theorem zOs:(Tryz.prog.info? 32).map (fun i=>(i.zero,i.size,i.bytes))=some (some (.slice none 0 0),1,24):=by kernel_rfl
theorem zOr:(Tryz.prog.info? 97).map (fun i=>(i.zero,i.size,i.bytes))=some (some (.slice none 0 0),1,24):=by kernel_rfl
section
variable {B:Nat} {X:Nat->Prop} {r:Zd} {s:Cc} {n:Nat}
theorem RW.cells {rb:Nat} {G:Nat->Prop} {P:ta} {sn:Sn} {ba:List ma} (h:RW w rb G P sn ba ga):∃ ca cc sa sc,w.cell? ⟨rb,1,none⟩=some (.int .i64 sn.n)/\w.cell? ⟨rb,2,none⟩=some (.slice ca ba.length cc)/\w.cell? ⟨rb,3,none⟩=some (.slice sa ga.length sc)/\bW w ca ba/\bY w sa ga/\(∀ k,yh ca k->ba≠[]->G k/\k≠rb):=by
 obtain⟨ra,rc,ca,cc,sa,sc,h1,rfl,_,h3,_⟩:=h;exact⟨ca,cc,sa,sc,h1.c1,h1.c2,h1.c3,h1.hC,h1.hR,fun k e hn=>⟨.inr (.inr (.inl ⟨hn,e⟩)),h3 k e hn⟩⟩
theorem zNt (w:World) (h:RE w B X r s.Da) (hi:i<4) (hv:s.Da i=none):
  Calls p_ 12 #[.pointer (some ⟨r.eb,0,none⟩),.int .i64 (i:Int)] w fun e w'=>e=.returned (.tuple #[.int .i64 0,.int .i64 7])/\w'=w:=by
 have HD:=aa (BS w h hi hv);clear h;go_enter func12,ntmps12;go_wp2_with fail;refine HD.out.mono ?_;rintro e w1 ⟨rfl,rfl⟩;go_wp2;go_ret2;exact⟨rfl,rfl⟩
theorem zNE (eb:Nat) (i:Int) (hi:i<0∨3<i) (w:World):
  Calls p_ 12 #[.pointer (some ⟨eb,0,none⟩),.int .i64 i] w fun e w'=>e=.returned (.tuple #[.int .i64 0,.int .i64 1])/\w'=w:=by
 have HD:=aa (IS eb i hi w);clear hi;go_enter func12,ntmps12;go_wp2_with fail;refine HD.out.mono ?_;rintro e w1 ⟨rfl,rfl⟩;go_wp2;go_ret2;exact⟨rfl,rfl⟩
theorem zNr (w:World) (h:RE w B X r s.Da) (hl:gH r s) (ok:Ed s) (h4:S4 s) (hi:i<4) (hv:s.Da i=some v) (hc:v.ba=[]):
  Calls p_ 12 #[.pointer (some ⟨r.eb,0,none⟩),.int .i64 (i:Int)] w fun e w'=>e=.returned (.tuple #[.int .i64 (v.n:Int),.int .i64 0])/\kQ w w' B X r (Gd s i):=by
 have HD:=aa (lA w h hi hv);have HS:=aa (h.ended hl ok h4 hi);have h1:(0:Int)<=(i:Int):=by omega
 have h2:(i:Int)<4:=by omega
 obtain⟨sn,en,hr⟩:=h.vw i v hv;obtain⟨ca,cc,sa,sc,x1,x2,_⟩:=hr.cells;rw[en] at x1;rw[hc] at x2;have c:=h.cd i hi;have fz:=h.soft (3+i);have La:r.W i≠r.eb:=fun e=>absurd (h.ap (i+4) 0 r.eb ⟨by rw[hv];exact nofun,e.symm⟩ rfl) (by omega);have y1:(w.setCell ⟨r.eb,3+i,none⟩ (.pointer none)).cell? ⟨r.W i,1,none⟩=some (.int .i64 (v.n:Int)):=(b_ (h_ _ _ _ _ La)).trans x1;clear h hr;generalize r.W i=rb at *;go_enter func12,ntmps12;go_wp2_with fail;refine HD.out.mono ?_;rintro e w1 ⟨rfl,rfl⟩;go_wp2;go_ret2;exact⟨rfl,r,rfl,HS.out⟩
theorem zNs (w:World) (h:RE w B X r s.Da) (hl:gH r s) (ok:Ed s) (h4:S4 s) (hi:i<4) (hv:s.Da i=some v) (hc:v.ba≠[]) (hn:s.now<=1000) (Ee:lC s.ds v.ga v.n=false):
  Calls p_ 12 #[.pointer (some ⟨r.eb,0,none⟩),.int .i64 (i:Int)] w fun e w'=>e=.returned (.tuple #[.int .i64 0,.int .i64 9])/\kQ w w' B X r (Gd s i):=by
 have HD:=aa (lA w h hi hv);have h1:(0:Int)<=(i:Int):=by omega
 have h2:(i:Int)<4:=by omega
 obtain⟨sn,en,hr⟩:=h.vw i v hv;obtain⟨ca,cc,sa,sc,x1,x2,x3,_,hs,_⟩:=hr.cells;rw[en] at x1;have ho:=ok.Da i v hv;have zr:=ho.ov.cn;have uz:=ho.ov.rn;have Df:((v.ba.length:Int)==0)=false:=by
  have:=K3.2 hc;simp;omega
 have hlen:r.KL.length=s.now+1:=by have:=hl.kk.len;rwa [RZ] at this
 have HC:Hid (∀ W,Below w.heap.size w W->Calls p_ 41 #[.pointer (some ⟨r.eb,0,none⟩),.slice sa v.ga.length sc,.int .i64 (v.n:Int)] W fun e w'=>e=.returned (.bool false)/\Below W.heap.size W w'):=fun W hb=>by
  have:=zGY W (h.on hb) hl.pl hlen hn ho.lo v.ga sa sc (lX hb hs) (by omega) fun p hp=>by have:=hl.kl p hp;omega
  rwa [<-hl.kk.clear ok hv,Ee] at this
 have HS:Hid (∀ W,Below w.heap.size w W->W.cell? ⟨r.eb,3+i,none⟩=some (qn r s.Da i)/\W.frozen? ⟨r.eb,3+i,none⟩=false/\kQ w (W.setCell ⟨r.eb,3+i,none⟩ (.pointer none)) B X r (Gd s i)):=fun W hb=>by
  have hW:=h.on hb;obtain⟨q1,q2,q3⟩:=hW.ended hl ok h4 hi;exact⟨hW.cd i hi,hW.soft _,r,rfl,q1,q2,(h.here hb).trans q3⟩
 clear h hr hs hc Ee;generalize r.W i=rb at *;generalize r.eb=eb at *;generalize qn r s.Da i=pv at *;go_enter func12,ntmps12;go_wp2_with fail;refine HD.out.mono ?_;rintro e w1 ⟨rfl,rfl⟩;go_wp2_with fail
 go_region_with (first
  | (go_at_call 41;refine(HC.out _ (r_ _ _).drew).mono ?_;rintro e w2 ⟨rfl,za⟩;have Zg:=aB (r_ _ w1).drew (n_ _) za;obtain⟨z1,z2,z3⟩:=HS.out w2 Zg;have HR:=aa z3;clear z3 za Zg)
  | fail)
 all_goals
  go_wp2;go_ret2;exact⟨rfl,HR.out⟩
theorem RE.UF (w:World) (h:RE w B X r s.Da) (hl:gH r s) (hf:Fit s n) (h2:n<=200) (hv:s.Da i=some v) {ca:Option Addr} {cc:Nat} (hc:bW w ca v.ba):
  Calls p_ 42 #[.pointer (some ⟨r.sb,0,none⟩),.slice ca v.ba.length cc] w fun e w'=>e=.returned (.int .i64 ((Ha s.x v.ba).1:Nat))/\∃ v',RE w' B X { r with rv:=v',rows:=aS (Ha s.x v.ba).2.rows,u:=(Ha s.x v.ba).2.used } s.Da/\iI w w' B X/\((Ha s.x v.ba).1≠0->Below w.heap.size w w'):=by
 have ho:=hf.ok.Da i v hv;have hm:r.many=n-50:=by rw[hl.many,hf.len]
 have qi:sq w B r.sb (fj r.sb r.rv) (aS s.x.rows) s.x.used (n-50):=⟨r.rv,by rw[<-hl.rows,<-hl.u,<-hm];exact h.rs,rfl⟩;have zr:=ho.ov.cn;refine(zN5 v.ba ca cc w hf.ok.g hf.left hf.len qi h.bl hc (fun c hc=>by have:=ho.ov.ck c hc;omega) (by omega) h2).mono ?_;rintro e w' ⟨rfl,ha,hb⟩;rw[(zCK hf.ok.g hf.left v.ba).1];rw[<-hm] at ha;obtain⟨v',q1,q2⟩:=h.store ha;exact⟨rfl,v',q1,q2,hb⟩
structure Gz (w:World) (B:Nat) (X:Nat->Prop) (r:Zd) (s:Cc) (n i:Nat) (v:Mc):Prop where
 re:RE w B X r s.Da
 ln:gH r s
 fit:Fit s n
 h2:n<=200
 hi:i<4
 hv:s.Da i=some v
 hc:v.ba≠[]
 hn:s.now<=1000
 cl:lC s.ds v.ga v.n=true
theorem Gz.jr (h:Gz w B X r s n i v) {sa:Option Addr} {sc:Nat} (hs:bY w sa v.ga):∀ W,Below w.heap.size w W->Calls p_ 41 #[.pointer (some ⟨r.eb,0,none⟩),.slice sa v.ga.length sc,.int .i64 (v.n:Int)] W fun e w'=>e=.returned (.bool true)/\Below W.heap.size W w':=fun W hb=>by
 have ho:=h.fit.ok.Da i v h.hv;have uz:=ho.ov.rn;have hlen:r.KL.length=s.now+1:=by have:=h.ln.kk.len;rwa [RZ] at this
 have:=zGY W (h.re.on hb) h.ln.pl hlen h.hn ho.lo v.ga sa sc (lX hb hs) (by omega) fun p hp=>by have:=h.ln.kl p hp;omega
 rwa [<-h.ln.kk.clear h.fit.ok h.hv,h.cl] at this
theorem zNq (w:World) (h:Gz w B X r s n i v) (hz:(Ha s.x v.ba).1≠0):
  Calls p_ 12 #[.pointer (some ⟨r.eb,0,none⟩),.int .i64 (i:Int)] w fun e w'=>e=.returned (.tuple #[.int .i64 0,.int .i64 ((Ha s.x v.ba).1:Nat)])/\kQ w w' B X r { s with x:=(Ha s.x v.ba).2 }:=by
 have HD:=aa (lA w h.re h.hi h.hv);obtain⟨sn,en,hr⟩:=h.re.vw i v h.hv;obtain⟨ca,cc,sa,sc,x1,x2,x3,Bf,hs,_⟩:=hr.cells;rw[en] at x1;have Df:((v.ba.length:Int)==0)=false:=by
  have:=K3.2 h.hc;rw[beq_eq_false_iff_ne];omega
 have HC:=aa (h.jr (sc:=sc) hs);have hx:(Ha s.x v.ba).2=s.x:=by
  obtain⟨n1,n2⟩:=h.fit.ok.g.never h.fit.left v.ba;rcases(h.fit.ok.g.Gh v.ba).2 with⟨a,_⟩|⟨_,_,c⟩|⟨a,b,_⟩
  ·exact absurd a hz
  ·exact c
  ·rw[n1,b] at a;cases a
 have HS:Hid (∀ W,Below w.heap.size w W->Calls p_ 42 #[.pointer (some ⟨r.sb,0,none⟩),.slice ca v.ba.length cc] W fun e w'=>e=.returned (.int .i64 ((Ha s.x v.ba).1:Nat))/\kQ w w' B X r { s with x:=(Ha s.x v.ba).2 }):=fun W hb=>by
  refine((h.re.on hb).UF W h.ln h.fit h.h2 h.hv (eA hb Bf)).mono ?_;rintro e w' ⟨rfl,_,_,_,za⟩;rw[hx];exact⟨rfl,r,rfl,h.re.on (aB hb (n_ _) (za hz)),⟨h.ln.rows,h.ln.u,h.ln.many,h.ln.pl,h.ln.last,h.ln.kk.store _,h.ln.kl⟩,h.re.here (aB hb (n_ _) (za hz))⟩
 have c0:=h.re.c0;have HL:Hid (∀ W,Below w.heap.size w W->W.cell? ⟨r.W i,2,none⟩=some (.slice ca v.ba.length cc)/\W.cell? ⟨r.eb,0,none⟩=some (.pointer (some ⟨r.sb,0,none⟩))):=fun W hb=>⟨aA hb x2,aA hb c0⟩;have hz':(0:Int)<((Ha s.x v.ba).1:Int):=by omega
 clear h hr hs Bf hx hz;generalize r.W i=rb at *;generalize r.eb=eb at *;generalize r.sb=sb at *;generalize (Ha s.x v.ba).1=rf at *;go_enter func12,ntmps12;go_wp2_with fail;refine HD.out.mono ?_;rintro e w1 ⟨rfl,rfl⟩;go_wp2_with fail
 go_region_with (first
  | (go_at_call 41;refine(HC.out _ (r_ _ _).drew).mono ?_;rintro e w2 ⟨rfl,za⟩;have Zg:=aB (r_ _ w1).drew (n_ _) za;obtain⟨z1,z2⟩:=HL.out w2 Zg;have Cb:=aa Zg;clear za Zg)
  | fail)
 all_goals
  go_wp2_with fail
  go_region_with (first
   | (go_at_call 42;refine(HS.out _ (Cb.out.drew)).mono ?_;rintro e w3 ⟨rfl,ha⟩;have HR:=aa ha;clear ha)
   | fail)
  all_goals
   go_wp2;go_ret2;exact⟨rfl,HR.out⟩
end
section
variable {B:Nat} {X:Nat->Prop} {r:Zd} {s:Cc} {n:Nat}
def zOp (w:World) (B gu uc:Nat) (v:Mc):Prop:=w.ownsRow B 9 1 (.slice (some ⟨gu,0,none⟩) v.ba.length uc) v.ba.length ((v.ba.map (·.key)).map v_)
theorem RE.done {w4:World} (h:Gz w B X r s n i v) (hz:(Ha s.x v.ba).1=0) {r1:Zd} {r2 r3:Zd} (e1:r1.PL=r.PL/\r1.KL=r.KL/\r1.rows=aS (Ha s.x v.ba).2.rows/\r1.u=(Ha s.x v.ba).2.used/\r1.many=r.many)
  {p3:Value} (e2:r2={ r1 with pv:=p3,PL:=r1.PL++[r1.rv] }) {k4 u:Value} (e3:r3={ r2 with kv:=k4,KL:=r2.KL++[(v.ba.map (·.key),u)] }) (h4:RE w4 B X r3 s.Da) (he:r3.eb=r.eb) (st:iI w w4 B X) (hn:s.now<=900):
  (w4.cell? ⟨r.eb,3+i,none⟩=some (qn r3 s.Da i)/\w4.frozen? ⟨r.eb,3+i,none⟩=false)/\Calls p_ 24 #[.pointer (some ⟨r.eb,0,none⟩)] (w4.setCell ⟨r.eb,3+i,none⟩ (.pointer none)) fun e w'=>e=.returned (.int .i64 ((s.now+1:Nat):Int))/\kQ w w' B X r (Gd (Le s v.ba) i):=by
 have ok:=h.fit.ok;obtain⟨a1,a2,a3,a4,a5⟩:=e1;have hlen:=(ok.g.Gh v.ba).1;have hl:gH r3 (Le s v.ba):=by
  subst e3 e2;refine⟨a3,a4,?_,?_,?_,?_,fun p hp=>?_⟩
  ·show r1.many=(Ha s.x v.ba).2.d.now.length-50;rw[a5,h.ln.many,hlen]
  ·show(r1.PL++[r1.rv]).length=s.now+1+1;rw[YY,a1,h.ln.pl];rfl
  ·show(r1.PL++[r1.rv])[s.now+1]?=some r1.rv;rw[a1,<-h.ln.pl,List.getElem?_append_right (n_ _),Nat.sub_self];rfl
  ·show KK (Le s v.ba) ((r1.KL++[(v.ba.map (·.key),u)]).map (·.1));rw[X1,a2];exact h.ln.kk.add v.ba
  ·have Ym:p∈r1.KL++[(v.ba.map (·.key),u)]:=hp;rw[a2] at Ym;rcases List.mem_append.1 Ym with hp|hp
   ·exact h.ln.kl p hp
   ·rw[GZ.1 hp];show(v.ba.map (·.key)).length<=12;rw[RZ];exact(ok.Da i v h.hv).ov.cn
 have Ek:=ok.add hz;obtain⟨q1,q2,q3⟩:=RE.ended (s:=Le s v.ba) h4 hl Ek h.fit.s4 h.hi;have Wp:=IJ _ q1 (n:=s.now+1) hl.pl (by omega);rw[he] at Wp q1 q3;have c:=h4.cd i h.hi;have fz:=h4.soft (3+i);rw[he] at c fz;refine⟨⟨c,fz⟩,Wp.mono ?_⟩;rintro e w' ⟨rfl,rfl⟩;exact⟨rfl,r3,he,q1,q2,st.trans q3⟩
theorem zNp (w:World) (h:Gz w B X r s n i v) (hz:(Ha s.x v.ba).1=0) (hn:s.now<=900):
  Calls p_ 12 #[.pointer (some ⟨r.eb,0,none⟩),.int .i64 (i:Int)] w fun e w'=>e=.returned (.tuple #[.int .i64 ((s.now+1:Nat):Int),.int .i64 0])/\kQ w w' B X r (Gd (Le s v.ba) i):=by
 obtain⟨i0,Qb,Xb,Yc,te⟩:=info_parts zOs;obtain⟨i1,hi1,SI,hy1,It⟩:=info_parts zOr;obtain⟨i2,z2,Vm,hw0,mg,Lc,uf⟩:=zG5;have HH:=aa h;have HZ:=aa hz;have HD:=aa (lA w h.re h.hi h.hv);obtain⟨sn,en,hr⟩:=h.re.vw i v h.hv;obtain⟨ca,cc,sa,sc,x1,x2,x3,Bf,hs,hcG⟩:=hr.cells;rw[en] at x1;have oi:=K3.2 h.hc;have Df:((v.ba.length:Int)==0)=false:=by
  rw[beq_eq_false_iff_ne];omega
 have zr:v.ba.length<=12:=(h.fit.ok.Da i v h.hv).ov.cn;have HC:=aa (h.jr (sc:=sc) hs);have HS:Hid (∀ W,Below w.heap.size w W->Calls p_ 42 #[.pointer (some ⟨r.sb,0,none⟩),.slice ca v.ba.length cc] W fun e w'=>e=.returned (.int .i64 0)/\∃ r1:Zd,(r1.PL=r.PL/\r1.KL=r.KL/\r1.rows=aS (Ha s.x v.ba).2.rows/\r1.u=(Ha s.x v.ba).2.used/\r1.many=r.many)/\r1.eb=r.eb/\r1.W i=r.W i/\RE w' B X r1 s.Da/\iI w w' B X):=fun W hb=>by
  refine((h.re.on hb).UF W h.ln h.fit h.h2 h.hv (eA hb Bf)).mono ?_;rintro e w' ⟨rfl,v',q1,q2,_⟩;rw[hz];exact⟨rfl,{ r with rv:=v',rows:=aS (Ha s.x v.ba).2.rows,u:=(Ha s.x v.ba).2.used },⟨rfl,rfl,rfl,rfl,rfl⟩,rfl,rfl,q1,(h.re.here hb).trans q2⟩
 have c0:=h.re.c0;have HL:Hid (∀ W,Below w.heap.size w W->W.cell? ⟨r.W i,2,none⟩=some (.slice ca v.ba.length cc)/\W.cell? ⟨r.eb,0,none⟩=some (.pointer (some ⟨r.sb,0,none⟩))):=fun W hb=>⟨aA hb x2,aA hb c0⟩;have h1:(0:Int)<=(i:Int):=by have:=h.hi;omega
 have h2:(i:Int)<4:=by have:=h.hi;omega
 have Mo:r.PL.length=s.now+1:=h.ln.pl;have Ui:r.KL.length=s.now+1:=by have:=h.ln.kk.len;rwa [RZ] at this
 have hvi:=h.hv;clear h hr hs Bf hz hcG;generalize lg:r.W i=rb at *;generalize Qv:r.eb=eb at *;generalize wz:r.sb=sb at *;go_enter func12,ntmps12;go_wp2_with fail;refine HD.out.mono ?_;rintro e w1 ⟨rfl,rfl⟩;go_wp2_with fail;have nS:=ad.some w1;have n1:∀ m:ad w1,m.w.cell? ⟨rb,1,none⟩=_:=fun m=>m.cell x1;have n3:∀ m:ad w1,m.w.cell? ⟨rb,3,none⟩=_:=fun m=>m.cell x3;refine dE (by kernel_rfl) (by kernel_rfl) ?_
 repeat (go_big_quiet_step ((first
  | (go_at_call 41;exact fF (HC.out _ (ad.on _))))))
 refine wpQuiet_nil ?_;intro w2 Lc;replace Lc:=jG Lc;obtain⟨z1,z2⟩:=HL.out w2 Lc;have Cb:=aa Lc;clear Lc nS n1 n3 HC HD x1 x2 x3 c0;go_wp2_with fail
 go_region_with (first
   | (go_at_call 42;refine(HS.out _ (Cb.out.drew)).mono ?_;rintro e w3 ⟨rfl,r1,q0,Pp,DE,q1,q2⟩;have Tc:=aa q0;have wg:=aa q1;have VV:=aa q2;clear q0 q1 q2)
   | fail)
 all_goals
   clear HS HL z1 z2 Cb;have Gw:=aa Qv;clear Qv lg wz;obtain⟨sn3,_,sy⟩:=wg.out.vw i v hvi;rw[DE] at sy;obtain⟨ca3,cc3,_,_,_,x2,_,WN,_,_⟩:=sy.cells;rcases WN with e0|⟨cb,a0i,KM,Ao⟩
   ·rw[e0] at oi;exact absurd oi (by simp)
   subst KM;have ZT:=aa Ao;clear Ao sy;have YU:Hid (∀ k (hk:k<v.ba.length),(v.ba.map (·.key)).take (k+1)=(v.ba.map (·.key)).take k++[v.ba[k].key]):=fun k hk=>by
    rw[ZY (by rw[RZ];exact hk),List.getElem_map]
   have Qy:Hid ((v.ba.map (·.key)).take v.ba.length=v.ba.map (·.key)):=LZ (by rw[RZ];exact n_ _);have XU:Hid (∀ k,k<=v.ba.length->((v.ba.map (·.key)).take k).length=k):=fun k hk=>by rw[XY,RZ];omega
   go_wp2
   go_loopw [10,11] (fun kv iv wq=>∃ k:Nat,k<=v.ba.length/\iv=.int .i64 (k:Int)/\Ms wq w3.heap.size kv ((v.ba.map (·.key)).take k)/\Below w3.heap.size w3 wq) (fun _ iv _=>v.ba.length-(intOf iv).toNat)
   case atStart=>exact⟨0,OZ _,rfl,zOT,r_ _ _⟩
   case round=>
    obtain⟨k,hk,rfl,ya,hb⟩:=hrel;have y2:=aA hb x2;by_cases Aa:k<v.ba.length
    ·have Za:(k:Int)<(v.ba.length:Int):=by omega
     have Ih:(0:Int)<=(k:Int):=by omega
     have y0:=aA hb (ZT.out k Aa).1;have HF:=aa (YU.out k Aa);have KB:=XU.out k hk;have bd:=aa ya;generalize (v.ba.map (·.key)).take k=K at *;generalize v.ba[k].key=key at *;clear ya;go_wp2_with (at_builtin;refine oS rfl _ _ 97 rfl w3.heap.size 9 i2 _ 1 16 underlying97 Vm hw0 mg Lc uf (by omega) _ [v_ key] rfl (by simp[U1]) _ K.length (K.map Vu) bd.out rfl rfl (by omega) (by omega) hb.size ?_;intro v1 w7 mc za;have Cb:Hid (Below w3.heap.size w3 w7):=(by first|exact za w3 hb|exact za w3 (hb.trans (below_draws _ _ _)));have Kc:Hid (Ms w7 w3.heap.size v1 (K++[key])):=(by unfold Hid Ms;rw[YY,X1];exact mc);clear mc za)
     exact⟨⟨k+1,by omega,by go_num,by rw[HF.out];exact Kc.out,Cb.out⟩,by simp[intOf];omega⟩
    ·have ek:k=v.ba.length:=by omega
     have Za:¬(k:Int)<(v.ba.length:Int):=by omega
     rw[ek,Qy.out] at ya;clear ek YU Qy XU ZT x2;obtain⟨gu,uc,eu,_⟩:=zJg ya (by rw[RZ];exact oi);unfold Ms at ya;rw[RZ] at eu ya;subst eu;have uo:=aa (wg.out.on hb);have AW:Hid (iI w1 wr B X):=VV.out.trans (wg.out.here hb);have zq:B<=wr.heap.size:=uo.out.bl;have HU:Hid (zOp wr B gu uc v):=zX ya wg.out.bl;have WL:Hid (w3.heap.size<=gu/\gu<wr.heap.size):=l_ ya gu rfl;have CW:Hid (¬X_ X r1 s.Da gu):=fun e=>by have:=wg.out.YI e;have:=WL.out.1;omega
     clear ya hb wg VV;have NL:Hid (r1.PL.length=s.now+1):=by rw[Tc.out.1];exact Mo
     have HK0:Hid (r1.KL.length=s.now+1):=by rw[Tc.out.2.1];exact Ui
     rcases aX uo.out.past with⟨_,e⟩|⟨gp,pc,ep,hgB,_⟩
     ·rw[NL.out] at e;omega
     have d1:=uo.out.c1;have d0:=uo.out.c0;obtain⟨ra,rc,BB,_⟩:=lV uo.out.rs.own;have d3:=uo.out.rs.c0;rw[BB] at d3;have OL:=aa uo.out.past;have CO:eb<wr.heap.size:=by rw[<-Pp];exact uo.out.lt (i:=0) rfl
     rw[ep] at d1 OL;rw[Pp] at d0 d1;have HG:Hid (∀ w5 g,(wr.alloc (QY ra r1.rows.length rc)).drew.grownBy w5 (FZ (some ⟨gp,0,none⟩) r1.PL.length pc).ownBlock->((FZ (some ⟨gp,0,none⟩) r1.PL.length pc).ownBlock=some g∨g=wr.heap.size+1)->Ky wr w5 B 1 X r1 s.Da r1.pv g):=fun w5 g hg Sc=>uo.out.grow (a_ wr _).drew (by rw[ep];exact hg) (fun k e=>(l_ uo.out.past k e).1) (by rw[ep];exact Sc.imp id fun e=>by omega);have HK:Hid (∀ w5 g,Ky wr w5 B 1 X r1 s.Da r1.pv g->w5.cell? ⟨eb,1,none⟩=some (.slice (some ⟨gp,0,none⟩) r1.PL.length pc)/\w5.frozen? ⟨eb,1,none⟩=false):=fun w5 g hg=>by
      have he:=hg.he eb CO fun e=>absurd (uo.out.ap 0 2 eb Pp.symm e) (by decide);exact⟨(b_ he).trans d1,(CZ he).trans (by rw[<-Pp];exact uo.out.soft 1)⟩
     have Od:Hid (∀ j u,[FZ ra r1.rows.length rc][j]?=some u->(wr.alloc (QY ra r1.rows.length rc)).drew.cell? ((⟨wr.heap.size,0,none⟩:Addr).add j)=some u):=V2 (cs:=#[.slice ra r1.rows.length rc]) (t:=32) (fr:=(0,0)) (heap_alloc_new wr _);generalize a0O:r1.sb=sb1 at *;go_wp2_with fail
     go_region_law ((refine step_append_lies _ (by rfl) _ _ _ (by rfl) B 32 i0 _ 1 24 underlying50 Qb Xb Yc te rfl (by omega) (.slice (some ⟨gp,0,none⟩) r1.PL.length pc) _ _ (by rfl) ((OL.out.alloc _).drew) ⟨wr.heap.size,0,none⟩ 1 1 [.slice ra r1.rows.length rc] (by rfl) (by rfl) Od.out (by simp[U1]) (by omega) (by rw[NL.out];unfold maxLen;omega) (by rw[NL.out];omega) (by simp;omega) (wr.heap.size+1) (by simp) ?_;intro g5 c5 w5 Xi KO qg om;obtain⟨k1,k2⟩:=HK.out w5 g5 (HG.out w5 g5 KO qg)))
     all_goals
      rw[<-BB] at Xi;obtain⟨p1,p2,p3⟩:=uo.out.TF (HG.out w5 g5 KO qg) Xi;obtain⟨r2,AB⟩:∃ r2,r2={ r1 with pv:=.slice (some ⟨g5,0,none⟩) (r1.PL.length+1) c5,PL:=r1.PL++[r1.rv] }:=⟨_,rfl⟩;rw[<-AB] at p1 p3;obtain⟨z1,z2⟩:=p3 gu WL.out.2 CW.out;have Qp:r2.eb=eb:=by rw[AB];exact Pp
      have kq:Hid (r2.KL.length=s.now+1):=by rw[AB];exact HK0.out
      rw[Pp] at p1 p2 z1;have Bd:=aa AB;have fk:=aa p1;have XV:=aa (AW.out.trans p2);have BW:Hid (zOp (w5.setCell ⟨eb,1,none⟩ (.slice (some ⟨g5,0,none⟩) (r1.PL.length+1) c5)) B gu uc v):=aI HU.out fun k e=>by rw[<-I0.inj e];exact z1
      have IW:=aa z2;clear p1 p2 p3 Xi KO qg om k1 k2 z1 z2 AB uo AW HU WL CW HG HK Od OL d0 d1 d3;generalize w5.setCell ⟨eb,1,none⟩ (.slice (some ⟨g5,0,none⟩) (r1.PL.length+1) c5)=w6 at *;have a0o:B<=w6.heap.size:=fk.out.bl;rcases aX fk.out.keys with⟨_,e⟩|⟨gk,kc,ek,_⟩
      ·rw[kq.out] at e;omega
      have d2:=fk.out.c2;have GL:=aa fk.out.keys;have BO:eb<w6.heap.size:=by rw[<-Qp];exact fk.out.lt (i:=0) rfl
      rw[ek] at d2 GL;rw[Qp] at d2;have Oy:Hid (∀ w7 g,(w6.alloc (o_ #[.slice (some ⟨gu,0,none⟩) v.ba.length uc] 97)).grownBy w7 (FZ (some ⟨gk,0,none⟩) r2.KL.length kc).ownBlock->((FZ (some ⟨gk,0,none⟩) r2.KL.length kc).ownBlock=some g∨g=w6.heap.size+1)->Ky w6 w7 B 2 X r2 s.Da r2.kv g):=fun w7 g hg Sc=>fk.out.grow (a_ w6 _) (by rw[ek];exact hg) (fun k e=>(l_ fk.out.keys k e).1) (by rw[ek];exact Sc.imp id fun e=>by omega);have Vz:Hid (∀ w7 g,Ky w6 w7 B 2 X r2 s.Da r2.kv g->w7.cell? ⟨eb,2,none⟩=some (.slice (some ⟨gk,0,none⟩) r2.KL.length kc)/\w7.frozen? ⟨eb,2,none⟩=false):=fun w7 g hg=>by
       have he:=hg.he eb BO fun e=>absurd (fk.out.ap 0 3 eb Qp.symm e) (by decide);exact⟨(b_ he).trans d2,(CZ he).trans (by rw[<-Qp];exact fk.out.soft 2)⟩
      have SG:Hid (∀ j u,[FZ (some ⟨gu,0,none⟩) v.ba.length uc][j]?=some u->(w6.alloc (o_ #[.slice (some ⟨gu,0,none⟩) v.ba.length uc] 97)).cell? ((⟨w6.heap.size,0,none⟩:Addr).add j)=some u):=V2 (cs:=#[.slice (some ⟨gu,0,none⟩) v.ba.length uc]) (t:=97) (fr:=(0,0)) (heap_alloc_new w6 _)
      go_upto_region 21 with(at_builtin;refine wpList_append_lies _ rfl _ _ _ rfl B 97 i1 _ 1 24 underlying51 hi1 SI hy1 It rfl (by omega) (.slice (some ⟨gk,0,none⟩) r2.KL.length kc) _ _ rfl (GL.out.alloc _) ⟨w6.heap.size,0,none⟩ 1 1 [.slice (some ⟨gu,0,none⟩) v.ba.length uc] rfl rfl SG.out (by simp[U1]) (by omega) (by rw[kq.out];unfold maxLen;omega) (by rw[kq.out];omega) (by simp;omega) (w6.heap.size+1) (by simp) ?_;intro g7 c7 w7 Xp Vx Mx YO;obtain⟨k3,k4⟩:=Vz.out w7 g7 (Oy.out w7 g7 Vx Mx))
      obtain⟨y1,y2⟩:=fk.out.FF (ks:=v.ba.map (·.key)) (Oy.out w7 g7 Vx Mx) Xp (by rw[RZ];exact BW.out) fun k e=>by rw[<-I0.inj e];exact IW.out
      have KG:=RE.done HH.out HZ.out Tc.out Bd.out rfl y1 (Qp.trans Gw.out.symm) (XV.out.trans y2) hn;rw[Gw.out,Qp] at KG;obtain⟨⟨t1,t2⟩,t3⟩:=KG;have YV:=aa t3;clear t3 y1 y2 Xp Vx Mx YO k3 k4 fk XV BW IW GL Oy Vz SG d2;generalize w7.setCell ⟨eb,2,none⟩ (.slice (some ⟨g7,0,none⟩) (r2.KL.length+1) c7)=w8 at *;generalize qn _ s.Da i=pvi at t1;go_wp2_with fail;refine YV.out.mono ?_;rintro e w9 ⟨rfl,ha⟩;have HA:=aa ha;clear ha YV;go_wp2;go_ret2;exact⟨rfl,HA.out⟩
end
theorem zNI {t:TypeId} {v:Value} (W:World) (hB:B<=W.heap.size):(W.alloc (o_ #[v] t)).ownsRow B t 1 (.slice (some ⟨W.heap.size,0,none⟩) 1 1) 1 [v]:=⟨rfl,.inr ⟨W.heap.size,1,#[v],rfl,hB,heap_alloc_new W _,n_ _,by unfold maxLen;omega,rfl,rfl⟩⟩
def Ru (sb at_:Nat) (rv:Value) (rows:ta) (u many:Nat):Zd:=⟨at_+2,sb,.slice (some ⟨at_,0,none⟩) 1 1,.slice (some ⟨at_+1,0,none⟩) 1 1,rv,rows,u,many,[rv],[([],.slice none 0 0)],fun _=>0,fun _ _=>False⟩
theorem RE.new {W:World} (h:RS W B sb rv rows u many) (hB:B<=W.heap.size) (hx:∀ k,X k->k<W.heap.size) (yz:¬X sb) (VP:∀ k,rv.ownBlock=some k->¬X k):
  RE (((W.alloc (o_ #[rv] 32)).alloc KY).alloc (SX (some ⟨sb,0,none⟩) (some ⟨W.heap.size,0,none⟩) (some ⟨W.heap.size+1,0,none⟩))) B X (Ru sb W.heap.size rv rows u many) (fun _=>none):=by
 have b1:=a_ W (o_ #[rv] 32);have o1:=zNI (t:=32) (v:=rv) W hB;have z1:(W.alloc (o_ #[rv] 32)).heap.size=W.heap.size+1:=by simp
 generalize W.alloc (o_ #[rv] 32)=W1 at *;have b2:=a_ W1 KY;have o2:=zNI (B:=B) (t:=97) (v:=.slice none 0 0) W1 (by omega);have z2:(W1.alloc KY).heap.size=W1.heap.size+1:=by simp
 rw[z1] at o2;generalize W1.alloc KY=W2 at *;have b3:=a_ W2 (SX (some ⟨sb,0,none⟩) (some ⟨W.heap.size,0,none⟩) (some ⟨W.heap.size+1,0,none⟩));have cn:=aC W2 #[.pointer (some ⟨sb,0,none⟩),.slice (some ⟨W.heap.size,0,none⟩) 1 1,.slice (some ⟨W.heap.size+1,0,none⟩) 1 1,.pointer none,.pointer none,.pointer none,.pointer none] 54;have fn:=aQ W2 #[.pointer (some ⟨sb,0,none⟩),.slice (some ⟨W.heap.size,0,none⟩) 1 1,.slice (some ⟨W.heap.size+1,0,none⟩) 1 1,.pointer none,.pointer none,.pointer none,.pointer none] 54;have z3:W2.heap.size=W.heap.size+2:=by omega
 rw[z3] at cn fn;generalize W2.alloc (SX (some ⟨sb,0,none⟩) (some ⟨W.heap.size,0,none⟩) (some ⟨W.heap.size+1,0,none⟩))=W3 at *;have OW:=aB b2 (n_ _) b3;have bA:=aB b1 (n_ _) OW;have Mb:=b3.size;have wz:sb<W.heap.size:=h.lt (.inl rfl);have Ex:∀ i k,W_ (Ru sb W.heap.size rv rows u many) (fun _=>none) i k->(i=0/\k=W.heap.size+2)∨(i=1/\k=sb)∨(i=2/\k=W.heap.size)∨(i=3/\k=W.heap.size+1):=fun i k e=>by
  match i,e with
  | 0,e=>exact .inl ⟨rfl,e⟩
  | 1,e=>exact .inr (.inl ⟨rfl,e⟩)
  | 2,e=>exact .inr (.inr (.inl ⟨rfl,(I0.inj e).symm⟩))
  | 3,e=>exact .inr (.inr (.inr ⟨rfl,(I0.inj e).symm⟩))
  | i+4,⟨e,_⟩=>exact absurd rfl e
 exact {
  c0:=cn 0
  c1:=cn 1
  c2:=cn 2
  cd:=fun i hi=>by
   have hc:i=0∨i=1∨i=2∨i=3:=by omega
   rcases hc with rfl|rfl|rfl|rfl
   ·exact cn 3
   ·exact cn 4
   ·exact cn 5
   ·exact cn 6
  soft:=fn
  rs:=h.kept fun k e=>bA.block k (h.lt e)
  past:=bQ o1 OW
  keys:=bQ o2 b3
  Am:=fun p hp=>by rw[GZ.1 hp];exact World.ownsRow_nil _ _ _ _
  vw:=fun i v hv=>nomatch hv
  ap:=fun i j k hi hj=>by rcases Ex i k hi with h1|h1|h1|h1<;>rcases Ex j k hj with h2|h2|h2|h2<;>omega
  Ma:=fun i k e=>by
   rcases Ex i k e with⟨_,rfl⟩|⟨_,rfl⟩|⟨_,rfl⟩|⟨_,rfl⟩
   ·exact⟨by omega,fun e=>by have:=hx _ e;omega⟩
   ·exact⟨h.lo,yz⟩
   ·exact⟨by omega,fun e=>by have:=hx _ e;omega⟩
   ·exact⟨by omega,fun e=>by have:=hx _ e;omega⟩
  im:=fun k e hy=>by
   rcases e with e|⟨p,hp,e⟩|⟨i,e,_⟩
   ·have Aa:=h.lt (.inr e);rcases hy with hy|⟨i,hy⟩
    ·exact VP k e hy
    ·rcases Ex i k hy with h1|h1|h1|h1
     ·omega
     ·exact h.nv k e h1.2
     ·omega
     ·omega
   ·rw[GZ.1 hp] at e;cases e
   ·exact absurd rfl e
  xl:=fun k e=>by have:=hx k e;omega
  bl:=by omega }
theorem zOQ {s:Cc} {at_:Nat} (h0:s.now=0) (h1:s.ds=[]) (h2:∀ i,s.Da i=none):gH (Ru sb at_ rv (aS s.x.rows) s.x.used (s.x.d.now.length-50)) s:=
 ⟨rfl,rfl,rfl,by rw[h0];rfl,by rw[h0];rfl,⟨by rw[h0];rfl,by rw[h1];simp,fun i v hv=>by rw[h2 i] at hv;cases hv⟩,fun p hp=>by rw[GZ.1 hp];exact OZ _⟩
theorem zO1 (W:World) (h:RS W B sb rv rows u many) (hB:B<=W.heap.size) (hx:∀ k,X k->k<W.heap.size) (yz:¬X sb) (VP:∀ k,rv.ownBlock=some k->¬X k):
  Calls p_ 7 #[.pointer (some ⟨sb,0,none⟩)] W fun e w'=>e=.returned (.pointer (some ⟨W.heap.size+2,0,none⟩))/\RE w' B X (Ru sb W.heap.size rv rows u many) (fun _=>none)/\Below W.heap.size W w':=by
 have HR:=aa (RE.new h hB hx yz VP);have c:=h.c0;obtain⟨ra,rc,e,_⟩:=lV h.own;have HB:Hid (Below W.heap.size W (((W.alloc (o_ #[rv] 32)).alloc KY).alloc (SX (some ⟨sb,0,none⟩) (some ⟨W.heap.size,0,none⟩) (some ⟨W.heap.size+1,0,none⟩)))):=aB (aB (a_ W _) (n_ _) (a_ _ _)) (n_ _) (a_ _ _);subst e;clear h;go_enter func7,ntmps7;go_wp2;go_ret;exact⟨rfl,HR.out,HB.out⟩
section
variable {B:Nat} {X:Nat->Prop} {r:Zd} {s:Cc} {n:Nat}
theorem zNC (w:World) (h:RE w B X r s.Da) (hl:gH r s) (hf:Fit s n) (h2:n<=200) (hn:s.now<=900) (hi:i<4):
  Calls p_ 12 #[.pointer (some ⟨r.eb,0,none⟩),.int .i64 (i:Int)] w fun e w'=>e=.returned (.tuple #[.int .i64 ((Ac s i).1.1:Nat),.int .i64 ((Ac s i).1.2:Nat)])/\kQ w w' B X r (Ac s i).2:=by
 unfold Ac
 cases hv:s.Da i with
 | none=>
  dsimp only;refine(zNt w h hi hv).mono ?_;rintro e w' ⟨rfl,rfl⟩;exact⟨rfl,h.same hl (r_ _ _)⟩
 | some v=>
  dsimp only;split
  ·exact zNr w h hl hf.ok hf.s4 hi hv (by assumption)
  ·rename_i hc;split
   ·exact zNs w h hl hf.ok hf.s4 hi hv hc (by omega) (by assumption)
   ·rename_i Ee;have hA:Gz w B X r s n i v:=⟨h,hl,hf,h2,hi,hv,hc,by omega,by simpa using Ee⟩;split
    ·exact zNq w hA (by assumption)
    ·rename_i hz;exact zNp w hA (by simpa using hz) hn
end
end
end Go.Proofs.YtcfjimdfegejaaaGreatDoor
