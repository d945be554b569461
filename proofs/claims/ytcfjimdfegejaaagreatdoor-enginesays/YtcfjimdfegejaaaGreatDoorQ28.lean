import Derived.Test.YtcfjimdfegejaaaGreatDoorQ26
import Derived.Test.YtcfjimdfegejaaaGreatDoorQ27
import Derived.Test.YtcfjimdfegejaaaGreatDoorQ25
set_option maxHeartbeats 8000000
set_option maxRecDepth 100000
namespace Go.Proofs.YtcfjimdfegejaaaGreatDoor
open Nat renaming lt_of_lt_of_le→UY
open Obj renaming cells→o_
open World renaming cell?_setCell_other→t_,ownsRow.lt→l_
open Nat renaming le_refl→n_
open Go.Proofs.Tryz renaming prog→p_
open Value renaming string→v_,int→i_
open Go.Joins renaming below_alloc1→a_
variable {ba:List ma} {ga:ta} {i:Nat} {v:Mc}
section
open Go.RowKit Go.Joins Go.Shelf
structure EI (w0 w:World) (B n:Nat) (Hd:Nat->Prop) (O:Nat->Option Obj) (m:Ic) (r:Zd) (s:Cc):Prop where
 ek:EK w B m s
 fit:Fit s n
 re:RE w B (fun k=>Tb m s.Da k∨Hd k) r s.Da
 ln:gH r s
 an:∀ k,Hd k->¬Tb m s.Da k
 ho:∀ k,Hd k->w.heap[k]?=O k
 Ia:Below w0.heap.size w0 w
 lo:w0.heap.size<=B
structure EH (w0 w:World) (B:Nat) (Hd:Nat->Prop) (O:Nat->Option Obj) (m:Ic) (r:Zd) (s s':Cc):Prop where
 ek:EK w B m s'
 re:RE w B (fun k=>Tb m s'.Da k∨Hd k) r s.Da
 an:∀ k,Hd k->¬Tb m s'.Da k
 ho:∀ k,Hd k->w.heap[k]?=O k
 Ia:Below w0.heap.size w0 w
 lo:w0.heap.size<=B
def EJ (w0 w:World) (B n:Nat) (Hd:Nat->Prop) (O:Nat->Option Obj) (eb rb db c:Nat):Prop:=∃ m r s,EI w0 w B n Hd O m r s/\m.eb=eb/\r.eb=rb/\m.db=db/\s.c<=c
section
variable {w0 w w':World} {B n:Nat} {Hd:Nat->Prop} {O:Nat->Option Obj} {m:Ic} {r:Zd} {s s':Cc} {eb rb db c:Nat}
theorem EI.on (h:EI w0 w B n Hd O m r s) (hb:Below w.heap.size w w'):EI w0 w' B n Hd O m r s:=⟨h.ek.on hb,h.fit,h.re.on hb,h.ln,h.an,fun k e=>(hb.block k (h.re.xl k (.inr e))).trans (h.ho k e),aB h.Ia (n_ _) hb,h.lo⟩
theorem EH.on (h:EH w0 w B Hd O m r s s') (hb:Below w.heap.size w w'):EH w0 w' B Hd O m r s s':=⟨h.ek.on hb,h.re.on hb,h.an,fun k e=>(hb.block k (h.re.xl k (.inr e))).trans (h.ho k e),aB h.Ia (n_ _) hb,h.lo⟩
theorem EJ.on (h:EJ w0 w B n Hd O eb rb db c) (hb:Below w.heap.size w w'):EJ w0 w' B n Hd O eb rb db c:=by
 obtain⟨m,r,s,h1,h2⟩:=h;exact⟨m,r,s,h1.on hb,h2⟩
theorem EJ.ho (h:EJ w0 w B n Hd O eb rb db c):∀ k,Hd k->w.heap[k]?=O k:=by
 obtain⟨m,r,s,h1,_⟩:=h;exact h1.ho
theorem EJ.more (h:EJ w0 w B n Hd O eb rb db c) {c':Nat} (hc:c<=c'):EJ w0 w B n Hd O eb rb db c':=by
 obtain⟨m,r,s,h1,h2,h3,h4,h5⟩:=h;exact⟨m,r,s,h1,h2,h3,h4,Nat.le_trans h5 hc⟩
theorem EJ.Ia (h:EJ w0 w B n Hd O eb rb db c):Below w0.heap.size w0 w:=by
 obtain⟨m,r,s,h1,_⟩:=h;exact h1.Ia
theorem EJ.hold (h:EJ w0 w B n Hd O eb rb db c) {Hd':Nat->Prop} {O':Nat->Option Obj} (hb:Below w.heap.size w w') (h1:∀ k,Hd' k->w.heap.size<=k/\k<w'.heap.size/\w'.heap[k]?=O' k):EJ w0 w' B n Hd' O' eb rb db c:=by
 obtain⟨m,r,s,h,hr⟩:=h;refine⟨m,r,s,⟨h.ek.on hb,h.fit,h.re.kept hb.size (fun k hk hn=>⟨hb.block k hk,fun e=>e.elim (fun e=>hn (.inl e)) fun e=>by have:=(h1 k e).1;omega⟩) fun k e=>?_,h.ln,fun k hk ⟨i,e⟩=>by have:=h.ek.lt e;have:=(h1 k hk).1;omega,fun k e=>(h1 k e).2.2,aB h.Ia (Nat.le_refl _) hb,h.lo⟩,hr⟩
 rcases e with⟨i,e⟩|e
 ·exact Nat.lt_of_lt_of_le (h.ek.lt e) hb.size
 ·exact (h1 k e).2.1
theorem EI.act (h:EI w0 w B n Hd O m r s) (ha:Je w w' B m s s'):∃ m',EH w0 w' B Hd O m' r s s'/\m'.eb=m.eb/\m'.db=m.db:=by
 obtain⟨m',k1,k2,k3,k4⟩:=ha;have gh:∀ k,Hd k->k<w.heap.size:=fun k e=>h.re.xl k (.inr e);refine⟨m',⟨k1,h.re.kept k4.Ia.size (fun k hk hn=>?_) fun k e=>?_,fun k e=>(k4.Ma k (gh k e) (h.an k e)).2,fun k e=>(k4.Ma k (gh k e) (h.an k e)).1.trans (h.ho k e),h.Ia.trans (k4.Ia.mono h.lo),h.lo⟩,k2,k3.1⟩
 ·obtain⟨q1,q2⟩:=k4.Ma k hk fun e=>hn (.inl e);exact⟨q1,fun e=>e.elim q2 fun e=>hn (.inr e)⟩
 ·rcases e with⟨i,e⟩|e
  ·exact k1.lt e
  ·exact UY (gh k e) k4.Ia.size
theorem EH.done (h:EH w0 w B Hd O m r s s') (ha:kQ w w' B (fun k=>Tb m s'.Da k∨Hd k) r s') (hf:Fit s' n):∃ r',EI w0 w' B n Hd O m r' s'/\r'.eb=r.eb:=by
 obtain⟨r',e,Cl,Tv,st⟩:=ha;exact⟨r',⟨h.ek.kept st.Ia.size fun k hk=>st.fx k (.inl hk),hf,Cl,Tv,h.an,fun k e=>(st.fx k (.inr e)).trans (h.ho k e),h.Ia.trans (st.Ia.mono h.lo),h.lo⟩,e⟩
theorem EI.now (h:EI w0 w B n Hd O m r s):s.now<=s.c:=h.fit.ok.nc
theorem PJ {x:Int}:(x<0∨3<x)∨∃ i:Nat,i<4/\x=(i:Int):=by
 by_cases h:x<0∨3<x
 ·exact .inl h
 ·exact .inr ⟨x.toNat,by omega,by omega⟩
theorem zOb (h:EJ w0 w B n Hd O eb rb db c) (hc:c<=150) (x:Int):∃ (f:Nat) (Q:World->Prop),
  (∀ W,Below w.heap.size w W->Calls p_ 9 #[.pointer (some ⟨eb,0,none⟩),.int .i64 x] W fun e w'=>e=.returned (pa f)/\Q w'/\∀ k,Hd k->w'.heap[k]?=O k)/\
  ∀ W,Q W->∀ W',Below W.heap.size W W'->Calls p_ 10 #[.pointer (some ⟨rb,0,none⟩),.int .i64 x] W' fun e w'=>e=.returned (.int .i64 (f:Nat))/\EJ w0 w' B n Hd O eb rb db c:=by
 rcases PJ (x:=x) with hx|⟨i,hi,rfl⟩
 ·refine⟨1,fun W=>EJ w0 W B n Hd O eb rb db c,fun W hb=>(zNS eb x hx W).mono ?_,fun W hW W' hb=>(zN3 rb x hx W').mono ?_⟩
  ·rintro e w' ⟨rfl,rfl⟩;exact⟨rfl,h.on hb,(h.on hb).ho⟩
  ·rintro e w' ⟨rfl,rfl⟩;exact⟨rfl,hW.on hb⟩
 ·obtain⟨m,r,s,h,rfl,rfl,rfl,Fi⟩:=h;have hn:=h.now
  cases hv:s.Da i with
  | some v=>
   refine⟨7,fun W=>EI w0 W B n Hd O m r s,fun W hb=>(zDY W (h.on hb).ek hi hv).mono ?_,fun W hW W' hb=>(zNB W' (hW.on hb).re hi hv).mono ?_⟩
   ·rintro e w' ⟨rfl,rfl⟩;exact⟨rfl,h.on hb,(h.on hb).ho⟩
   ·rintro e w' ⟨rfl,rfl⟩;exact⟨rfl,m,r,s,hW.on hb,rfl,rfl,rfl,Fi⟩
  | none=>
   refine⟨0,fun W=>∃ m',EH w0 W B Hd O m' r s (dX s i)/\m'.eb=m.eb/\m'.db=m.db,fun W hb=>(wB W (h.on hb).ek hi hv).mono ?_,fun W hW W' hb=>?_⟩
   ·rintro e w' ⟨rfl,ha⟩;obtain⟨m',k1,k2⟩:=(h.on hb).act ha;exact⟨rfl,⟨m',k1,k2⟩,k1.ho⟩
   ·obtain⟨m',k1,k2,k3⟩:=hW;refine(zNA W' (k1.on hb).re h.ln (Ez B m s s.now) rfl (by omega) hi hv).mono ?_;rintro e w' ⟨rfl,ha⟩;obtain⟨r',q1,q2⟩:=(k1.on hb).done ha (h.fit.begin hi);exact⟨rfl,m',r',dX s i,q1,k2,q2,k3,Fi⟩
theorem zN9 (h:EJ w0 w B n Hd O eb rb db c) (hc:c<=150) (x:Int):∃ (f:Nat) (Q:World->Prop),
  (∀ W,Below w.heap.size w W->Calls p_ 13 #[.pointer (some ⟨eb,0,none⟩),.int .i64 x] W fun e w'=>e=.returned (pa f)/\Q w'/\∀ k,Hd k->w'.heap[k]?=O k)/\
  ∀ W,Q W->∀ W',Below W.heap.size W W'->Calls p_ 14 #[.pointer (some ⟨rb,0,none⟩),.int .i64 x] W' fun e w'=>e=.returned (.int .i64 (f:Nat))/\EJ w0 w' B n Hd O eb rb db c:=by
 rcases PJ (x:=x) with hx|⟨i,hi,rfl⟩
 ·refine⟨1,fun W=>EJ w0 W B n Hd O eb rb db c,fun W hb=>(zNR eb x hx W).mono ?_,fun W hW W' hb=>(zN2 rb x hx W').mono ?_⟩
  ·rintro e w' ⟨rfl,rfl⟩;exact⟨rfl,h.on hb,(h.on hb).ho⟩
  ·rintro e w' ⟨rfl,rfl⟩;exact⟨rfl,hW.on hb⟩
 ·obtain⟨m,r,s,h,rfl,rfl,rfl,Fi⟩:=h;obtain⟨hf,Ao⟩:=h.fit.abort hi;refine⟨(dS s i).1,fun W=>∃ m',EH w0 W B Hd O m' r s (dS s i).2/\m'.eb=m.eb/\m'.db=m.db,fun W hb=>(yZ W (h.on hb).ek h.fit.ok hi (by omega)).mono ?_,fun W hW W' hb=>?_⟩
  ·rintro e w' ⟨rfl,ha⟩;obtain⟨m',k1,k2⟩:=(h.on hb).act ha;exact⟨rfl,⟨m',k1,k2⟩,k1.ho⟩
  ·obtain⟨m',k1,k2,k3⟩:=hW;refine(zN1 W' (k1.on hb).re h.ln h.fit.ok h.fit.s4 hi).mono ?_;rintro e w' ⟨rfl,ha⟩;obtain⟨r',q1,q2⟩:=(k1.on hb).done ha hf;exact⟨rfl,m',r',_,q1,k2,q2,k3,by omega⟩
theorem zNP (h:EJ w0 w B n Hd O eb rb db c) (hc:c<=150) (h2:n<=200) (x:Int):∃ (a f:Nat) (Q:World->Prop),
  (∀ W,Below w.heap.size w W->Calls p_ 11 #[.pointer (some ⟨eb,0,none⟩),.int .i64 x] W fun e w'=>e=.returned (.tuple #[.int .i64 (a:Int),pa f])/\Q w'/\∀ k,Hd k->w'.heap[k]?=O k)/\
  ∀ W,Q W->∀ W',Below W.heap.size W W'->Calls p_ 12 #[.pointer (some ⟨rb,0,none⟩),.int .i64 x] W' fun e w'=>e=.returned (.tuple #[.int .i64 (a:Int),.int .i64 (f:Nat)])/\EJ w0 w' B n Hd O eb rb db (c+1):=by
 rcases PJ (x:=x) with hx|⟨i,hi,rfl⟩
 ·refine⟨0,1,fun W=>EJ w0 W B n Hd O eb rb db c,fun W hb=>(zNy eb x hx W).mono ?_,fun W hW W' hb=>(zNE rb x hx W').mono ?_⟩
  ·rintro e w' ⟨rfl,rfl⟩;exact⟨rfl,h.on hb,(h.on hb).ho⟩
  ·rintro e w' ⟨rfl,rfl⟩;exact⟨rfl,(hW.on hb).more (Nat.le_succ _)⟩
 ·obtain⟨m,r,s,h,rfl,rfl,rfl,Fi⟩:=h;obtain⟨hf,Ao⟩:=h.fit.TW hi;have hn:=h.now;refine⟨(Ac s i).1.1,(Ac s i).1.2,fun W=>∃ m',EH w0 W B Hd O m' r s (Ac s i).2/\m'.eb=m.eb/\m'.db=m.db,fun W hb=>(vX W (h.on hb).ek h.fit.ok hi (by omega)).mono ?_,fun W hW W' hb=>?_⟩
  ·rintro e w' ⟨rfl,ha⟩;obtain⟨m',k1,k2⟩:=(h.on hb).act ha;exact⟨rfl,⟨m',k1,k2⟩,k1.ho⟩
  ·obtain⟨m',k1,k2,k3⟩:=hW;refine(zNC W' (k1.on hb).re h.ln h.fit h2 (by omega) hi).mono ?_;rintro e w' ⟨rfl,ha⟩;obtain⟨r',q1,q2⟩:=(k1.on hb).done ha hf;exact⟨rfl,m',r',_,q1,k2,q2,k3,by omega⟩
theorem EI.alone (h:EI w0 w B n Hd O m r s) (ha:Je w w' B m s s') (hf:Fit s' n) (hs:s'.Da=s.Da) (hl:gH r s'):∃ m',EI w0 w' B n Hd O m' r s'/\m'.eb=m.eb/\m'.db=m.db:=by
 obtain⟨m',k1,k2⟩:=h.act ha;refine⟨m',⟨k1.ek,hf,?_,hl,k1.an,k1.ho,k1.Ia,k1.lo⟩,k2⟩;have:=k1.re;rw[<-hs] at this;exact this
theorem zPm (h:EI w0 w B n Hd O m r s) (hc:s.c<=150):∀ W,Below w.heap.size w W->Calls p_ 15 #[.pointer (some ⟨m.eb,0,none⟩)] W fun e w'=>e=.returned (.tuple #[])/\∃ m',EI w0 w' B n Hd O m' r (Jj s)/\m'.eb=m.eb/\m'.db=m.db:=fun W hb=>by
 refine(zC2 W (h.on hb).ek h.fit.ok hc).mono ?_;rintro e w' ⟨rfl,ha⟩;exact⟨rfl,(h.on hb).alone ha h.fit.ER rfl ⟨h.ln.rows,h.ln.u,h.ln.many,h.ln.pl,h.ln.last,⟨h.ln.kk.len,h.ln.kk.mem,h.ln.kk.all⟩,h.ln.kl⟩⟩
theorem zPd (h:EI w0 w B n Hd O m r s):∀ W,Below w.heap.size w W->Calls p_ 17 #[.pointer (some ⟨m.eb,0,none⟩)] W fun e w'=>e=.returned .nilIface/\w'.cell? ⟨r.eb,0,none⟩=some (.pointer (some ⟨r.sb,0,none⟩))/\(∃ v,w'.cell? ⟨r.sb,1,none⟩=some v)/\w'.frozen? ⟨r.sb,1,none⟩=false/\EJ w0 (w'.setCell ⟨r.sb,1,none⟩ (.int .i64 0)) B n Hd O m.eb r.eb m.db s.c:=fun W hb=>by
 obtain⟨n1,n2,n3,n4,n5⟩:=zOn h.fit.ok.g h.fit.left;have nu:=zIn h.fit.ok.g h.fit.left;have hc:=zKv W (h.on hb).ek h.fit.ok;rw[n1,aR] at hc;refine hc.mono ?_;rintro e w' ⟨rfl,ha⟩;obtain⟨m',k1,k2,k3⟩:=(h.on hb).act ha;refine⟨rfl,k1.re.c0,⟨_,k1.re.rs.c1⟩,k1.re.rs.soft 1,?_⟩;obtain⟨v',q1,q2⟩:=k1.re.store (k1.re.rs.used 0);have hv:v'=r.rv:=by
  have e1:=q1.rs.c0;have e2:(w'.setCell ⟨r.sb,1,none⟩ (.int .i64 ((0:Nat):Int))).cell? ⟨r.sb,0,none⟩=some r.rv:=(t_ _ _ _ _ (by simp)).trans k1.re.rs.c0;exact Option.some.inj (e1.symm.trans e2)
 rw[hv] at q1;obtain⟨r',z1,z2⟩:=k1.done (n:=n) ⟨{ r with u:=0 },rfl,q1,⟨h.ln.rows.trans (by show _=aS (zc s.x).2.rows;rw[n5]),nu.symm,h.ln.many.trans (by show _=(zc s.x).2.d.now.length-50;rw[n4]),h.ln.pl,h.ln.last,⟨h.ln.kk.len,h.ln.kk.mem,h.ln.kk.all⟩,h.ln.kl⟩,q2⟩ h.fit.gr;exact⟨m',r',ir s,z1,k2,z2,k3,n_ _⟩
end
section
variable {w0 w w':World} {B n:Nat} {Hd:Nat->Prop} {O:Nat->Option Obj} {m:Ic} {r:Zd} {s s':Cc} {eb rb db c:Nat}
theorem zPc {w:World} {B wb:Nat} {S:Nat->Prop} {P:ta} {sn:Sn} {A:Nat->Prop} (h:PV w B wb S P sn ba ga):PV w B wb S P { sn with A:=A } ba ga:=by
 unfold PV at h ⊢;exact h
theorem EI.tb (h:EI w0 w B n Hd O m r s) (Iu:Yd w0) (hc:s.c<=150) (hv:s.Da i=some v):TB w B (m.W i).1 (r.W i) (Gs m i) (r.G i) v.P { Ez B m s v.n with A:=fun k=>k≠r.W i/\X_ (fun k=>Tb m s.Da k∨Hd k) r s.Da k } v.ba v.ga v.ba v.ga:=by
 have ho:=h.fit.ok.Da i v hv;obtain⟨sn,en,hr⟩:=h.re.vw i v hv;have Xx:W_ r s.Da (i+4) (r.W i):=⟨by rw[hv];exact nofun,rfl⟩;refine⟨⟨zPc (h.ek.pv h.fit.ok hv (by omega)),ho.oq,fun W hW=>iL Iu (h.Ia.trans (hW.mono h.lo))⟩,⟨zPw hr en.symm,ho.ov,ho.oq,h.re.bl,(h.re.Ma _ _ Xx).1⟩,fun k hk hp=>?_,fun k ⟨hk,hy⟩=>⟨h.re.YI hy,fun hg=>(h.re.yk hv hg).elim (fun e=>hk e.2) fun e=>h.re.im k e hy⟩⟩;have hx:Tb m s.Da k:=hp.elim (fun e=>⟨i+3,by rw[hv];exact nofun,e⟩) fun e=>⟨2,e⟩;exact(h.re.yk hv hk).elim (fun e=>(h.re.Ma _ k e).2 (.inl hx)) fun e=>h.re.im k e (.inl (.inl hx))
theorem EI.fq (h:EI w0 w B n Hd O m r s) (hi:i<4) (hv:s.Da i=some v) {S' G':Nat->Prop} (ht:TB w' B (m.W i).1 (r.W i) S' G' v.P { Ez B m s v.n with A:=fun k=>k≠r.W i/\X_ (fun k=>Tb m s.Da k∨Hd k) r s.Da k } ba ga ba ga) (hf:Fr w w' B (r.W i) (Gs m i) S'):∃ m' r',EI w0 w' B n Hd O m' r' (jU s i v ba ga)/\m'.eb=m.eb/\r'.eb=r.eb/\m'.db=m.db:=by
 have Xx:W_ r s.Da (i+4) (r.W i):=⟨by rw[hv];exact nofun,rfl⟩;have Lo:=(h.re.Ma _ _ Xx).2;have hnr:¬Tb m s.Da (r.W i):=fun e=>Lo (.inl e);have gh:∀ k,Hd k->k<w.heap.size:=fun k e=>h.re.xl k (.inr e);have Kx:∀ k,Hd k->k≠r.W i:=fun k e e'=>Lo (.inr (e'▸e));obtain⟨x,_,k1,k2,k3⟩:=h.ek.Aw (rb:=r.W i) hv hi (zPc (A:=fun _=>False) ht.qv.pv) hf.Ia hf.Ma hnr;have zt:G' (r.W i):=ht.vb.rbG;have vz:px w' (r.W i) G' ⟨v.P,v.n,ba,ga⟩:=⟨_,rfl,ht.qr.rw⟩;have hX:∀ k,k<w.heap.size->¬(Tb m s.Da k∨Hd k)->k≠r.W i->w'.heap[k]?=w.heap[k]?/\¬(Tb { m with W:=Yb m.W i x } (jU s i v ba ga).Da k∨Hd k):=fun k hk hn hr=>by
  obtain⟨q1,q2⟩:=k2 k hk (fun e=>hn (.inl e)) hr;exact⟨q1,fun e=>e.elim q2 fun e=>hn (.inr e)⟩
 have Cl:=h.re.view (w':=w') (X':=fun k=>Tb { m with W:=Yb m.W i x } (jU s i v ba ga).Da k∨Hd k) hv hf.Ia.size hX (fun e=>e.elim (fun e=>(k3 _ e).elim hnr fun e=>ht.ap _ zt e) fun e=>Kx _ e rfl) (fun k e=>by
  rcases e with⟨j,e⟩|e
  ·exact k1.lt e
  ·exact UY (gh k e) hf.Ia.size) vz fun k hg hk=>by
   have hy:¬X_ (fun k=>Tb m s.Da k∨Hd k) r s.Da k:=fun e=>(ht.av k ⟨hk,e⟩).2 hg;exact⟨fun e=>e.elim (fun e=>(k3 k e).elim (fun e=>hy (.inl (.inl e))) fun e=>ht.ap k hg e) fun e=>hy (.inl (.inr e)),hy⟩
 exact⟨_,_,⟨k1,⟨h.fit.ok.view hv ht.qv.pv.ok ht.qv.ok,h.fit.s4.set hi _,h.fit.left,h.fit.len⟩,Cl,⟨h.ln.rows,h.ln.u,h.ln.many,h.ln.pl,h.ln.last,h.ln.kk.view hv _ _,h.ln.kl⟩,fun k e=>(k2 k (gh k e) (h.an k e) (Kx k e)).2,fun k e=>(k2 k (gh k e) (h.an k e) (Kx k e)).1.trans (h.ho k e),h.Ia.trans (hf.Ia.mono h.lo),h.lo⟩,rfl,rfl,rfl⟩
theorem zOI (h:EJ w0 w B n Hd O eb rb db c) (Iu:Yd w0) (hc:c<=150) (x:Int):
  (∃ f:Nat,0<f/\(∀ W,Below w.heap.size w W->Calls p_ 19 #[.pointer (some ⟨eb,0,none⟩),.int .i64 x] W fun e w'=>e=.returned (.tuple #[.pointer none,pa f])/\w'=W)/\
   ∀ W,Below w.heap.size w W->Calls p_ 20 #[.pointer (some ⟨rb,0,none⟩),.int .i64 x] W fun e w'=>e=.returned (.tuple #[.pointer none,.int .i64 (f:Nat)])/\w'=W)∨
  ∃ wb vb,(∀ W,Below w.heap.size w W->Calls p_ 19 #[.pointer (some ⟨eb,0,none⟩),.int .i64 x] W fun e w'=>e=.returned (.tuple #[.pointer (some ⟨wb,0,none⟩),.nilIface])/\w'=W)/\
   (∀ W,Below w.heap.size w W->Calls p_ 20 #[.pointer (some ⟨rb,0,none⟩),.int .i64 x] W fun e w'=>e=.returned (.tuple #[.pointer (some ⟨vb,0,none⟩),.int .i64 0])/\w'=W)/\
   ∀ y:Vd,fT y->bY w y.sa y.Zh->∀ W,Below w.heap.size w W->Calls p_ 21 #[.pointer (some ⟨wb,0,none⟩),.pointer (some ⟨vb,0,none⟩),.agg #[v_ y.kind,i_ .i64 y.a,i_ .i64 y.b,i_ .i64 y.c,i_ .u64 y.k,v_ y.s,v_ y.t,Value.slice y.ca y.ba.length y.cc,Value.slice y.sa y.Zh.length y.sc]] W fun e w'=>e=.returned (.bool true)/\
    ∀ W',Below w'.heap.size w' W'->Calls p_ 22 #[.pointer (some ⟨wb,0,none⟩),.pointer (some ⟨vb,0,none⟩)] W' fun e Ch=>e=.returned (.bool true)/\EJ w0 Ch B n Hd O eb rb db c:=by
 rcases PJ (x:=x) with hx|⟨i,hi,rfl⟩
 ·exact .inl ⟨1,by decide,fun W _=>PS eb x hx W,fun W _=>IS rb x hx W⟩
 ·obtain⟨m,r,s,h,rfl,rfl,rfl,Fi⟩:=h
  cases hv:s.Da i with
  | none=>exact .inl ⟨7,by decide,fun W hb=>pC W (h.on hb).ek hi hv,fun W hb=>BS W (h.on hb).re hi hv⟩
  | some v=>
   refine .inr ⟨(m.W i).1,r.W i,fun W hb=>mT W (h.on hb).ek hi hv,fun W hb=>lA W (h.on hb).re hi hv,fun y hl Mk W hb=>?_⟩;have hW:=h.on hb;refine(zO9 y W (hW.tb Iu (by omega) hv) hl (lX hb Mk)).mono ?_;rintro e w' ⟨rfl,S',G',ba,ga,ht,hf⟩;refine⟨rfl,fun W' Sd=>(zNM W' (ht.on Sd).qv.pv (ht.on Sd).qr.rw).mono ?_⟩;rintro e Ch ⟨rfl,za⟩;obtain⟨m',r',q1,q2,q3,q4⟩:=hW.fq hi hv ht hf;exact⟨rfl,m',r',_,q1.on (aB Sd (n_ _) za),q2,q3,q4,Fi⟩
structure OT (w:World) (B n:Nat) (Hd:Nat->Prop) (O:Nat->Option Obj) (eb db:Nat) (rv:Value) (rows:ta) (u:Nat) (w0:World):Prop where
 ex:∃ m s,EK w B m s/\Fit s n/\m.eb=eb/\m.db=db/\s.c=0/\s.now=0/\s.ds=[]/\(∀ i,s.Da i=none)/\aS s.x.rows=rows/\s.x.used=u/\(∀ k,Hd k->¬Tb m s.Da k)/\∀ k,rv.ownBlock=some k->¬(Tb m s.Da k∨Hd k)
 own:Sb w B rv rows
 ho:∀ k,Hd k->w.heap[k]?=O k
 gh:∀ k,Hd k->k<w.heap.size
 Ia:Below w0.heap.size w0 w
 lo:w0.heap.size<=B
theorem zOS (h:EI w0 w B n Hd O m r s):∀ W,Below w.heap.size w W->Calls p_ 18 #[.pointer (some ⟨m.db,0,none⟩)] W fun e w'=>∃ mr,e=.returned (.tuple #[.pointer (some ⟨mr,0,none⟩),.nilIface])/\Below W.heap.size W w'/\OT w' B n Hd O mr m.db r.rv (aS s.x.rows) s.x.used w0:=fun W hb=>by
 have hW:=h.on hb;obtain⟨S,hk,hS⟩:=hW.ek.sa.vx;refine(zIf W hk h.fit.ok.g).mono ?_;rintro e w' ⟨mr,rfl,hn⟩;obtain⟨m2,Cj,he,hd,pg⟩:=hn.ex;have gh:∀ k,Hd k->k<W.heap.size:=fun k e=>hW.re.xl k (.inr e);have Fj:∀ k,k<W.heap.size->¬Tb m s.Da k->¬Tb m2 (Qu s.x.d s.x.ia s.x.first s.x.used s.x.rows).Da k:=fun k hk hx e=>(pg k e).elim (fun e=>hx ⟨1,hS k e⟩) fun e=>by omega
 have ya:=hW.re.rs.own;rw[h.ln.rows] at ya;refine⟨mr,rfl,hn.Ia,⟨⟨m2,_,Cj,⟨Ed.new h.fit.ok.g,Cj.s4,h.fit.left,h.fit.len⟩,he,hd,rfl,rfl,rfl,fun _=>rfl,rfl,rfl,fun k e=>Fj k (gh k e) (h.an k e),fun k e=>?_⟩,bQ ya hn.Ia,fun k e=>(hn.Ia.block k (gh k e)).trans (hW.ho k e),fun k e=>UY (gh k e) hn.Ia.size,aB hW.Ia (n_ _) hn.Ia,h.lo⟩⟩;have hi:=hW.re.im k (.inl e);have Aa:=hW.re.Zp (.inl e);exact fun e=>e.elim (Fj k Aa fun e=>hi (.inl (.inl e))) fun e=>hi (.inl (.inr e))
theorem zNH {rv:Value} {rows:ta} {u:Nat} (h:OT w B n Hd O eb db rv rows u w0):∀ W,Below w.heap.size w W->∀ W',Below (W.alloc (o_ #[rv,.int .i64 (u:Int),.int .i64 ((n-50:Nat):Int)] 34)).heap.size (W.alloc (o_ #[rv,.int .i64 (u:Int),.int .i64 ((n-50:Nat):Int)] 34)) W'->Calls p_ 7 #[.pointer (some ⟨W.heap.size,0,none⟩)] W' fun e w'=>∃ rb,e=.returned (.pointer (some ⟨rb,0,none⟩))/\EJ w0 w' B n Hd O eb rb db 0/\Below W'.heap.size W' w':=fun W hb W' Sd=>by
 obtain⟨m,s,Cj,hf,he,hd,hc,h0,h1,h2,h3,h4,h5,h6⟩:=h.ex;have b1:=a_ W (o_ #[rv,.int .i64 (u:Int),.int .i64 ((n-50:Nat):Int)] 34);have cn:=aC W #[rv,.int .i64 (u:Int),.int .i64 ((n-50:Nat):Int)] 34;have fn:=aQ W #[rv,.int .i64 (u:Int),.int .i64 ((n-50:Nat):Int)] 34;have z1:(W.alloc (o_ #[rv,.int .i64 (u:Int),.int .i64 ((n-50:Nat):Int)] 34)).heap.size=W.heap.size+1:=by simp
 generalize W.alloc (o_ #[rv,.int .i64 (u:Int),.int .i64 ((n-50:Nat):Int)] 34)=W1 at *;have bA:=aB (aB hb (n_ _) b1) (n_ _) Sd;have Na:=hb.size;have Ub:=Sd.size;have hBw:=Cj.tk;have gh:=h.gh;have TP:∀ k,rv.ownBlock=some k->k<w.heap.size:=fun k e=>(l_ h.own k e).2;have Zv:RS W' B W.heap.size rv rows u (n-50):=⟨aA Sd (cn 0),aA Sd (cn 1),aA Sd (cn 2),fun j=>aE Sd (by show W.heap.size<_;omega) (fn j),bQ h.own bA,fun k e=>by have:=TP k e;omega,by omega⟩;refine(zO1 (X:=fun k=>Tb m s.Da k∨Hd k) W' Zv (by omega) (fun k e=>?_) (fun e=>?_) h6).mono ?_
 ·rcases e with⟨i,e⟩|e
  ·have:=Cj.lt e;omega
  ·have:=gh k e;omega
 ·rcases e with⟨i,e⟩|e
  ·have:=Cj.lt e;omega
  ·have:=gh _ e;omega
 ·rintro e w' ⟨rfl,Cl,za⟩;have bB:=aB bA (n_ _) za;have QE:s.Da=fun _=>none:=funext h2;subst h3 h4;refine⟨_,rfl,⟨m,_,s,⟨Cj.on bB,hf,by rw[QE];rw[QE] at Cl;exact Cl,?_,h5,fun k e=>(bB.block k (gh k e)).trans (h.ho k e),aB h.Ia (n_ _) bB,h.lo⟩,he,rfl,hd,by omega⟩,za⟩;have:=zOQ (s:=s) (sb:=W.heap.size) (at_:=W'.heap.size) (rv:=rv) h0 h1 h2;rw[hf.len] at this;exact this
end
theorem yC (n:Nat) (w:World):Calls p_ 8 #[pa n,.int .i64 (n:Int)] w fun e w'=>e=.returned (.bool true)/\w'=w:=eI n _ w rfl
section
variable {w0 w w':World} {B n:Nat} {Hd:Nat->Prop} {O:Nat->Option Obj} {m:Ic} {r:Zd} {s s':Cc} {eb rb db c:Nat}
theorem EI.rows (h:EI w0 w B n Hd O m r s):∃ ja jc,w.cell? ⟨r.eb,0,none⟩=some (.pointer (some ⟨r.sb,0,none⟩))/\w.cell? ⟨r.sb,0,none⟩=some (.slice ja (aS s.x.rows).length jc)/\r.rv=.slice ja (aS s.x.rows).length jc/\bY w ja (aS s.x.rows):=by
 have ho:=h.re.rs.own;rw[h.ln.rows] at ho;obtain⟨ja,jc,e,hh⟩:=lV ho;exact⟨ja,jc,h.re.c0,by rw[<-e];exact h.re.rs.c0,e,hh⟩
theorem zOc (h:EJ w0 w B n Hd O eb rb db c) (hc:c<=150):∃ (now sb len:Nat) (ja:Option Addr) (jc:Nat),(w.cell? ⟨rb,0,none⟩=some (.pointer (some ⟨sb,0,none⟩))/\w.cell? ⟨sb,0,none⟩=some (.slice ja len jc))/\
  (∀ W,Below w.heap.size w W->Calls p_ 23 #[.pointer (some ⟨eb,0,none⟩)] W fun e w'=>e=.returned (.int .i64 (now:Int))/\w'=W)/\
  (∀ W,Below w.heap.size w W->Calls p_ 24 #[.pointer (some ⟨rb,0,none⟩)] W fun e w'=>e=.returned (.int .i64 (now:Int))/\w'=W)/\
  ∀ W,Below w.heap.size w W->Calls p_ 26 #[.pointer (some ⟨eb,0,none⟩)] W fun e w'=>∃ ra rc,e=.returned (.slice ra len rc)/\Below W.heap.size W w'/\∀ W',Below w'.heap.size w' W'->Calls p_ 25 #[.slice ra len rc,.slice ja len jc] W' fun e Ch=>e=.returned (.bool true)/\Below W'.heap.size W' Ch:=by
 obtain⟨m,r,s,h,rfl,rfl,rfl,Fi⟩:=h;have hn:=h.now;obtain⟨ja,jc,c0,c1,_,hh⟩:=h.rows;have ee:=h.fit.ok.Mi;have Yn:(aS s.x.rows).length<=40:=by unfold aS;rw[List.length_map];exact ee
 refine⟨s.now,r.sb,(aS s.x.rows).length,ja,jc,⟨c0,c1⟩,fun W hb=>zMY W (h.on hb).ek,fun W hb=>IJ W (h.on hb).re h.ln.pl (by omega),fun W hb=>(zBq W (h.on hb).ek (by omega)).mono ?_⟩;rintro e w' ⟨v,rfl,ho,za⟩;obtain⟨ra,rc,rfl,Er⟩:=lV ho;refine⟨ra,rc,rfl,za,fun W' Ra=>?_⟩;have Ja:=aB (aB hb (n_ _) za) (n_ _) Ra;exact rP (aS s.x.rows) ra ja rc jc W' (lX Ra Er) (lX Ja hh) (by omega)
theorem zOP (h:EI w0 w B n Hd O m r (Jj s)) (ok:Ed s) (hc:s.c<=150) (hs:∀ i,i<4->s.Da i=none):∀ W,Below w.heap.size w W->Calls p_ 16 #[.pointer (some ⟨m.eb,0,none⟩)] W fun e w'=>e=.returned (.int .i64 ((aS s.x.rows).length:Int))/\Below W.heap.size W w':=fun W hb=>by
 have vm:=yA ok.we ok.Mi;refine(zHT W (h.on hb).ek h.fit.ok (by show s.c+1<=190;omega)).mono ?_;rintro e w' ⟨K,rfl,hK,za⟩;have hR':(Jj s).R=Te s.R (s.now:Int):=by
  show Te s.R (cI s:Int)=_;rw[zD4 hs]
 rw[hR'] at hK ⊢;rw[zIs hK ok.up vm.Gm (fun r hr=>by have:=vm.keys r hr;unfold maxLen;omega) ok.Rk];exact⟨rfl,za⟩
end
def uI (f:Fs):Nat->Bool
 | 0=>true
 | j+1=>uI f j&&(f j).isNone
theorem zNl {f:Fs}:∀ {j:Nat},uI f j=true->∀ i,i<j->f i=none
 | 0,_,i,hi=>by omega
 | j+1,h,i,hi=>by
  unfold uI at h;rw[Bool.and_eq_true] at h;by_cases e:i=j
  ·rw[e];exact Option.isNone_iff_eq_none.1 h.2
  ·exact zNl h.1 i (by omega)
end
end Go.Proofs.YtcfjimdfegejaaaGreatDoor
