import Derived.Test.YtcfjimdfegejaaaGreatDoorQ17
set_option maxHeartbeats 8000000
set_option maxRecDepth 100000
namespace Go.Proofs.YtcfjimdfegejaaaGreatDoor
open List renaming length_cons→PZ,mem_cons_of_mem→D1,mem_cons_self→Y0,mem_singleton→GZ,not_mem_nil→X0
open Go.Proofs.Tryz
open World renaming ownsRow.lt→l_
open Go.RowKit.Below renaming heap_setCell→h_,refl→r_
open Nat renaming le_refl→n_
open Go.Proofs.Tryz renaming prog→p_
variable {S':Nat->Prop}
section
open Go.RowKit Go.Joins
attribute [local go_sem ↓] Go.wp_at_zero Go.wp_at_succ
structure LK (w:World) (B lb db:Nat) (S:Nat->Prop) (fr many first used:Nat) (s:Bb):Prop where
 dk:DK w B db S s
 hd:Ol w lb db fr many first used
 nl:¬S lb
 lo:B<=lb
 us:used<=many
 fit:fr+many<=s.now.length
 f1:1<=first/\first<=1500000
def Jt (lb:Nat) (S:Nat->Prop) (k:Nat):Prop:=k=lb∨S k
def vj (l:List ma) (xh:Nat):Nat:=if 12<l.length then 2 else if xh<l.length+1 then 8 else bS l
def og (fr many first used:Nat) (s:Bb) (l:List ma):Nat×Nat×Bb:=
 if vj l (many-used)≠0 then (vj l (many-used),used,s)
 else
  let r:=Ea (iP (fr+used) (cB (first+used) l) (many-used)) s
  (r.1,if r.1=0 then used+l.length+1 else used,r.2)
def pB (w w':World) (B lb db:Nat) (S:Nat->Prop) (fr many first used:Nat) (s:Bb):Prop:=∃ S',LK w' B lb db S' fr many first used s/\aG w w' B (Jt lb S) (Jt lb S')
section
variable {w w':World} {B lb db:Nat} {S:Nat->Prop} {fr many first used:Nat} {s s':Bb}
theorem LK.on (h:LK w B lb db S fr many first used s) (hb:Below w.heap.size w w'):LK w' B lb db S fr many first used s:=
 ⟨h.dk.on hb,h.hd.kept (hb.block lb h.hd.lt),h.nl,h.lo,h.us,h.fit,h.f1⟩
theorem LK.stay (h:LK w B lb db S fr many first used s) (hb:Below w.heap.size w w'):pB w w' B lb db S fr many first used s:=⟨S,h.on hb,.on h.dk.lo hb⟩
theorem zDL (hs:aG w w' B S S'):aG w w' B (Jt lb S) (Jt lb S'):=
 ⟨hs.Ia,fun j hj Vp=>⟨(hs.Ma j hj fun e=>Vp (.inr e)).1,fun e=>e.elim (fun e=>Vp (.inl e)) (hs.Ma j hj fun e=>Vp (.inr e)).2⟩⟩
theorem LK.step (h:LK w B lb db S fr many first used s) (hk:DK w' B db S' s') (hs:aG w w' B S S') (hl:s'.now.length=s.now.length):LK w' B lb db S' fr many first used s':=
 have f1:=hs.Ma lb h.hd.lt h.nl
 ⟨hk,h.hd.kept f1.1,f1.2,h.lo,h.us,by rw[hl];exact h.fit,h.f1⟩
theorem LK.use (h:LK w B lb db S fr many first used s) (n:Nat) (hn:n<=many):pB w (w.setCell ⟨lb,4,none⟩ (.int .i64 (n:Int))) B lb db S fr many first n s:=by
 refine⟨S,⟨h.dk.kept (by simp) fun k e=>h_ _ _ _ _ fun e2=>h.nl (by have e3:k=lb:=e2;rw[<-e3];exact e),h.hd.use n,h.nl,h.lo,hn,h.fit,h.f1⟩,⟨(r_ _ _).setCell (p:=⟨lb,4,none⟩) h.lo _,fun j hj hn=>⟨h_ _ _ _ _ fun e=>hn (.inl e),hn⟩⟩⟩
theorem pB.after {w1 w2:World} {S1:Nat->Prop} {n:Nat} (hs:aG w w1 B (Jt lb S) (Jt lb S1)) (ha:pB w1 w2 B lb db S1 fr many first n s):pB w w2 B lb db S fr many first n s:=by
 obtain⟨S2,h1,h2⟩:=ha;exact⟨S2,h1,hs.trans h2⟩
theorem zDn (l:List ma) (ao:Option Addr) (cap:Nat) (w:World) (h:LK w B lb db S fr many first used s) (hd:bW w ao l) (Mb:∀ c∈l,c.key.size<=1000/\c.val.size<=1000) (hlen:l.length<=1000):
  Calls p_ 162 #[.pointer (some ⟨lb,0,none⟩),.slice ao l.length cap] w fun e w'=>e=.returned (pa (og fr many first used s l).1)/\pB w w' B lb db S fr many first (og fr many first used s l).2.1 (og fr many first used s l).2.2:=by
 have Pg:=h.dk.many;have Rf:=h.fit;have Ht:=h.us;have Qc:=h.f1;unfold og vj;by_cases sr:12<l.length
 ·have Jn:(12:Int)<(l.length:Int):=by omega
  rw[if_pos sr,if_pos (by decide)];have H:=aa h;clear h;go_enter func162,ntmps162;go_wp2;go_ret;exact⟨rfl,H.out.stay (r_ _ _)⟩
 rw[if_neg sr];have Jn:¬(12:Int)<(l.length:Int):=by omega
 have Qm:=aa (vB w h.hd h.us (by omega));by_cases Oc:many-used<l.length+1
 ·have Zn:((many-used:Nat):Int)<(l.length:Int)+1:=by omega
  rw[if_pos Oc,if_pos (by decide)];have H:=aa h;clear h Pg Rf Ht;generalize many-used=xh at *;go_enter func162,ntmps162;go_wp2_with (go_at_call 216;refine Qm.out.mono ?_;rintro e w1 ⟨rfl,nn,rfl⟩)
  go_ret;exact⟨rfl,H.out.stay (below_drewN (r_ _ _) _)⟩
 rw[if_neg Oc];have Zn:¬((many-used:Nat):Int)<(l.length:Int)+1:=by omega
 have cx:=aa (fun n=>zCu l ao cap (w.drewN n) (eA (below_drewN (r_ _ _) n) hd) (by omega) Mb (h.hd.kept (w':=w.drewN n) rfl) (by omega));by_cases kh:bS l=0
 ·rw[if_neg (by rw[kh];decide)];have zg:=nB (first+used) l;have yv:=aa h;have fu:Hid (∀ n v w',lR (w.drewN n) w' v l (first+used)->∃ g c,v=.slice (some ⟨g,0,none⟩) (l.length+1) c/\Ke w' B lb db S fr many first used g c (cB (first+used) l) s/\Below w.heap.size w w'):=fun n v w' hp=>by
   unfold lR at hp;rw[if_pos kh] at hp;obtain⟨ho,hb⟩:=hp;have za:Below w.heap.size w w':=(below_drewN (r_ w.heap.size w) n).trans (hb.mono (n_ _));obtain⟨g,c,hv,hce⟩:=zJg (w:=w') (B:=w.heap.size) (l:=cB (first+used) l) ho (by omega);rw[zg] at hv;have lf:=h.on za;refine⟨g,c,hv,⟨lf.dk,lf.hd,lf.nl,hce,fun e=>?_,by omega,by omega,h.fit⟩,za⟩;have h1:=h.dk.lt e;have h2:=(l_ ho g (by rw[hv];rfl)).1;have h3:w.heap.size<=g:=h2;omega
  rw[kh,aR] at cx;obtain⟨r,hr⟩:∃ r,Ea (iP (fr+used) (cB (first+used) l) (many-used)) s=r:=⟨_,rfl⟩;simp only[hr];have ZG:Hid (∀ w' g c,Ke w' B lb db S fr many first used g c (cB (first+used) l) s->Calls p_ 218 #[.agg #[.pointer (some ⟨lb,0,none⟩),.slice (some ⟨g,0,none⟩) (l.length+1) c]] w' fun e Ch=>e=.returned (pa r.1)/\Xa w' Ch B db S r.2):=fun w' g c ha=>by
   have:=zLu w' ha;rw[zg,hr] at this;exact this
  have Xq:Hid (r.2.now.length=s.now.length):=by rw[<-hr];exact fS _ _
  clear h hr zg;by_cases Yh:r.1=0
  ·rw[if_pos Yh,Yh,aR];have Ji:=aa Yh;simp only[Yh,aR] at ZG;have HNU:Hid ((used:Int)+((l.length:Int)+1)=((used+l.length+1:Nat):Int)):=aa (by omega);clear Yh;generalize Nu:many-used=xh at *;have SL:=aa Nu;clear Nu;go_enter func162,ntmps162;go_wp2_with (first
    | (go_at_call 216;refine Qm.out.mono ?_;rintro e w1 ⟨rfl,nn,rfl⟩)
    | (go_at_call 217;refine(cx.out _).mono ?_;rintro e w2 ⟨v2,rfl,Dt⟩;obtain⟨g2,QW,rfl,al,za⟩:=fu.out _ _ _ Dt;have Gl:=aa al;have Cb:=aa za;clear al za Dt)
    | (go_at_call 218;refine(ZG.out _ _ _ Gl.out).mono ?_;rintro e w3 ⟨rfl,ez⟩;obtain⟨S3,Bk,Tf⟩:=ez;have ct:=aa ((yv.out.on Cb.out).step Bk Tf Xq.out);have Sh:=aa ((aG.on yv.out.dk.lo Cb.out).trans (zDL (lb:=lb) Tf));have c4:=ct.out.hd.c4;have f4:=ct.out.hd.soft 4;clear Bk Tf)
    | fail)
   go_ret;refine⟨rfl,pB.after Sh.out ?_⟩;have hu:=ct.out.use (used+l.length+1) (by have:=SL.out;omega);rw[<-HNU.out] at hu;exact hu
  ·rw[if_neg Yh];have Ji:=aa Yh;rw[aP Yh] at ZG;have Wd:Hid (pa r.1=.iface 77 (.int .i64 r.1)):=aP Yh;rw[Wd.out];clear Yh;generalize Nu:many-used=xh at *;clear Nu;go_enter func162,ntmps162;go_wp2_with (first
    | (go_at_call 216;refine Qm.out.mono ?_;rintro e w1 ⟨rfl,nn,rfl⟩)
    | (go_at_call 217;refine(cx.out _).mono ?_;rintro e w2 ⟨v2,rfl,Dt⟩;obtain⟨g2,QW,rfl,al,za⟩:=fu.out _ _ _ Dt;have Gl:=aa al;have Cb:=aa za;clear al za Dt)
    | (go_at_call 218;refine(ZG.out _ _ _ Gl.out).mono ?_;rintro e w3 ⟨rfl,ez⟩;obtain⟨S3,Bk,Tf⟩:=ez;have ct:=aa ((yv.out.on Cb.out).step Bk Tf Xq.out);have Sh:=aa ((aG.on yv.out.dk.lo Cb.out).trans (zDL (lb:=lb) Tf));clear Bk Tf)
    | fail)
   go_ret;exact⟨rfl,S3,ct.out,Sh.out⟩
 ·rw[if_pos kh];have yv:=aa h;have Wd:Hid (pa (bS l)=.iface 77 (.int .i64 (bS l))):=aP kh;have fu:Hid (∀ n v w',lR (w.drewN n) w' v l (first+used)->Below w.heap.size w w'):=fun n v w' hp=>by
   unfold lR at hp;rw[if_neg kh] at hp;exact(below_drewN (r_ w.heap.size w) n).trans (hp.mono (n_ _))
  rw[Wd.out] at cx;simp only[Wd.out];clear h kh;generalize Nu:many-used=xh at *;clear Nu;go_enter func162,ntmps162;go_wp2_with (first
   | (go_at_call 216;refine Qm.out.mono ?_;rintro e w1 ⟨rfl,nn,rfl⟩)
   | (go_at_call 217;refine(cx.out _).mono ?_;rintro e w2 ⟨v2,rfl,Dt⟩;have Cb:=aa (fu.out _ _ _ Dt);clear Dt)
   | fail)
  go_ret;exact⟨rfl,yv.out.stay Cb.out⟩
end
end
structure zV (s:Bb) (fr many first:Nat) (ds:List (List ma)) (u:Nat):Prop where
 down:s.down=false
 wait:s.wait=[]
 kept:s.kept=s.now
 fit:fr+many<=s.now.length
 has:Ye s.now fr many first ds u
section
variable {s:Bb} {fr many first u:Nat} {ds:List (List ma)}
theorem zV.us (h:zV s fr many first ds u):u<=many:=h.has.used h.fit
theorem zIb {l:List ma} {xh:Nat} (h:vj l xh=0):l.length<=12/\l.length+1<=xh/\bS l=0:=by
 unfold vj at h;split at h
 ·cases h
 ·split at h
  ·cases h
  ·exact⟨by omega,by omega,h⟩
theorem zLB (o:Uj) (s:Bb) (hd:s.down=false) (hl:s.left=-1) (ho:∀ a d,o=some (a,d)->a<s.now.length/\d.size<=96):Bg o s=0/\(ye o s).down=false/\(ye o s).left=-1/\(ye o s).now.length=s.now.length:=by
 obtain⟨e1,e3⟩:=zC6 hd (show s.left≠0 by rw[hl];decide);have e2:bR s=s:=by rw[e3,if_neg (by rw[hl];decide)]
 cases o with
 | some x=>
  obtain⟨a,d⟩:=x;obtain⟨h1,h2⟩:=ho a d rfl;have hb:¬((a:Int)<0∨(s.now.length:Int)<=(a:Int)∨96<d.size):=by omega
  have eF:Bg (some (a,d)) s=0:=by show dO s a d=_;unfold dO;rw[if_neg hb];exact e1
  have eD:ye (some (a,d)) s=sG s a (aH d):=by show cV s a d=_;unfold cV;rw[if_neg hb,if_pos e1,e2,Int.toNat_natCast]
  rw[eF,eD];exact⟨rfl,hd,hl,List.length_set ..⟩
 | none=>
  have eD:ye none s={ s with kept:=s.now,wait:=[] }:=by show bZ s=_;unfold bZ;rw[if_pos e1,e2]
  rw[eD];exact⟨e1,hd,hl,rfl⟩
theorem vA (n:Nat):∀ (Cz:List Uj) (s:Bb),s.down=false->s.left=-1->s.now.length=n->(∀ o∈Cz,∀ a d,o=some (a,d)->a<n/\d.size<=96)->(Ea Cz s).1=0/\(Ea Cz s).2.left=-1
 | [],s,_,hl,_,_=>⟨rfl,hl⟩
 | o::l,s,hd,hl,hn,ho=>by
  obtain⟨q1,q2,q3,q4⟩:=zLB o s hd hl (by rw[hn];exact ho o (Y0 ..));show(if Bg o s=0 then Ea l (ye o s) else (Bg o s,ye o s)).1=0/\(if Bg o s=0 then Ea l (ye o s) else (Bg o s,ye o s)).2.left=-1;rw[if_pos q1];exact vA n l _ q2 q3 (by rw[q4];exact hn) fun o' h=>ho o' (D1 _ h)
theorem sX:∀ (l:List ByteArray) (b:Nat) (o:Uj),o∈aL b l->∀ a d,o=some (a,d)->b<=a/\a<b+l.length/\d∈l
 | [],_,o,h,_,_,_=>absurd h X0
 | t::l,b,o,h,a,d,e=>by
  rcases List.mem_cons.1 h with rfl|h
  ·cases e;exact⟨n_ _,by rw[PZ];omega,Y0 ..⟩
  ·obtain⟨q1,q2,q3⟩:=sX l (b+1) o h a d e;exact⟨by omega,by rw[PZ];omega,D1 _ q3⟩
theorem zV.never (h:zV s fr many first ds u) (hl:s.left=-1) (l:List ma) (hf:vj l (many-u)=0):(og fr many first u s l).1=0/\(og fr many first u s l).2.2.left=-1:=by
 obtain⟨_,q2,q3⟩:=zIb hf;have Ht:=h.us;have Rf:=h.fit;have Mb:=zBM (n:=first+u) q3;have zg:=nB (first+u) l;unfold og;rw[if_neg (by rw[hf];decide)];refine vA s.now.length _ s h.down hl rfl fun o ho a d e=>?_;generalize cB (first+u) l=qa at *;have Oj:bF.size<=96:=by decide
 unfold iP dR at ho;simp only[List.flatten_cons,List.flatten_nil,List.append_nil,List.mem_append,GZ] at ho;rcases ho with rfl|rfl|ho|ho|rfl|rfl|rfl
 ·cases e;exact⟨by omega,Oj⟩
 ·cases e
 ·obtain⟨p1,p2,p3⟩:=sX _ _ o ho a d e;rw[List.length_tail] at p2;exact⟨by omega,Mb d (List.mem_of_mem_tail p3)⟩
 ·split at ho
  ·exact absurd ho X0
  ·rw[GZ] at ho;rw[ho] at e;cases e;exact⟨by omega,Oj⟩
 ·cases e
 ·cases e;refine⟨by omega,?_⟩
  cases qa with
  | nil=>simp at zg
  | cons t0 tl=>exact Mb t0 (Y0 ..)
 ·cases e
end
end Go.Proofs.YtcfjimdfegejaaaGreatDoor
