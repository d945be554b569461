import Derived.Test.YtnboipekkahmnaaGreatDoorE24
import Derived.Deep.SlicePairs
set_option maxHeartbeats 8000000
set_option maxRecDepth 100000
namespace Go.Proofs.YtnboipekkahmnaaGreatDoor
section
open Go.ChangeShapes Go.WideShapes Go.ChangeAt Go.RowKit Go.Joins Go.Deep
section
variable {H:Type} {enc:TypeId×Value->H} {w:World} {base:Nat} {held:Bool}
theorem dY {P:Program} {spare:Nat->Bool} {n i:Nat} {t:TypeId} {fs:Array Field} {cs:List Value} {xs:List (DataW H×List MemPlace)} (hxl:xs.length=fs.size)
  (hf:∀ (i:Nat) (f:Field),fs[i]?=some f->DataW.trod enc P w base spare held n f.type ((cs.drop f.offset).take (P.cellsOf f.type))=xs[i]?) {f:Field} (hi:fs[i]?=some f) (ho:f.offset=i) (hc:P.cellsOf f.type=1) (ht:f.type=t) (hl:i<cs.length):
  ∃ v y,cs[i]?=some v/\DataW.trod enc P w base spare held n t [v]=some y:=by
 have h:=hf i f hi
 have hx:i<xs.length:=by rw[hxl];exact(Array.getElem?_eq_some_iff.1 hi).1
 rw[ho,hc,ht,List.getElem?_eq_getElem hx] at h
 have e:(cs.drop i).take 1=[cs[i]]:=by
  rw[List.drop_eq_getElem_cons hl];rfl
 rw[e] at h
 exact⟨_,_,List.getElem?_eq_getElem hl,h⟩
theorem zFG {a:Int} (h:(Lit.int .i64 a).wf=true):-9223372036854775808<=a/\a<=9223372036854775807:=by
 simpa[Lit.wf,IntKind.min,IntKind.signed,IntKind.bits] using h
theorem zH9 {v:Value} {fuel:Nat} {x:DataW H×List MemPlace} (h:DataW.trod enc Tryz.prog w base (fun _=>true) held fuel 36 [v]=some x):∃ (ao:Option Addr) (cap:Nat) (l:List Chg),v=.slice ao l.length cap/\bW w ao l:=by
 rcases open_slice Tryz.underlying36 h with⟨hcs,_⟩|⟨a,len,cap,m,n,D,Pl,hcs,_,hl,hm,hmm,_,hx⟩
 ·simp at hcs
  subst hcs
  exact⟨_,_,[],rfl,.inl rfl⟩
 ·simp at hcs
  subst hcs
  simp only[if_true] at hmm
  by_cases h0:len=0
  ·subst h0
   exact⟨_,_,[],rfl,.inl rfl⟩
  ·obtain⟨b,off,spot⟩:=a
   have hc3:Tryz.prog.cellsOf 133=3:=by kernel_rfl
   have hspot:spot=none:=by
    obtain⟨cs,h1,_⟩:=hx 0 (by omega)
    rw[hc3] at h1
    obtain⟨_,hlen,hcell⟩:=World.cells?_some h1
    have e0:=(hcell 0 (by omega)).trans (List.getElem?_eq_getElem (by omega))
    simpa[Addr.add] using World.cell?_spot e0
   subst hspot
   have each:∀ i,i<len->∃ c:Chg,w.cell? ⟨b,off+i*3,none⟩=some (.string c.key)/\w.cell? ⟨b,off+i*3+1,none⟩=some (.string c.val)/\w.cell? ⟨b,off+i*3+2,none⟩=some (.bool c.gone):=by
    intro i hi
    obtain⟨cs,h1,h2⟩:=hx i (by omega)
    rw[hc3] at h1
    obtain⟨_,hlen,hcell⟩:=World.cells?_some h1
    obtain⟨xs,k,hk,hxy,_,hxl,hf⟩:=DataW.trod_struct Tryz.underlying133 h2
    obtain⟨v0,y0,e0,g0⟩:=dY (i:=0) (t:=9) hxl hf rfl rfl (by kernel_rfl) rfl (by omega)
    obtain⟨v1,y1,e1,g1⟩:=dY (i:=1) (t:=9) hxl hf rfl rfl (by kernel_rfl) rfl (by omega)
    obtain⟨v2,y2,e2,g2⟩:=dY (i:=2) (t:=4) hxl hf rfl rfl (by kernel_rfl) rfl (by omega)
    obtain⟨s0,q0,_,_⟩:=DataW.trod_string Tryz.underlying9 g0
    obtain⟨s1,q1,_,_⟩:=DataW.trod_string Tryz.underlying9 g1
    obtain⟨b2,q2,_⟩:=DataW.trod_bool Tryz.underlying4 g2
    simp at q0 q1 q2
    subst q0 q1 q2
    have c0:=(hcell 0 (by omega)).trans e0
    have c1:=(hcell 1 (by omega)).trans e1
    have c2:=(hcell 2 (by omega)).trans e2
    rw[add_add,add_plain] at c0 c1 c2
    exact⟨⟨s0,s1,b2⟩,by simpa using c0,by simpa[Nat.add_assoc] using c1,by simpa[Nat.add_assoc] using c2⟩
   haveI:Inhabited Chg:=⟨⟨ByteArray.empty,ByteArray.empty,false⟩⟩
   obtain⟨q,hq⟩:=choose_lt each
   refine⟨_,cap,(List.range len).map q,by simp,.inr ⟨b,off,rfl,?_⟩⟩
   intro i hi
   have hi':i<len:=by simpa using hi
   simpa using hq i hi'
theorem zGZ {v:Value} {fuel:Nat} {x:DataW H×List MemPlace} (h:DataW.trod enc Tryz.prog w base (fun _=>true) held fuel 37 [v]=some x):
  ∃ (ao:Option Addr) (cap:Nat) (l:List (ByteArray×ByteArray)),v=.slice ao l.length cap/\bY w ao l/\l.length<=maxLen/\(ao=none->cap=0/\l=[]):=by
 rcases open_slice Tryz.underlying37 h with⟨hcs,_⟩|⟨a,len,cap,m,n,D,Pl,hcs,_,hl,hm,hmm,_,hx⟩
 ·simp at hcs
  subst hcs
  exact⟨_,_,[],rfl,.inl rfl,Nat.zero_le _,fun _=>⟨rfl,rfl⟩⟩
 ·simp at hcs
  subst hcs
  simp only[if_true] at hmm
  by_cases h0:len=0
  ·subst h0
   exact⟨_,_,[],rfl,.inl rfl,Nat.zero_le _,fun h=>by cases h⟩
  ·obtain⟨b,off,spot⟩:=a
   have hc3:Tryz.prog.cellsOf 80=2:=by kernel_rfl
   have hspot:spot=none:=by
    obtain⟨cs,h1,_⟩:=hx 0 (by omega)
    rw[hc3] at h1
    obtain⟨_,hlen,hcell⟩:=World.cells?_some h1
    have e0:=(hcell 0 (by omega)).trans (List.getElem?_eq_getElem (by omega))
    simpa[Addr.add] using World.cell?_spot e0
   subst hspot
   have each:∀ i,i<len->∃ c:ByteArray×ByteArray,w.cell? ⟨b,off+i*2,none⟩=some (.string c.1)/\w.cell? ⟨b,off+i*2+1,none⟩=some (.string c.2):=by
    intro i hi
    obtain⟨cs,h1,h2⟩:=hx i (by omega)
    rw[hc3] at h1
    obtain⟨_,hlen,hcell⟩:=World.cells?_some h1
    obtain⟨xs,k,hk,hxy,_,hxl,hf⟩:=DataW.trod_struct Tryz.underlying80 h2
    obtain⟨v0,y0,e0,g0⟩:=dY (i:=0) (t:=9) hxl hf rfl rfl (by kernel_rfl) rfl (by omega)
    obtain⟨v1,y1,e1,g1⟩:=dY (i:=1) (t:=9) hxl hf rfl rfl (by kernel_rfl) rfl (by omega)
    obtain⟨s0,q0,_,_⟩:=DataW.trod_string Tryz.underlying9 g0
    obtain⟨s1,q1,_,_⟩:=DataW.trod_string Tryz.underlying9 g1
    simp at q0 q1
    subst q0 q1
    have c0:=(hcell 0 (by omega)).trans e0
    have c1:=(hcell 1 (by omega)).trans e1
    rw[add_add,add_plain] at c0 c1
    exact⟨(s0,s1),by simpa using c0,by simpa[Nat.add_assoc] using c1⟩
   haveI:Inhabited (ByteArray×ByteArray):=⟨(ByteArray.empty,ByteArray.empty)⟩
   obtain⟨q,hq⟩:=choose_lt each
   refine⟨_,cap,(List.range len).map q,by simp,.inr ⟨b,off,rfl,?_⟩,by simp;omega,fun h=>by cases h⟩
   intro i hi
   have hi':i<len:=by simpa using hi
   simpa using hq i hi'
theorem zH6 {v:Value} {fuel:Nat} {x:DataW H×List MemPlace} (h:DataW.trod enc Tryz.prog w base (fun _=>true) held fuel 22 [v]=some x):
  ∃ (ao:Option Addr) (cap:Nat) (l:List ActL),v=.slice ao l.length cap/\iM w ao l:=by
 rcases open_slice Tryz.underlying22 h with⟨hcs,_⟩|⟨a,len,cap,m,n,D,Pl,hcs,_,hl,hm,hmm,_,hx⟩
 ·simp at hcs
  subst hcs
  exact⟨_,_,[],rfl,.inl rfl⟩
 ·simp at hcs
  subst hcs
  simp only[if_true] at hmm
  by_cases h0:len=0
  ·subst h0
   exact⟨_,_,[],rfl,.inl rfl⟩
  ·obtain⟨b,off,spot⟩:=a
   have hc9:Tryz.prog.cellsOf 39=9:=by kernel_rfl
   have hspot:spot=none:=by
    obtain⟨cs,h1,_⟩:=hx 0 (by omega)
    rw[hc9] at h1
    obtain⟨_,hlen,hcell⟩:=World.cells?_some h1
    have e0:=(hcell 0 (by omega)).trans (List.getElem?_eq_getElem (by omega))
    simpa[Addr.add] using World.cell?_spot e0
   subst hspot
   have each:∀ i,i<len->∃ c:ActL,vI w b (off+i*9) c:=by
    intro i hi
    obtain⟨cs,h1,h2⟩:=hx i (by omega)
    rw[hc9] at h1
    obtain⟨_,hlen,hcell⟩:=World.cells?_some h1
    obtain⟨xs,k,hk,hxy,_,hxl,hf⟩:=DataW.trod_struct Tryz.underlying39 h2
    obtain⟨v0,y0,e0,g0⟩:=dY (i:=0) (t:=9) hxl hf rfl rfl (by kernel_rfl) rfl (by omega)
    obtain⟨v1,y1,e1,g1⟩:=dY (i:=1) (t:=3) hxl hf rfl rfl (by kernel_rfl) rfl (by omega)
    obtain⟨v2,y2,e2,g2⟩:=dY (i:=2) (t:=3) hxl hf rfl rfl (by kernel_rfl) rfl (by omega)
    obtain⟨v3,y3,e3,g3⟩:=dY (i:=3) (t:=3) hxl hf rfl rfl (by kernel_rfl) rfl (by omega)
    obtain⟨v4,y4,e4,g4⟩:=dY (i:=4) (t:=35) hxl hf rfl rfl (by kernel_rfl) rfl (by omega)
    obtain⟨v5,y5,e5,g5⟩:=dY (i:=5) (t:=9) hxl hf rfl rfl (by kernel_rfl) rfl (by omega)
    obtain⟨v6,y6,e6,g6⟩:=dY (i:=6) (t:=9) hxl hf rfl rfl (by kernel_rfl) rfl (by omega)
    obtain⟨v7,y7,e7,g7⟩:=dY (i:=7) (t:=36) hxl hf rfl rfl (by kernel_rfl) rfl (by omega)
    obtain⟨v8,y8,e8,g8⟩:=dY (i:=8) (t:=37) hxl hf rfl rfl (by kernel_rfl) rfl (by omega)
    obtain⟨s0,q0,_,_⟩:=DataW.trod_string Tryz.underlying9 g0
    obtain⟨s1,q1,_,w1⟩:=DataW.trod_int Tryz.underlying3 g1
    obtain⟨s2,q2,_,_⟩:=DataW.trod_int Tryz.underlying3 g2
    obtain⟨s3,q3,_,_⟩:=DataW.trod_int Tryz.underlying3 g3
    obtain⟨s4,q4,_,_⟩:=DataW.trod_int Tryz.underlying35 g4
    obtain⟨s5,q5,_,_⟩:=DataW.trod_string Tryz.underlying9 g5
    obtain⟨s6,q6,_,_⟩:=DataW.trod_string Tryz.underlying9 g6
    obtain⟨ca,cc,chs,q7,h7⟩:=zH9 g7
    obtain⟨sa,sc,sps,q8,h8,n8,_⟩:=zGZ g8
    simp at q0 q1 q2 q3 q4 q5 q6
    subst q0 q1 q2 q3 q4 q5 q6 q7 q8
    have c0:=(hcell 0 (by omega)).trans e0
    have c1:=(hcell 1 (by omega)).trans e1
    have c2:=(hcell 2 (by omega)).trans e2
    have c3:=(hcell 3 (by omega)).trans e3
    have c4:=(hcell 4 (by omega)).trans e4
    have c5:=(hcell 5 (by omega)).trans e5
    have c6:=(hcell 6 (by omega)).trans e6
    have c7:=(hcell 7 (by omega)).trans e7
    have c8:=(hcell 8 (by omega)).trans e8
    rw[add_add,add_plain,<-Nat.add_assoc] at c0 c1 c2 c3 c4 c5 c6 c7 c8
    exact⟨⟨s0,s1,s2,s3,s4,s5,s6,ca,cc,chs,sa,sc,sps⟩,⟨c0,c1,c2,c3,c4,c5,c6,c7,c8,h7,h8,n8,zFG w1⟩⟩
   haveI:Inhabited ActL:=⟨⟨ByteArray.empty,0,0,0,0,ByteArray.empty,ByteArray.empty,none,0,[],none,0,[]⟩⟩
   obtain⟨q,hq⟩:=choose_lt each
   refine⟨_,cap,(List.range len).map q,by simp,.inr ⟨b,off,rfl,?_⟩⟩
   intro i hi
   have hi':i<len:=by simpa using hi
   simpa using hq i hi'
end
theorem zCl {H:Type} {enc:TypeId×Value->H} {W:World} {base:Nat} {v:Value} {d:DataW H} {p:List MemPlace}
  (hv:Value.okWide Tryz.prog W .any base 22 v) (h:DataW.Trod enc Tryz.prog W 0 (fun _=>true) true 22 v d p):∃ (ao:Option Addr) (cap:Nat) (l:List ActL),v=.slice ao l.length cap/\iM W ao l/\l.length<=cap:=by
 obtain⟨a0,len,cap,rfl⟩:=okWide_slice Tryz.underlying22 hv
 obtain⟨fuel,hf⟩:=h
 have hf':DataW.trod enc Tryz.prog W 0 (fun _=>true) true fuel 22 [.slice a0 len cap]=some (d,p):=by simpa[Value.cells] using hf
 have hc:len<=cap:=by
  rcases open_slice Tryz.underlying22 hf' with⟨e,_⟩|⟨a,l,c,m,n,D,Pl,e,_,hl,_⟩
  ·simp at e;omega
  ·simp at e;omega
 obtain⟨ao,c,l,e,hl⟩:=zH6 hf'
 have e':=e
 simp at e'
 exact⟨ao,c,l,e,hl,by omega⟩
end
def zAl (w:World):World:=
 { w with heap:=((w.heap.modify 3 fun
   | .cells _ t fr=>.cells #[.int .u64 1,.int .u64 10,.int .u64 100,.int .u64 1000,.int .u64 10000,.int .u64 100000,.int .u64 1000000,.int .u64 10000000,.int .u64 100000000,.int .u64 1000000000,.int .u64 10000000000,.int .u64 100000000000,.int .u64 1000000000000,.int .u64 10000000000000,.int .u64 100000000000000,.int .u64 1000000000000000,.int .u64 10000000000000000,.int .u64 100000000000000000,.int .u64 1000000000000000000,.int .u64 10000000000000000000] t fr
   | o=>o).modify 4 fun
   | .cells _ t fr=>.cells #[.int .u8 0,.int .u8 1,.int .u8 28,.int .u8 2,.int .u8 29,.int .u8 14,.int .u8 24,.int .u8 3,.int .u8 30,.int .u8 22,.int .u8 20,.int .u8 15,.int .u8 25,.int .u8 17,.int .u8 4,.int .u8 8,.int .u8 31,.int .u8 27,.int .u8 13,.int .u8 23,.int .u8 21,.int .u8 19,.int .u8 16,.int .u8 7,.int .u8 26,.int .u8 12,.int .u8 18,.int .u8 6,.int .u8 11,.int .u8 5,.int .u8 10,.int .u8 9] t fr
   | o=>o).modify 5 fun
   | .cells _ t fr=>.cells #[.int .u8 0,.int .u8 1,.int .u8 56,.int .u8 2,.int .u8 57,.int .u8 49,.int .u8 28,.int .u8 3,.int .u8 61,.int .u8 58,.int .u8 42,.int .u8 50,.int .u8 38,.int .u8 29,.int .u8 17,.int .u8 4,.int .u8 62,.int .u8 47,.int .u8 59,.int .u8 36,.int .u8 45,.int .u8 43,.int .u8 51,.int .u8 22,.int .u8 53,.int .u8 39,.int .u8 33,.int .u8 30,.int .u8 24,.int .u8 18,.int .u8 12,.int .u8 5,.int .u8 63,.int .u8 55,.int .u8 48,.int .u8 27,.int .u8 60,.int .u8 41,.int .u8 37,.int .u8 16,.int .u8 46,.int .u8 35,.int .u8 44,.int .u8 21,.int .u8 52,.int .u8 32,.int .u8 23,.int .u8 11,.int .u8 54,.int .u8 26,.int .u8 40,.int .u8 15,.int .u8 34,.int .u8 20,.int .u8 31,.int .u8 10,.int .u8 25,.int .u8 14,.int .u8 19,.int .u8 9,.int .u8 13,.int .u8 8,.int .u8 7,.int .u8 6] t fr
   | o=>o }
def tR:Array Obj:=#[.cells #[.string ⟨#[118,97,108,117,101,32,111,117,116,32,111,102,32,114,97,110,103,101]⟩] 411,.cells #[.string ⟨#[105,110,118,97,108,105,100,32,115,121,110,116,97,120]⟩] 411]
def zAR (low:Nat) (w:World):World:=
 { w with heap:=(w.heap.modify 1 fun
   | .cells _ t fr=>.cells #[.iface 409 (.pointer (some ⟨low+1,0,none⟩))] t fr
   | o=>o).modify 2 fun
   | .cells _ t fr=>.cells #[.iface 409 (.pointer (some ⟨low,0,none⟩))] t fr
   | o=>o }
section
open Go.RowKit Go.Joins Go.Shelf
section
variable {w0 w w':World} {B n:Nat} {m:EMem} {s s':ESt}
theorem zO8 (h:RunE w0 w B m s n) {i:Nat} (hi:i<4) (hv:s.ses i=none):
  Calls Tryz.prog 18 #[.pointer (some ⟨m.eb,0,none⟩),.int .i64 (i:Int)] w fun e w'=>e=.returned .nilIface/\∃ m',RunA w0 w w' B m s (dX s i) n m':=
 (wB w h.ek hi hv).mono fun _ _ ⟨he,ha⟩=>⟨he,h.act ha (h.fit.begin hi)⟩
theorem zNI (h:RunE w0 w B m s n) {i:Nat} (hi:i<4) (hc:s.c<=150):
  Calls Tryz.prog 20 #[.pointer (some ⟨m.eb,0,none⟩),.int .i64 (i:Int)] w fun e w'=>e=.returned (.tuple #[.int .i64 ((comE s i).1.1:Int),errV (comE s i).1.2])/\∃ m',RunA w0 w w' B m s (comE s i).2 n m':=
 (vX w h.ek h.fit.ok hi hc).mono fun _ _ ⟨he,ha⟩=>⟨he,h.act ha (h.fit.com hi).1⟩
theorem zPe (h:RunE w0 w B m s n) {i:Nat} {v:VwL} (hv:s.ses i=some v) (hi:i<4) {chs:List Chg} {rds:Rws} (ha:ActQ w w' B (m.W i).1 (inPV m i) v.P (snE B m s v.n) chs rds) (h2:Ok2 v.P chs rds):∃ m',RunA w0 w w' B m s (jU s i v chs rds) n m'/\(m'.W i).1=(m.W i).1:=by
 obtain⟨S',hq,hst⟩:=ha
 obtain⟨y,hy,k1,k2⟩:=h.ek.view hv hi hq.pv hst
 refine⟨_,⟨⟨k1,⟨h.fit.ok.view hv h2.ov h2.oq,h.fit.s4.set hi _,h.fit.left,h.fit.len⟩,h.bel.trans (k2.bel.mono h.lo),h.lo,h.la⟩,rfl,rfl,k2⟩,?_⟩
 show(updW m.W i y i).1=_
 rw[qH];exact hy
theorem RunE.qv (h:RunE w0 w B m s n) {i:Nat} {v:VwL} (hv:s.ses i=some v) (hc:s.c<=190):QV w B (m.W i).1 (inPV m i) v.P (snE B m s v.n) v.chs v.rds:=h.ek.qv h.fit.ok hv hc h.laid
theorem RunE.ok2 (h:RunE w0 w B m s n) {i:Nat} {v:VwL} (hv:s.ses i=some v):Ok2 v.P v.chs v.rds:=⟨(h.fit.ok.ses i v hv).ov,(h.fit.ok.ses i v hv).oq⟩
theorem zPd (x:ActL) (h:RunE w0 w B m s n) {i:Nat} {v:VwL} (hv:s.ses i=some v) (hi:i<4) (hc:s.c<=190) (hl:fT x) (hxs:bY w x.sa x.sps):
  Calls Tryz.prog 39 #[.pointer (some ⟨(m.W i).1,0,none⟩),.agg #[Value.string x.kind,Value.int .i64 x.a,Value.int .i64 x.b,Value.int .i64 x.c,Value.int .u64 x.k,Value.string x.s,Value.string x.t,Value.slice x.ca x.chs.length x.cc,Value.slice x.sa x.sps.length x.sc]] w fun e w'=>e=.returned (.string (fY v.P v.chs v.rds x).1)/\∃ m',RunA w0 w w' B m s (actE s i v x) n m'/\(m'.W i).1=(m.W i).1:=
 (zJ4 x w (h.qv hv hc) hl hxs).mono fun _ _ ⟨he,ha⟩=>⟨he,zPe h hv hi ha ((h.ok2 hv).told x)⟩
theorem RunE.acts (h:RunE w0 w B m s n) {ao:Option Addr} {l:List ActL} (hd:iM w0 ao l):iM w ao l:=zHR h.bel hd
end
theorem zOo {w0 w:World} {B n:Nat} {m:EMem} {s:ESt} (h:RunE w0 w B m s n):Calls Tryz.prog 35 #[.pointer (some ⟨m.eb,0,none⟩)] w fun e w'=>∃ ra rc,e=.returned (.slice ra (aS s.x.rows).length rc)/\bY w' ra (aS s.x.rows)/\Below w.heap.size w w':=by
 refine(zBq w h.ek (by have:=h.fit.ok.few;omega)).mono ?_
 rintro e w' ⟨v,rfl,ho,hb⟩
 obtain⟨ra,rc,rfl,hh⟩:=lV ho
 exact⟨ra,rc,rfl,hh,hb⟩
theorem zNH {s:ESt} (h:EOk s):(aS s.x.rows).length<=40:=by unfold aS;rw[List.length_map];exact h.few
theorem zPh {w0 w:World} {B n:Nat} {m:EMem} {s:ESt} (h:RunE w0 w B m s n):Calls Tryz.prog 27 #[.pointer (some ⟨m.db,0,none⟩)] w fun e w'=>∃ eb,e=.returned (.tuple #[.pointer (some ⟨eb,0,none⟩),.nilIface])/\Below w.heap.size w w'/\∃ m2 s2,RunE w0 w' B m2 s2 n/\m2.eb=eb/\s2.x.rows=s.x.rows/\s2.now=0/\∀ i,s2.ses i=none:=by
 obtain⟨S,hk,_⟩:=h.ek.sa.disk
 refine(zIf w hk h.fit.ok.g).mono ?_
 rintro e w' ⟨eb,rfl,hn⟩
 obtain⟨m2,hek,he,_,_⟩:=hn.ex
 exact⟨eb,rfl,hn.bel,m2,_,⟨hek,⟨EOk.new h.fit.ok.g,hek.s4,h.fit.left,h.fit.len⟩,aB h.bel (Nat.le_refl _) hn.bel,h.lo,h.la⟩,he,rfl,rfl,fun _=>rfl⟩
theorem zN1 {w0 w:World} {B n:Nat} {m:EMem} {s:ESt} (h:RunE w0 w B m s n):Calls Tryz.prog 35 #[.pointer (some ⟨m.eb,0,none⟩)] w fun e w'=>∃ ra rc,e=.returned (.slice ra (aS s.x.rows).length rc)/\(bY w' ra (aS s.x.rows)/\∀ b off,ra=some ⟨b,off,none⟩->¬allF m s.ses b)/\Below w.heap.size w w':=by
 refine(zBq w h.ek (by have:=h.fit.ok.few;omega)).mono ?_
 rintro e w' ⟨v,rfl,ho,hb⟩
 obtain⟨ra,rc,e1,hh⟩:=lV ho
 subst e1
 refine⟨ra,rc,rfl,⟨hh,fun b off e hin=>?_⟩,hb⟩
 obtain⟨i,hi⟩:=hin
 have h1:=h.ek.lt hi
 rcases aX ho with⟨e2,_⟩|⟨g,cap,e2,_⟩
 ·rw[e] at e2;cases e2
 ·have h2:=(World.ownsRow.lt ho g (by rw[e2];rfl)).1
  rw[e] at e2
  cases e2
  omega
theorem zOO {w w':World} {B:Nat} {T T':Nat->Prop} {ra:Option Addr} {l:Rws} (h:bY w ra l) (hn:∀ b off,ra=some ⟨b,off,none⟩->¬T b) (hs:aG w w' B T T'):bY w' ra l:=by
 rcases h with h|⟨b,off,e,hc⟩
 ·exact .inl h
 ·refine .inr ⟨b,off,e,fun i hi=>?_⟩
  obtain⟨q0,q1⟩:=hc i hi
  have hb:=(hs.far b (World.block_lt_of_cell? w _ q0) (hn b off e)).1
  exact⟨(World.cell?_of_block (a:=⟨b,_,none⟩) hb).trans q0,(World.cell?_of_block (a:=⟨b,_,none⟩) hb).trans q1⟩
theorem zPb {s:ESt} {n:Nat} (h:Fit s n) {i:Nat} (h0:(comE s i).1.2≠0):(comE s i).2.now=s.now/\(comE s i).2.x.rows=s.x.rows:=by
 unfold comE at h0 ⊢
 cases hv:s.ses i with
 | none=>exact⟨rfl,rfl⟩
 | some v=>
  rw[hv] at h0
  dsimp only at h0 ⊢
  split
  ·exact⟨rfl,rfl⟩
  ·rename_i q1
   rw[if_neg q1] at h0
   split
   ·exact⟨rfl,rfl⟩
   ·rename_i q2
    rw[if_neg q2] at h0
    split
    ·rename_i hne
     refine⟨rfl,?_⟩
     show(comR s.x v.chs).2.rows=s.x.rows
     obtain⟨n1,_⟩:=h.ok.g.never h.left v.chs
     rcases(h.ok.g.commit v.chs).2 with⟨a,_⟩|⟨_,_,c⟩|⟨a,b,_⟩
     ·exact absurd a hne
     ·rw[c]
     ·rw[n1,b] at a;cases a
    ·rename_i q3
     rw[if_neg q3] at h0
     exact absurd rfl h0
theorem zPc {p:PSt} {n:Nat} (h:Fit p.e n) {x:ActL} (hk:(x.kind.toList==kZ)=false):(plyP p x).e.now=p.e.now/\(plyP p x).e.x.rows=p.e.x.rows:=by
 unfold plyP isK
 dsimp only
 split
 ·split
  ·exact⟨rfl,rfl⟩
  ·exact⟨rfl,rfl⟩
 ·rw[if_neg (by rw[hk];decide)]
  split
  ·obtain⟨_,_,_,a,b,_⟩:=zGf p.e (sesX x)
   exact⟨b,by show(dS p.e (sesX x)).2.x.rows=_;rw[a]⟩
  ·split
   ·exact⟨rfl,rfl⟩
   ·split
    ·exact⟨rfl,h.ok.g.chk.2.1⟩
    ·split
     ·exact⟨rfl,rfl⟩
     ·exact⟨rfl,rfl⟩
theorem zON {s:ESt} {n:Nat} (h:Fit s n) {i:Nat} {v:VwL} (hv:s.ses i=some v) (hn:v.n=s.now):(comE s i).1.2≠9:=by
 have ho:=h.ok.ses i v hv
 have hcl:lC s.ds v.rds v.n=true:=by
  rw[zOl h.ok.rd]
  have:(s.ds.filter fun d=>decide ((v.n:Int)<d.n))=[]:=by
   rw[List.filter_eq_nil_iff]
   intro d hd
   have:=h.ok.dn d hd
   rw[hn]
   simp;omega
  rw[this]
  rfl
 unfold comE
 rw[hv]
 dsimp only
 split
 ·show(0:Nat)≠9;decide
 ·rw[if_neg (by rw[hcl];decide)]
  split
  ·rename_i hne
   show(comR s.x v.chs).1≠9
   rw[(h.ok.g.never h.left v.chs).1]
   unfold comF
   have hd:jW v.chs=0:=by
    unfold jW
    rw[if_neg (by have:=ho.ov.cn;omega)]
    have key:∀ l:List Chg,(∀ c∈l,aD c=0)->bS l=0:=by
     intro l
     induction l with
     | nil=>intro _;rfl
     | cons c l ih=>
      intro hl
      show(if aD c=0 then bS l else aD c)=0
      rw[if_pos (hl c (List.mem_cons_self ..))]
      exact ih fun x hx=>hl x (List.mem_cons_of_mem _ hx)
    exact key _ ho.oq.cf
   rw[if_neg (by rw[hd];decide)]
   split<;>decide
  ·show(0:Nat)≠9;decide
end
end Go.Proofs.YtnboipekkahmnaaGreatDoor
