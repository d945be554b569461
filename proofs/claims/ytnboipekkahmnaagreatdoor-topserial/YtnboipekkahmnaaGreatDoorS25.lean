import Derived.Test.YtnboipekkahmnaaGreatDoorS24
import Derived.Deep.SlicePairs
set_option maxHeartbeats 8000000
set_option maxRecDepth 100000
namespace Go.Proofs.YtnboipekkahmnaaGreatDoor
open Go.Proofs.Tryz renaming prog→p_
section
open Go.ChangeShapes Go.WideShapes Go.ChangeAt Go.RowKit Go.Joins Go.Deep
section
variable {H:Type} {enc:TypeId×Value->H} {w:World} {base:Nat} {held:Bool}
theorem dY {P:Program} {spare:Nat->Bool} {n i:Nat} {t:TypeId} {fs:Array Field} {cs:List Value} {xs:List (DataW H×List MemPlace)} (hxl:xs.length=fs.size)
  (hf:∀ (i:Nat) (f:Field),fs[i]?=some f->DataW.trod enc P w base spare held n f.type ((cs.drop f.offset).take (P.cellsOf f.type))=xs[i]?) {f:Field} (hi:fs[i]?=some f) (ho:f.offset=i) (hc:P.cellsOf f.type=1) (ht:f.type=t) (hl:i<cs.length):
  ∃ v y,cs[i]?=some v/\DataW.trod enc P w base spare held n t [v]=some y:=by
 have h:=hf i f hi;have hx:i<xs.length:=by rw[hxl];exact(Array.getElem?_eq_some_iff.1 hi).1
 rw[ho,hc,ht,List.getElem?_eq_getElem hx] at h;have e:(cs.drop i).take 1=[cs[i]]:=by
  rw[List.drop_eq_getElem_cons hl];rfl
 rw[e] at h;exact⟨_,_,List.getElem?_eq_getElem hl,h⟩
theorem zFG {a:Int} (h:(Lit.int .i64 a).wf=true):-9223372036854775808<=a/\a<=9223372036854775807:=by
 simpa[Lit.wf,IntKind.min,IntKind.signed,IntKind.bits] using h
theorem zH9 {v:Value} {fuel:Nat} {x:DataW H×List MemPlace} (h:DataW.trod enc p_ w base (fun _=>true) held fuel 36 [v]=some x):∃ (ao:Option Addr) (cap:Nat) (l:List Chg),v=.slice ao l.length cap/\bW w ao l:=by
 rcases open_slice Tryz.underlying36 h with⟨hcs,_⟩|⟨a,len,cap,m,n,D,Pl,hcs,_,hl,hm,hmm,_,hx⟩
 ·simp at hcs;subst hcs;exact⟨_,_,[],rfl,.inl rfl⟩
 ·simp at hcs;subst hcs;simp only[if_true] at hmm;by_cases h0:len=0
  ·subst h0;exact⟨_,_,[],rfl,.inl rfl⟩
  ·obtain⟨b,off,spot⟩:=a;have hc3:Tryz.prog.cellsOf 133=3:=by kernel_rfl
   have hspot:spot=none:=by
    obtain⟨cs,h1,_⟩:=hx 0 (by omega);rw[hc3] at h1;obtain⟨_,hlen,hcell⟩:=World.cells?_some h1;have e0:=(hcell 0 (by omega)).trans (List.getElem?_eq_getElem (by omega));simpa[Addr.add] using World.cell?_spot e0
   subst hspot;have each:∀ i,i<len->∃ c:Chg,w.cell? ⟨b,off+i*3,none⟩=some (.string c.key)/\w.cell? ⟨b,off+i*3+1,none⟩=some (.string c.val)/\w.cell? ⟨b,off+i*3+2,none⟩=some (.bool c.gone):=by
    intro i hi;obtain⟨cs,h1,h2⟩:=hx i (by omega);rw[hc3] at h1;obtain⟨_,hlen,hcell⟩:=World.cells?_some h1;obtain⟨xs,k,hk,hxy,_,hxl,hf⟩:=DataW.trod_struct Tryz.underlying133 h2;obtain⟨v0,y0,e0,g0⟩:=dY (i:=0) (t:=9) hxl hf rfl rfl (by kernel_rfl) rfl (by omega);obtain⟨v1,y1,e1,g1⟩:=dY (i:=1) (t:=9) hxl hf rfl rfl (by kernel_rfl) rfl (by omega);obtain⟨v2,y2,e2,g2⟩:=dY (i:=2) (t:=4) hxl hf rfl rfl (by kernel_rfl) rfl (by omega);obtain⟨s0,q0,_,_⟩:=DataW.trod_string Tryz.underlying9 g0;obtain⟨s1,q1,_,_⟩:=DataW.trod_string Tryz.underlying9 g1;obtain⟨b2,q2,_⟩:=DataW.trod_bool Tryz.underlying4 g2;simp at q0 q1 q2;subst q0 q1 q2;have c0:=(hcell 0 (by omega)).trans e0;have c1:=(hcell 1 (by omega)).trans e1;have c2:=(hcell 2 (by omega)).trans e2;rw[add_add,add_plain] at c0 c1 c2;exact⟨⟨s0,s1,b2⟩,by simpa using c0,by simpa[Nat.add_assoc] using c1,by simpa[Nat.add_assoc] using c2⟩
   haveI:Inhabited Chg:=⟨⟨ByteArray.empty,ByteArray.empty,false⟩⟩
   obtain⟨q,hq⟩:=choose_lt each;refine⟨_,cap,(List.range len).map q,by simp,.inr ⟨b,off,rfl,?_⟩⟩;intro i hi;have hi':i<len:=by simpa using hi
   simpa using hq i hi'
theorem zGZ {v:Value} {fuel:Nat} {x:DataW H×List MemPlace} (h:DataW.trod enc p_ w base (fun _=>true) held fuel 37 [v]=some x):
  ∃ (ao:Option Addr) (cap:Nat) (l:List (ByteArray×ByteArray)),v=.slice ao l.length cap/\bY w ao l/\l.length<=maxLen/\(ao=none->cap=0/\l=[]):=by
 rcases open_slice Tryz.underlying37 h with⟨hcs,_⟩|⟨a,len,cap,m,n,D,Pl,hcs,_,hl,hm,hmm,_,hx⟩
 ·simp at hcs;subst hcs;exact⟨_,_,[],rfl,.inl rfl,Nat.zero_le _,fun _=>⟨rfl,rfl⟩⟩
 ·simp at hcs;subst hcs;simp only[if_true] at hmm;by_cases h0:len=0
  ·subst h0;exact⟨_,_,[],rfl,.inl rfl,Nat.zero_le _,fun h=>by cases h⟩
  ·obtain⟨b,off,spot⟩:=a;have hc3:Tryz.prog.cellsOf 80=2:=by kernel_rfl
   have hspot:spot=none:=by
    obtain⟨cs,h1,_⟩:=hx 0 (by omega);rw[hc3] at h1;obtain⟨_,hlen,hcell⟩:=World.cells?_some h1;have e0:=(hcell 0 (by omega)).trans (List.getElem?_eq_getElem (by omega));simpa[Addr.add] using World.cell?_spot e0
   subst hspot;have each:∀ i,i<len->∃ c:ByteArray×ByteArray,w.cell? ⟨b,off+i*2,none⟩=some (.string c.1)/\w.cell? ⟨b,off+i*2+1,none⟩=some (.string c.2):=by
    intro i hi;obtain⟨cs,h1,h2⟩:=hx i (by omega);rw[hc3] at h1;obtain⟨_,hlen,hcell⟩:=World.cells?_some h1;obtain⟨xs,k,hk,hxy,_,hxl,hf⟩:=DataW.trod_struct Tryz.underlying80 h2;obtain⟨v0,y0,e0,g0⟩:=dY (i:=0) (t:=9) hxl hf rfl rfl (by kernel_rfl) rfl (by omega);obtain⟨v1,y1,e1,g1⟩:=dY (i:=1) (t:=9) hxl hf rfl rfl (by kernel_rfl) rfl (by omega);obtain⟨s0,q0,_,_⟩:=DataW.trod_string Tryz.underlying9 g0;obtain⟨s1,q1,_,_⟩:=DataW.trod_string Tryz.underlying9 g1;simp at q0 q1;subst q0 q1;have c0:=(hcell 0 (by omega)).trans e0;have c1:=(hcell 1 (by omega)).trans e1;rw[add_add,add_plain] at c0 c1;exact⟨(s0,s1),by simpa using c0,by simpa[Nat.add_assoc] using c1⟩
   haveI:Inhabited (ByteArray×ByteArray):=⟨(ByteArray.empty,ByteArray.empty)⟩
   obtain⟨q,hq⟩:=choose_lt each;refine⟨_,cap,(List.range len).map q,by simp,.inr ⟨b,off,rfl,?_⟩,by simp;omega,fun h=>by cases h⟩;intro i hi;have hi':i<len:=by simpa using hi
   simpa using hq i hi'
theorem zH6 {v:Value} {fuel:Nat} {x:DataW H×List MemPlace} (h:DataW.trod enc p_ w base (fun _=>true) held fuel 22 [v]=some x):
  ∃ (ao:Option Addr) (cap:Nat) (l:List ActL),v=.slice ao l.length cap/\iM w ao l:=by
 rcases open_slice Tryz.underlying22 h with⟨hcs,_⟩|⟨a,len,cap,m,n,D,Pl,hcs,_,hl,hm,hmm,_,hx⟩
 ·simp at hcs;subst hcs;exact⟨_,_,[],rfl,.inl rfl⟩
 ·simp at hcs;subst hcs;simp only[if_true] at hmm;by_cases h0:len=0
  ·subst h0;exact⟨_,_,[],rfl,.inl rfl⟩
  ·obtain⟨b,off,spot⟩:=a;have hc9:Tryz.prog.cellsOf 39=9:=by kernel_rfl
   have hspot:spot=none:=by
    obtain⟨cs,h1,_⟩:=hx 0 (by omega);rw[hc9] at h1;obtain⟨_,hlen,hcell⟩:=World.cells?_some h1;have e0:=(hcell 0 (by omega)).trans (List.getElem?_eq_getElem (by omega));simpa[Addr.add] using World.cell?_spot e0
   subst hspot;have each:∀ i,i<len->∃ c:ActL,vI w b (off+i*9) c:=by
    intro i hi;obtain⟨cs,h1,h2⟩:=hx i (by omega);rw[hc9] at h1;obtain⟨_,hlen,hcell⟩:=World.cells?_some h1;obtain⟨xs,k,hk,hxy,_,hxl,hf⟩:=DataW.trod_struct Tryz.underlying39 h2;obtain⟨v0,y0,e0,g0⟩:=dY (i:=0) (t:=9) hxl hf rfl rfl (by kernel_rfl) rfl (by omega);obtain⟨v1,y1,e1,g1⟩:=dY (i:=1) (t:=3) hxl hf rfl rfl (by kernel_rfl) rfl (by omega);obtain⟨v2,y2,e2,g2⟩:=dY (i:=2) (t:=3) hxl hf rfl rfl (by kernel_rfl) rfl (by omega);obtain⟨v3,y3,e3,g3⟩:=dY (i:=3) (t:=3) hxl hf rfl rfl (by kernel_rfl) rfl (by omega);obtain⟨v4,y4,e4,g4⟩:=dY (i:=4) (t:=35) hxl hf rfl rfl (by kernel_rfl) rfl (by omega);obtain⟨v5,y5,e5,g5⟩:=dY (i:=5) (t:=9) hxl hf rfl rfl (by kernel_rfl) rfl (by omega);obtain⟨v6,y6,e6,g6⟩:=dY (i:=6) (t:=9) hxl hf rfl rfl (by kernel_rfl) rfl (by omega);obtain⟨v7,y7,e7,g7⟩:=dY (i:=7) (t:=36) hxl hf rfl rfl (by kernel_rfl) rfl (by omega);obtain⟨v8,y8,e8,g8⟩:=dY (i:=8) (t:=37) hxl hf rfl rfl (by kernel_rfl) rfl (by omega);obtain⟨s0,q0,_,_⟩:=DataW.trod_string Tryz.underlying9 g0;obtain⟨s1,q1,_,w1⟩:=DataW.trod_int Tryz.underlying3 g1;obtain⟨s2,q2,_,_⟩:=DataW.trod_int Tryz.underlying3 g2;obtain⟨s3,q3,_,_⟩:=DataW.trod_int Tryz.underlying3 g3;obtain⟨s4,q4,_,_⟩:=DataW.trod_int Tryz.underlying35 g4;obtain⟨s5,q5,_,_⟩:=DataW.trod_string Tryz.underlying9 g5;obtain⟨s6,q6,_,_⟩:=DataW.trod_string Tryz.underlying9 g6;obtain⟨ca,cc,chs,q7,h7⟩:=zH9 g7;obtain⟨sa,sc,sps,q8,h8,n8,_⟩:=zGZ g8;simp at q0 q1 q2 q3 q4 q5 q6;subst q0 q1 q2 q3 q4 q5 q6 q7 q8;have c0:=(hcell 0 (by omega)).trans e0;have c1:=(hcell 1 (by omega)).trans e1;have c2:=(hcell 2 (by omega)).trans e2;have c3:=(hcell 3 (by omega)).trans e3;have c4:=(hcell 4 (by omega)).trans e4;have c5:=(hcell 5 (by omega)).trans e5;have c6:=(hcell 6 (by omega)).trans e6;have c7:=(hcell 7 (by omega)).trans e7;have c8:=(hcell 8 (by omega)).trans e8;rw[add_add,add_plain,<-Nat.add_assoc] at c0 c1 c2 c3 c4 c5 c6 c7 c8;exact⟨⟨s0,s1,s2,s3,s4,s5,s6,ca,cc,chs,sa,sc,sps⟩,⟨c0,c1,c2,c3,c4,c5,c6,c7,c8,h7,h8,n8,zFG w1⟩⟩
   haveI:Inhabited ActL:=⟨⟨ByteArray.empty,0,0,0,0,ByteArray.empty,ByteArray.empty,none,0,[],none,0,[]⟩⟩
   obtain⟨q,hq⟩:=choose_lt each;refine⟨_,cap,(List.range len).map q,by simp,.inr ⟨b,off,rfl,?_⟩⟩;intro i hi;have hi':i<len:=by simpa using hi
   simpa using hq i hi'
end
theorem zCl {H:Type} {enc:TypeId×Value->H} {W:World} {base:Nat} {v:Value} {d:DataW H} {p:List MemPlace}
  (hv:Value.okWide p_ W .any base 22 v) (h:DataW.Trod enc p_ W 0 (fun _=>true) true 22 v d p):∃ (ao:Option Addr) (cap:Nat) (l:List ActL),v=.slice ao l.length cap/\iM W ao l/\l.length<=cap:=by
 obtain⟨a0,len,cap,rfl⟩:=okWide_slice Tryz.underlying22 hv;obtain⟨fuel,hf⟩:=h;have hf':DataW.trod enc p_ W 0 (fun _=>true) true fuel 22 [.slice a0 len cap]=some (d,p):=by simpa[Value.cells] using hf
 have hc:len<=cap:=by
  rcases open_slice Tryz.underlying22 hf' with⟨e,_⟩|⟨a,l,c,m,n,D,Pl,e,_,hl,_⟩
  ·simp at e;omega
  ·simp at e;omega
 obtain⟨ao,c,l,e,hl⟩:=zH6 hf';have e':=e;simp at e';exact⟨ao,c,l,e,hl,by omega⟩
end
end Go.Proofs.YtnboipekkahmnaaGreatDoor
