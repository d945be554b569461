import Derived.Test.YtcfjimdfegejaaaGreatDoorQ00
import Derived.Test.YtcfjimdfegejaaaGreatDoorQ01
import Derived.Test.YtcfjimdfegejaaaGreatDoorQ02
set_option maxHeartbeats 8000000
set_option maxRecDepth 100000
namespace Go.Proofs.YtcfjimdfegejaaaGreatDoor
open Bool renaming and_eq_true→E1,eq_false_iff→O2,not_eq_eq_eq_not→Z6,not_false→M7,not_true→A8
open _root_.ByteArray renaming data_append→L1,data_extract→N7
open Int renaming tmod_eq_emod_of_nonneg→I9,toNat_natCast→Z1
open IntKind renaming bits→V3,i64→G0,wrap→U3
open Lib renaming decDigits→L0,decFrom→T8,hasPrefix→Y4,indexByte→O5,maxS→T3,pow10Tab→C3,size_eq→R0,trimPrefix→Z3
open List renaming drop_append→Q6,drop_succ_cons→A4,foldl→Q4,getElem?_cons_succ→V6,length_append→YY,length_cons→PZ,length_nil→F3,mem_cons→L2,not_mem_nil→X0,replicate→WY,replicate_succ→J7,take→A5,take_of_length_le→LZ
open Nat renaming lt_of_lt_of_le→UY,zero_add→TZ,zero_le→OZ
open Op renaming bytesLess→J1
open Go.Proofs.Tryz renaming prog→XZ
open Go.Proofs.Tryz
open Go.RowKit.Below renaming refl→r_
open Nat renaming le_refl→n_
open Go.Proofs.Tryz renaming prog→p_
open Value renaming int→i_
open IntKind renaming i64→k_
open Go.Joins renaming below_alloc1→a_
variable {w w':World} {n:Nat} {q:ByteArray}
section
open Go.RowKit Go.Joins
theorem JR (c:UInt8):mL c=true↔97<=(c.toNat:Int)/\(c.toNat:Int)<=122:=by
 simp only[mL,E1,decide_eq_true_eq];omega
theorem KT (c:UInt8):eZ c=true↔48<=(c.toNat:Int)/\(c.toNat:Int)<=57:=by
 simp only[eZ,E1,decide_eq_true_eq];omega
theorem zGl {s:ByteArray} (h1:0<s.size) (h:mL s[0]=false):bK s.data.toList=false:=by
 rw[bK,fR,uD (k:=1) (by omega) (by rw[rG,vR s 0 h1];simp[gR,h]),Bool.and_false]
theorem rC (s:ByteArray) (w:World):
  Calls p_ 123 #[.string s] w fun e w'=>e=.returned (.bool (bK s.data.toList))/\w'=w:=by
 by_cases h1:1<=s.size
 ·have hz:0<s.size:=h1;by_cases h6:s.size<=6
  ·cases hc:mL s[0] with
   | false=>
    have hN:=zGl hz hc;have hL:=mt (JR s[0]).2 (by rw[hc];simp);rw[hN];clear hN hc;go_enter func123,ntmps123;go_wp2
    all_goals first
     | (go_ret;exact⟨rfl,rfl⟩)
     | (exfalso;omega)
   | true=>
    obtain⟨l1,l2⟩:=(JR s[0]).1 hc;go_enter func123,ntmps123;go_wp2
    go_loop [3] (fun i=>∃ k:Nat,k<=s.size/\i=.int .i64 k/\jJ s.data.toList k=true) (fun i=>s.size-(intOf i).toNat)
    case atStart=>exact⟨0,OZ _,rfl,rfl⟩
    case round=>
     obtain⟨k,hk,rfl,hd⟩:=hrel;have HD:=aa hd;clear hd;by_cases Aa:k<s.size
     ·have HS:=aa (rG s.data.toList k);have HB:=aa (vR s k Aa);have HC:=aa hc;have HY:Hid (mL s[k]=true∨eZ s[k]=true->jJ s.data.toList (k+1)=true):=fun h=>by
       rw[HS.out,HD.out,HB.out];rcases h with h|h
       ·simp[gR,h]
       ·by_cases k0:k=0
        ·subst k0;simp[gR,HC.out]
        ·simp[gR,h,k0]
      have HN:Hid (mL s[k]=false->eZ s[k]=false->bK s.data.toList=false):=fun h h'=>by
       rw[bK,fR,uD (k:=k+1) (by omega) (by rw[HS.out,HB.out];simp[gR,h,h']),Bool.and_false]
      have HL:=aa (JR s[k]);have HG:=aa (KT s[k]);clear hc;have Jd:(s[k].toNat:Int)<48∨(48<=(s[k].toNat:Int)/\(s[k].toNat:Int)<=57)∨(58<=(s[k].toNat:Int)/\(s[k].toNat:Int)<97)∨(97<=(s[k].toNat:Int)/\(s[k].toNat:Int)<=122)∨123<=(s[k].toNat:Int):=by omega
      rcases Jd with b|⟨b,b'⟩|⟨b,b'⟩|⟨b,b'⟩|b
      ·replace HN:=aa (HN.out (O2.2 fun h=>by have:=HL.out.1 h;omega) (O2.2 fun h=>by have:=HG.out.1 h;omega));go_wp2
       all_goals first
        | (exfalso;simp only[Z6,M7,A8,decide_eq_true_eq,decide_eq_false_iff_not] at *;omega)
        | (go_ret;exact⟨bB HN.out.symm,rfl⟩)
      ·replace HY:=aa (HY.out (.inr (HG.out.2 ⟨b,b'⟩)));go_wp2
       all_goals
        go_round
        case rel=>exact⟨k+1,by omega,by go_num,HY.out⟩
        case measure=>simp[intOf];omega
      ·replace HN:=aa (HN.out (O2.2 fun h=>by have:=HL.out.1 h;omega) (O2.2 fun h=>by have:=HG.out.1 h;omega));go_wp2
       all_goals first
        | (exfalso;simp only[Z6,M7,A8,decide_eq_true_eq,decide_eq_false_iff_not] at *;omega)
        | (go_ret;exact⟨bB HN.out.symm,rfl⟩)
      ·replace HY:=aa (HY.out (.inl (HL.out.2 ⟨b,b'⟩)));go_wp2
       all_goals
        go_round
        case rel=>exact⟨k+1,by omega,by go_num,HY.out⟩
        case measure=>simp[intOf];omega
      ·replace HN:=aa (HN.out (O2.2 fun h=>by have:=HL.out.1 h;omega) (O2.2 fun h=>by have:=HG.out.1 h;omega));go_wp2
       all_goals first
        | (exfalso;simp only[Z6,M7,A8,decide_eq_true_eq,decide_eq_false_iff_not] at *;omega)
        | (go_ret;exact⟨bB HN.out.symm,rfl⟩)
     ·go_wp2;go_ret;refine⟨bB ?_,rfl⟩;have e:k=s.size:=by omega
      have:=HD.out;rw[e] at this;rw[bK,fR,this];simp[h1,h6]
  ·go_enter func123,ntmps123;go_wp2;go_ret;exact⟨bB (by simp[bK,h6]),rfl⟩
 ·go_enter func123,ntmps123;go_wp2;go_ret;exact⟨bB (by simp[bK];omega),rfl⟩
def dH (k:List UInt8):Nat:=if Fc k then 0 else 3
theorem zNQ (l:List UInt8) (n k:Nat):qN (l.drop n) k=(List.range k).all fun i=>eZ (l.getD (n+i) 0):=by
 unfold qN;congr 1;funext i;simp[List.getD_eq_getElem?_getD]
theorem qZ (s:BA) (w:World) (hs:s.size<=1000):
  Calls p_ 121 #[.string s] w fun e w'=>e=.returned (.string (Hc s))/\w'=w:=by
 go_enter func121,ntmps121;go_wp2;go_ret;exact⟨rfl,rfl⟩
theorem pM (s:BA) (w:World) (hs:s.size<=1000):
  Calls p_ 135 #[.string s] w fun e w'=>e=.returned (.agg #[.string (aZ s),.string (Jb s)])/\Below w.heap.size w w':=by
 go_enter func135,ntmps135;go_wp2;exact bodyPost_ret (v:=.agg #[.string (⟨#[109,47]⟩++s++⟨#[47]⟩),.string (⟨#[109,47]⟩++s++⟨#[48]⟩)]) (by simp[results,results135,go_sem]) rfl ⟨rfl,a_ _ _⟩
def cP (n:Int):Nat:=(max n 0).toNat % 1000000
theorem zD9 (w:World) (k:Nat) (os:Array Obj):Below w.heap.size w (Go.Sort.grow (w.drewN k) os):=by
 refine⟨rfl,rfl,rfl,?_,fun i hi=>?_⟩
 ·show w.heap.size<=(w.heap++os).size;simp
 ·show(w.heap++os)[i]?=w.heap[i]?;rw[Array.getElem?_append_left hi]
theorem xU (n:Nat) (w:World) (hn:n<=999999999) (htab:Lib.TabIs p_ w "internal/strconv.uint64pow10" .u64 C3):
  Calls p_ 186 #[.int .i64 n] w fun e w'=>e=.returned (.string (Va n))/\Below w.heap.size w w':=
 (Tryz.strconv_Itoa n (by omega) (by omega) w htab).mono fun e w' ⟨he,k,os,hw⟩=>⟨by rw[he,Lib.itoa_nonneg];rfl,by rw[hw];exact zD9 w k os⟩
theorem zGb (c:Nat):Lib.repeatL [48] c=WY c 48:=by
 induction c with
 | zero=>rfl
 | succ c ih=>simp[Lib.repeatL,ih,J7]
theorem zGq (c:Nat) (w:World) (hc:c<=1000):
  Calls p_ 187 #[.string ⟨#[48]⟩,.int .i64 c] w fun e w'=>e=.returned (.string ⟨(WY c (48:UInt8)).toArray⟩)/\Below w.heap.size w w':=
 (Tryz.strings_Repeat ⟨#[48]⟩ c w (by omega) (by have:(⟨#[48]⟩:BA).size=1:=rfl;rw[this];omega)).mono fun e w' ⟨he,hb⟩=>⟨by
  rw[he];exact congrArg (fun l:List UInt8=>Ending.returned (.string ⟨l.toArray⟩)) (zGb c),hb⟩
theorem iE (q:BA) (n:Int) (w:World) (hq:q.size<=1000) (h0:-9223372036854775808<=n) (h1:n<=9223372036854775807)
  (htab:Lib.TabIs p_ w "internal/strconv.uint64pow10" .u64 C3):
  Calls p_ 115 #[.string q,.int .i64 n] w fun e w'=>e=.returned (.string (Ta q (cP n)))/\Below w.heap.size w w':=by
 have Pr:cP n<=999999:=by unfold cP;omega
 have hlen:=zL9 (cP n) Pr;have Mb:(Va (cP n)).size=(L0 (cP n)).length:=by rw[R0,eM]
 have ZD:=CJ (cP n) Pr;have fe:(Va (cP n)).size<=6:=by omega
 have HE:=aa (show max n 0 % 1000000=((cP n:Nat):Int) by unfold cP;omega);have HF:=aa (show(6:Int)-((Va (cP n)).size:Int)=((6-(Va (cP n)).size:Nat):Int) by omega);have HV:=aa (show aZ q++⟨(WY (6-(Va (cP n)).size) (48:UInt8)).toArray⟩++Va (cP n)=Ta q (cP n) by
  refine kG ?_;rw[mN,<-ZD,Mb];simp[L1,rI,eM])
 have HT:=aa htab;clear htab Mb ZD hlen;have a0N:(⟨(WY (6-(Va (cP n)).size) (48:UInt8)).toArray⟩:BA).size<=6:=by rw[R0];simp
 have HR:=fun w=>aa (zGq (6-(Va (cP n)).size) w (by omega));generalize hz:(⟨(WY (6-(Va (cP n)).size) (48:UInt8)).toArray⟩:BA)=z at *;clear hz;go_enter func115,ntmps115;go_wp2_with fail;rw[HE.out];refine(xU _ _ (by omega) HT.out).mono ?_;rintro e w1 ⟨rfl,Ba⟩;go_wp2_with fail;rw[HF.out];refine((HR _).out).mono ?_;rintro e w2 ⟨rfl,za⟩;go_wp2;go_ret;exact⟨zFN HV.out,aB Ba (n_ _) za⟩
theorem zBT:XZ.globalNamed "internal/strconv.uint64pow10" = some 3:=by kernel_rfl
theorem rQ (h:Lib.TabIs p_ w "internal/strconv.uint64pow10" .u64 C3) (hb:Below w.heap.size w w'):Lib.TabIs p_ w' "internal/strconv.uint64pow10" .u64 C3:=
 tab_stays zBT h hb (n_ _)
theorem mM (n lo hi:Int) (w:World) (h1:lo<=n) (h2:n<=hi):
  Calls p_ 226 #[.int .i64 n,.int .i64 lo,.int .i64 hi] w fun e w'=>e=.returned (.bool true)/\w'=w:=by
 go_enter func226,ntmps226;go_wp2;go_ret;exact⟨rfl,rfl⟩
theorem zBf (n lo hi:Int) (w:World) (h:n<lo∨hi<n):
  Calls p_ 226 #[.int .i64 n,.int .i64 lo,.int .i64 hi] w fun e w'=>e=.returned (.bool false)/\w'=w:=by
 by_cases h1:n<lo
 ·go_enter func226,ntmps226;go_wp2;go_ret;exact⟨rfl,rfl⟩
 ·have h2:hi<n:=by omega
  have h3:lo<=n:=by omega
  go_enter func226,ntmps226;go_wp2;go_ret;exact⟨bB (by simp[h2]),rfl⟩
theorem zDG (a b:Nat) (r:BA) (w:World) (ha:a<=9999999) (hb:b<=9999999) (hr:r.size<=1000) (htab:Lib.TabIs p_ w "internal/strconv.uint64pow10" .u64 C3):
  Calls p_ 227 #[.int .i64 a,.int .i64 b,.string r] w fun e w'=>e=.returned (.string (dA a b r))/\Below w.heap.size w w':=by
 have ea:(Va a).size<=7:=by rw[R0,eM];exact eQ a ha
 have eb:(Va b).size<=7:=by rw[R0,eM];exact eQ b hb
 have HT:=aa htab;clear htab;go_enter func227,ntmps227;go_wp2_with fail;refine(xU a _ (by omega) HT.out).mono ?_;rintro e w1 ⟨rfl,Ba⟩;go_wp2_with fail;refine(xU b _ (by omega) (rQ HT.out Ba)).mono ?_;rintro e w2 ⟨rfl,za⟩;go_wp2;go_ret;exact⟨rfl,aB Ba (n_ _) za⟩
theorem kH (n t:Nat) (d:BA) (w:World) (hn:n<=999999) (ht:1<=t) (Cs:t<=9) (hd:d.toList.isEmpty=true∨(d.toList.isEmpty=false/\bK d.data.toList=true)) (hs:d.size<=1000) (htab:Lib.TabIs p_ w "internal/strconv.uint64pow10" .u64 C3):
  Calls p_ 179 #[.agg #[.int .i64 n,.int .i64 t,.string d]] w fun e w'=>e=.returned (.tuple #[.string (dA n t d),.nilIface])/\Below w.heap.size w w':=by
 have hB:=a_ w (CX n t d);have HT:=aa (rQ htab hB);clear htab;rcases hd with hd|⟨hd,VH⟩
 all_goals
  go_enter func179,ntmps179;go_wp2_with (first
   | (go_at_call 226;refine(mM _ _ _ _ ?_ ?_).mono ?_;omega;omega;rintro e w1 ⟨rfl,rfl⟩)
   | (go_at_call 120;refine(kM _ _).mono ?_;rintro e w1 ⟨rfl,rfl⟩)
   | (go_at_call 227;refine(zDG _ _ _ _ (by omega) (by omega) (by omega) HT.out).mono ?_;rintro e w1 ⟨rfl,hb⟩;replace hB:=aB hB (n_ _) hb;clear hb))
  go_ret2;exact⟨rfl,hB⟩
theorem qA (n t:Int) (d:BA) (w:World) (h:(n<0∨999999<n)∨(0<=n/\n<=999999/\(t<1∨9<t))):
  Calls p_ 179 #[.agg #[.int .i64 n,.int .i64 t,.string d]] w fun e w'=>e=.returned (.tuple #[.string ⟨#[]⟩,.iface 77 (.int .i64 1)])/\Below w.heap.size w w':=by
 have hB:=a_ w (CX n t d);rcases h with h|⟨h,h',h''⟩
 all_goals
  go_enter func179,ntmps179;go_wp2_with (first
   | (go_at_call 226;refine(mM _ _ _ _ ?_ ?_).mono ?_;omega;omega;rintro e w1 ⟨rfl,rfl⟩)
   | (go_at_call 226;refine(zBf _ _ _ _ ?_).mono ?_;omega;rintro e w1 ⟨rfl,rfl⟩))
  go_ret2;exact⟨rfl,hB⟩
theorem qO (n t:Int) (d:BA) (w:World) (hn:0<=n) (yl:n<=999999) (ht:1<=t) (Cs:t<=9) (hd:d.toList.isEmpty=false) (VH:bK d.data.toList=false):
  Calls p_ 179 #[.agg #[.int .i64 n,.int .i64 t,.string d]] w fun e w'=>e=.returned (.tuple #[.string ⟨#[]⟩,.iface 77 (.int .i64 3)])/\Below w.heap.size w w':=by
 have hB:=a_ w (CX n t d)
 all_goals
  go_enter func179,ntmps179;go_wp2_with (first
   | (go_at_call 226;refine(mM _ _ _ _ ?_ ?_).mono ?_;omega;omega;rintro e w1 ⟨rfl,rfl⟩)
   | (go_at_call 120;refine(kM _ _).mono ?_;rintro e w1 ⟨rfl,rfl⟩))
  go_ret2;exact⟨rfl,hB⟩
theorem nE (k:Int) (t u:Nat) (d:BA) (w:World) (ht:t<=9) (hu:u<=2000000) (hs:d.size<=28) (htab:Lib.TabIs p_ w "internal/strconv.uint64pow10" .u64 C3):
  Calls p_ 189 #[.agg #[.int .i64 k,.int .i64 t,.int .i64 u,.string d]] w fun e w'=>e=.returned (.tuple #[.string (dA t u d),.nilIface])/\Below w.heap.size w w':=by
 have hB:=a_ w (EX k t u d);have HT:=aa (rQ htab hB);clear htab
 all_goals
  go_enter func189,ntmps189;go_wp2_with (first
   | (go_at_call 226;refine(mM _ _ _ _ ?_ ?_).mono ?_;omega;omega;rintro e w1 ⟨rfl,rfl⟩)
   | (go_at_call 227;refine(zDG _ _ _ _ (by omega) (by omega) (by omega) HT.out).mono ?_;rintro e w1 ⟨rfl,hb⟩;replace hB:=aB hB (n_ _) hb;clear hb))
  go_ret2;exact⟨rfl,hB⟩
theorem oL (k t u:Int) (d:BA) (w:World) (h:(t<0∨9<t)∨(0<=t/\t<=9/\((u<0∨2000000<u)∨(0<=u/\u<=2000000/\28<d.size)))):
  Calls p_ 189 #[.agg #[.int .i64 k,.int .i64 t,.int .i64 u,.string d]] w fun e w'=>e=.returned (.tuple #[.string ⟨#[]⟩,.iface 77 (.int .i64 1)])/\Below w.heap.size w w':=by
 have hB:=a_ w (EX k t u d);rcases h with h|⟨h,h',h''|⟨h2,h3,h4⟩⟩
 all_goals
  go_enter func189,ntmps189;go_wp2_with (first
   | (go_at_call 226;refine(mM _ _ _ _ ?_ ?_).mono ?_;omega;omega;rintro e w1 ⟨rfl,rfl⟩)
   | (go_at_call 226;refine(zBf _ _ _ _ ?_).mono ?_;omega;rintro e w1 ⟨rfl,rfl⟩))
  go_ret2;exact⟨rfl,hB⟩
theorem zDs (s f b g r:BA) (c1 c2:Bool) (x y:Int) (w:World) (hs:s.size<=maxLen) (hb:b.size<=maxLen)
  (h1:fh s (O5 s.data.toList 32)=.tuple #[.string f,.string b,.bool c1]) (h2:fh b (O5 b.data.toList 32)=.tuple #[.string g,.string r,.bool c2])
  (hx:∀ w',Below w.heap.size w w'->Calls p_ 200 #[.string f] w' fun e Ch=>(∃ ev,e=.returned (.tuple #[.int .i64 x,ev]))/\Below w'.heap.size w' Ch)
  (hy:∀ w',Below w.heap.size w w'->Calls p_ 200 #[.string g] w' fun e Ch=>(∃ ev,e=.returned (.tuple #[.int .i64 y,ev]))/\Below w'.heap.size w' Ch):
  Calls p_ 193 #[.string s] w fun e w'=>e=.returned (.tuple #[.int .i64 x,.int .i64 y,.string r])/\Below w.heap.size w w':=by
 have k1:=fun w=>VR s 32 w hs;have k2:=fun w=>VR b 32 w hb;rw[h1] at k1;rw[h2] at k2;have K1:=aa k1;have K2:=aa k2;have HX:=aa hx;have HY:=aa hy;have hB:=r_ w.heap.size w;clear k1 k2 hx hy h1 h2;go_enter func193,ntmps193;go_wp2_with fail;refine(K1.out _).mono ?_;rintro e w1 ⟨rfl,Ba⟩;replace hB:=aB hB (n_ _) Ba;go_wp2_with fail;refine(K2.out _).mono ?_;rintro e w2 ⟨rfl,za⟩;replace hB:=aB hB (n_ _) za;go_wp2_with fail;refine(HX.out _ hB).mono ?_;rintro e w3 ⟨⟨ev,rfl⟩,Ra⟩;replace hB:=aB hB (n_ _) Ra;go_wp2_with fail;refine(HY.out _ hB).mono ?_;rintro e w4 ⟨⟨ev',rfl⟩,Eb⟩;replace hB:=aB hB (n_ _) Eb;go_wp2;go_ret3;exact⟨rfl,hB⟩
def mP (b:Nat) (r:BA):BA:=Va b++⟨#[32]⟩++r
theorem rJ (b:Nat) (r:BA):(mP b r).data.toList=L0 b++32::r.data.toList:=by simp[mP,L1,eM]
theorem zKT (a b:Nat) (r:BA):fh (dA a b r) (O5 (dA a b r).data.toList 32)=.tuple #[.string (Va a),.string (mP b r),.bool true]:=by
 rw[zEr,fh,if_pos (by omega),Z1];have e1:qE (dA a b r) (Va a).size=Va a:=kG (by rw[oT,vQ,R0,eM];simp);have e2:qD (dA a b r) ((Va a).size+1)=mP b r:=kG (by rw[oM,vQ,rJ,R0,eM,Q6];simp);rw[e1,e2]
theorem zJH (b:Nat) (r:BA):fh (mP b r) (O5 (mP b r).data.toList 32)=.tuple #[.string (Va b),.string r,.bool true]:=by
 have i:O5 (mP b r).data.toList 32=(Va b).size:=by
  rw[rJ,zDE (fun c hc=>rM (DG b c hc) 32 (by decide)),R0,eM]
 rw[i,fh,if_pos (by omega),Z1];have e1:qE (mP b r) (Va b).size=Va b:=kG (by rw[oT,rJ,R0,eM];simp);have e2:qD (mP b r) ((Va b).size+1)=r:=kG (by rw[oM,rJ,R0,eM,Q6];simp);rw[e1,e2]
theorem zIl (a b:Nat) (r:BA) (ha:a<=9999999) (hb:b<=9999999):(dA a b r).size<=r.size+16/\(mP b r).size<=r.size+8:=by
 have ea:=eQ a ha;have eb:=eQ b hb;rw[R0,R0,R0,vQ,rJ];simp only[YY,PZ];omega
def NJ (w:World) (name:String):Prop:=∃ tp p,w.var? p_ name=some #[.iface tp p]
structure Yd (w:World):Prop where
 tab:Lib.TabIs p_ w "internal/strconv.uint64pow10" .u64 C3
 syn:NJ w "strconv.ErrSyntax"
 rng:NJ w "strconv.ErrRange"
theorem zBP:XZ.globalNamed "strconv.ErrSyntax" = some 1:=by kernel_rfl
theorem zAY:XZ.globalNamed "strconv.ErrRange" = some 2:=by kernel_rfl
theorem iL (h:Yd w) (hb:Below w.heap.size w w'):Yd w':=by
 obtain⟨t,⟨a,b,hs⟩,⟨c,d,hr⟩⟩:=h;exact⟨rQ t hb,⟨a,b,var_stays zBP hs hb (n_ _)⟩,⟨c,d,var_stays zAY hr hb (n_ _)⟩⟩
theorem yD (s:BA) (hs:s.size<=1000):∃ x:Int,∀ w,Yd w->
  Calls p_ 200 #[.string s] w fun e w'=>(∃ ev,e=.returned (.tuple #[.int .i64 x,ev]))/\Below w.heap.size w w':=by
 cases h:Lib.atoiAll s.data.toList with
 | ok v=>
  refine⟨v,fun w _=>(Tryz.strconv_Atoi_ok s (by omega) v h w).mono ?_⟩;rintro e w' ⟨he,hw⟩;refine⟨⟨_,he⟩,?_⟩;rcases hw with rfl|⟨t,rfl⟩
  ·exact r_ _ _
  ·exact below_bytesWorld _ w 5 t (n_ _)
 | «syntax»=>
  refine⟨0,fun w hL=>?_⟩;obtain⟨tp,p,hv⟩:=hL.syn;refine(Tryz.strconv_Atoi_syntax_var s (by omega) h tp p w hv).mono ?_;rintro e w' ⟨N,he,_,_,hb⟩;exact⟨⟨_,he⟩,hb⟩
 | range=>
  refine⟨Lib.atoiSat s.data.toList,fun w hL=>?_⟩;obtain⟨tp,p,hv⟩:=hL.rng;refine(Tryz.strconv_Atoi_range_var s (by omega) h tp p w hv).mono ?_;rintro e w' ⟨N,he,_,_,hb⟩;exact⟨⟨_,he⟩,hb⟩
theorem wP (s:BA) (hs:s.size<=1000):∃ (x y:Int) (r:BA),r.size<=1000/\∀ w,Yd w->
  Calls p_ 193 #[.string s] w fun e w'=>e=.returned (.tuple #[.int .i64 x,.int .i64 y,.string r])/\Below w.heap.size w w':=by
 have cut:∀ z:BA,z.size<=1000->∃ (f b:BA) (c:Bool),f.size<=1000/\b.size<=1000/\fh z (O5 z.data.toList 32)=.tuple #[.string f,.string b,.bool c]:=by
  intro z hz;unfold fh;split
  ·refine⟨_,_,_,?_,?_,rfl⟩
   ·rw[R0,oT,List.length_take];have:=fR z;omega
   ·rw[R0,oM,List.length_drop];have:=fR z;omega
  ·exact⟨_,_,_,hz,OZ _,rfl⟩
 obtain⟨f,b,c1,hf,hb,h1⟩:=cut s hs;obtain⟨g,r,c2,hg,hr,h2⟩:=cut b hb;obtain⟨x,hx⟩:=yD f hf;obtain⟨y,hy⟩:=yD g hg;exact⟨x,y,r,hr,fun w hL=>zDs s f b g r c1 c2 x y w (by unfold maxLen;omega) (by unfold maxLen;omega) h1 h2 (fun w' Sd=>hx w' (iL hL Sd)) (fun w' Sd=>hy w' (iL hL Sd))⟩
theorem zDF (n:Nat) (w:World) (hn:n<=9999999):
  Calls p_ 200 #[.string (Va n)] w fun e w'=>(∃ ev,e=.returned (.tuple #[.int .i64 n,ev]))/\Below w.heap.size w w':=
 (Tryz.strconv_Atoi (Va n) n (by rw[R0,eM];have:=eQ n hn;omega) (by rw[eM];exact zJY n) w).mono fun e w' ⟨he,t,hw⟩=>
  ⟨⟨_,he⟩,by rw[hw];exact below_bytesWorld _ w 5 t (n_ _)⟩
theorem yR (a b:Nat) (r:ByteArray) (w:World) (ha:a<=9999999) (hb:b<=9999999) (hr:r.size<=1000):
  Calls p_ 193 #[.string (dA a b r)] w fun e w'=>e=.returned (.tuple #[.int .i64 a,.int .i64 b,.string r])/\Below w.heap.size w w':=
 have hs:=zIl a b r ha hb
 zDs (dA a b r) (Va a) (mP b r) (Va b) r true true a b w (by unfold maxLen;omega) (by unfold maxLen;omega) (zKT a b r) (zJH b r)
  (fun w' _=>zDF a w' ha) (fun w' _=>zDF b w' hb)
theorem yV (n t:Nat) (d:ByteArray) (w:World) (hn:n<=999999) (ht:1<=t) (Cs:t<=9) (hd:d.toList.isEmpty=true∨(d.toList.isEmpty=false/\bK d.data.toList=true)) (hs:d.size<=1000) (htab:Lib.TabIs p_ w "internal/strconv.uint64pow10" .u64 C3):
  Calls p_ 122 #[.string (dA n t d)] w fun e w'=>e=.returned (.tuple #[.agg #[.int .i64 n,.int .i64 t,.string d],.nilIface])/\Below w.heap.size w w':=by
 have k1:=fun w=>yR n t d w (by omega) (by omega) hs;have k2:=fun w=>kH n t d w hn ht Cs hd hs;have K1:=aa k1;have K2:=aa k2;have HT:=aa htab;have n1:=eG;clear k1 k2 htab hd;generalize dA n t d=s at *;obtain⟨r0,r1,r2,hB,Aa,fz,-⟩:=Nf w RX rfl rfl;go_enter func122,ntmps122;go_wp2_with fail;refine(K1.out _).mono ?_;rintro e w1 ⟨rfl,Ba⟩;replace hB:=aB hB (n_ _) Ba;replace fz:=fun j=>aE Ba Aa (fz j);replace ⟨r0,r1,r2⟩:=Fe Ba r0 r1 r2;replace Aa:=UY Aa Ba.size;have za:=a_ w1 (CX n t d);replace hB:=aB hB (n_ _) za;replace fz:=fun j=>aE za Aa (fz j);replace ⟨r0,r1,r2⟩:=Fe za r0 r1 r2;obtain⟨q0,q1,q2,-⟩:=Nf w1 (CX n t d) rfl rfl;replace Aa:=UY Aa za.size;go_wp2_with fail;refine(K2.out _ (rQ HT.out hB)).mono ?_;rintro e w2 ⟨rfl,Ra⟩;replace hB:=aB hB (n_ _) Ra;replace fz:=fun j=>aE Ra Aa (fz j);replace ⟨r0,r1,r2,q0,q1,q2⟩:=on6 Ra r0 r1 r2 q0 q1 q2;clear Ba za Ra Aa;go_wp2;exact bodyPost_ret (v:=.tuple #[.agg #[.int .i64 n,.int .i64 t,.string d],.nilIface]) (by simp[results,results122,go_sem,r0,r1,r2]) rfl ⟨rfl,(((hB.setCell (n_ _) _).setCell (n_ _) _).setCell (n_ _) _)⟩
theorem vV (k:Int) (t u:Nat) (d:ByteArray) (w:World) (ht:t<=9) (hu:u<=2000000) (hs:d.size<=28) (htab:Lib.TabIs p_ w "internal/strconv.uint64pow10" .u64 C3):
  Calls p_ 185 #[.int .i64 k,.string (dA t u d)] w fun e w'=>e=.returned (.tuple #[.agg #[.int .i64 k,.int .i64 t,.int .i64 u,.string d],.nilIface])/\Below w.heap.size w w':=by
 have k1:=fun w=>yR t u d w (by omega) (by omega) (by omega);have k2:=fun w=>nE k t u d w ht hu hs;have K1:=aa k1;have K2:=aa k2;have HT:=aa htab;have n1:=eG;clear k1 k2 htab;generalize dA t u d=s at *;obtain⟨r0,r1,r2,r3,hB,Aa,fz,-⟩:=kn w DX rfl rfl;go_enter func185,ntmps185;go_wp2_with fail;refine(K1.out _).mono ?_;rintro e w1 ⟨rfl,Ba⟩;replace hB:=aB hB (n_ _) Ba;replace fz:=fun j=>aE Ba Aa (fz j);replace ⟨r0,r1,r2,r3⟩:=Ij Ba r0 r1 r2 r3;replace Aa:=UY Aa Ba.size;have za:=a_ w1 (EX k t u d);replace hB:=aB hB (n_ _) za;replace fz:=fun j=>aE za Aa (fz j);replace ⟨r0,r1,r2,r3⟩:=Ij za r0 r1 r2 r3;obtain⟨q0,q1,q2,q3,-⟩:=kn w1 (EX k t u d) rfl rfl;replace Aa:=UY Aa za.size;go_wp2_with fail;refine(K2.out _ (rQ HT.out hB)).mono ?_;rintro e w2 ⟨rfl,Ra⟩;replace hB:=aB hB (n_ _) Ra;replace fz:=fun j=>aE Ra Aa (fz j);replace ⟨r0,r1,r2,r3,q0,q1,q2,q3⟩:=ZQ Ra r0 r1 r2 r3 q0 q1 q2 q3;clear Ba za Ra Aa;go_wp2;exact bodyPost_ret (v:=.tuple #[.agg #[.int .i64 k,.int .i64 t,.int .i64 u,.string d],.nilIface]) (by simp[results,results185,go_sem,r0,r1,r2,r3]) rfl ⟨rfl,((((hB.setCell (n_ _) _).setCell (n_ _) _).setCell (n_ _) _).setCell (n_ _) _)⟩
theorem zF9 (h:n<10):Va n=⟨#[UInt8.ofNat (48+n)]⟩:=by
 unfold Va;rw[Lib.decDigits_one h]
theorem zKM (h:¬n<10):Va n=Va (n / 10)++⟨#[UInt8.ofNat (48+n % 10)]⟩:=by
 apply kG;rw[L1];simp only[Va];rw[L0,dif_neg h];simp
theorem iD (n:Nat):∀ (w:World),n<=9999999->
  Calls p_ 190 #[.int .i64 n] w fun e w'=>e=.returned (.string (Va n))/\Below w.heap.size w w':=by
 induction n using Nat.strongRecOn with
 | _ n ih=>
  intro w hn;by_cases h:n<10
  ·have g1:¬(n:Int)<0:=by omega
   have g2:(n:Int)<10:=by omega
   have w1:wrap64 (48+(n:Int))=48+n:=by unfold wrap64;omega
   have w2:(48+(n:Int)) % 256=48+n:=by omega
   have hX:=a_ w (KX (48+(n:Int)));have hcv:=run_convert_bytes_back (P:=p_) (w.alloc (KX (48+(n:Int)))) 226 9 5 ⟨w.heap.size,0,none⟩ 1 [UInt8.ofNat (48+n)] underlying226 underlying5 underlying9 (fun j hj=>by
    have Dj:j=0:=by simp at hj;omega
    subst Dj;simp[Addr.add];omega)
   simp only[PZ,F3,TZ] at hcv;rw[zF9 h];clear ih;go_enter func190,ntmps190;go_wp2;go_ret;exact⟨rfl,hX⟩
  ·have HI:=fun w'=>aa (ih (n / 10) (by omega) w' (by omega));rw[zKM h];clear ih;have q1:(n:Int).tdiv 10=((n / 10:Nat):Int):=by rw[Int.tdiv_eq_ediv_of_nonneg (by omega)];omega
   have q2:(n:Int).tmod 10=((n % 10:Nat):Int):=by rw[I9 (by omega)];omega
   have hlen:(Va (n / 10)).size<=7:=by rw[R0,eM];exact eQ _ (by omega)
   have g1:decide ((n:Int)<0)=false:=by simp
   have g2:decide ((n:Int)<10)=false:=by simp;omega
   have hm:n / 10<=999999:=by omega
   have hd:n % 10<10:=by omega
   generalize Va (n / 10)=D at *;generalize n / 10=m at *;generalize n % 10=d at *;obtain⟨x,hx⟩:∃ x:Nat,x=48+d:=⟨_,rfl⟩;have k1:G0.wrap (m:Int)=m:=by simp[U3,V3];omega
   have k2:G0.wrap (48+(d:Int))=(x:Int):=by simp[U3,V3];omega
   have k3:IntKind.u8.wrap (x:Int)=x:=by simp[U3,V3];omega
   have hcv:=fun (W:World) (b:Nat) (h:W.cell? ⟨b,0,none⟩=some (.int .u8 (x:Int)))=>run_convert_bytes_back (P:=p_) W 226 9 5 ⟨b,0,none⟩ 1 [UInt8.ofNat x] underlying226 underlying5 underlying9 (fun j hj=>by
    have Dj:j=0:=by simp at hj;omega
    subst Dj;have e:(⟨b,0,none⟩:Addr).add 0=⟨b,0,none⟩:=by simp[Addr.add]
    rw[e,h];simp;omega)
   simp only[PZ,F3,TZ] at hcv;have a0q:=hcv (w.drew.alloc (KX (x:Int))) w.heap.size (aC w.drew #[i_ .u8 (x:Int)] 5 0);rw[<-hx];have s1:¬9223372036854775807<D.size+1:=by omega
   have ze:Below w.heap.size w (w.drew.alloc (KX (x:Int))):=aB (r_ _ _).drew (n_ _) (a_ _ _);clear hx hd hn hm h;go_enter func190,ntmps190;go_wp2
   go_region_with (first|(go_at_call_of 190 (i_ k_ (m:Int));refine((HI _).out).mono ?_;rintro e w1 ⟨rfl,hb⟩;first|(have z0:w1.cell? ⟨w.heap.size,0,none⟩=some (.int .u8 (x:Int)):=aA hb (aC w.drew #[i_ .u8 (x:Int)] 5 0);have a0r:=hcv w1 w.heap.size z0;replace hb:=aB ze (n_ _) hb)|(have a0s:=hcv (w1.alloc (KX (x:Int))) w1.heap.size (aC w1 #[i_ .u8 (x:Int)] 5 0);replace hb:Below w.heap.size w w1:=aB (r_ _ _).drew (n_ _) hb);dsimp only))
   go_wp2
   all_goals
    go_ret;exact⟨rfl,by first|exact hb|exact aB hb (n_ _) (a_ _ _)⟩
def vh (j m:Nat):ByteArray:=⟨(WY j (48:UInt8)++L0 m).toArray⟩
theorem zKn (j m:Nat):(vh j m).size=j+(L0 m).length:=by rw[R0];simp[vh]
theorem zOq (j m:Nat):(⟨#[48]⟩:ByteArray)++vh j m=vh (j+1) m:=by
 apply kG;simp[vh,L1,J7]
theorem zOU (m:Nat) (h:m<=999999):vh (6-(L0 m).length) m=⟨(Ge m).toArray⟩:=by
 unfold vh;rw[CJ m h]
theorem zPk (n:Nat) (w:World) (hn:n<=9223372036854775807):
  Calls p_ 188 #[.int .i64 n] w fun e w'=>e=.returned (.string ⟨(Ge (n % 1000000)).toArray⟩)/\Below w.heap.size w w':=by
 have q2:(n:Int).tmod 1000000=((n % 1000000:Nat):Int):=by rw[I9 (by omega)];omega
 have hm:n % 1000000<=999999:=by omega
 have HD:=fun w'=>aa (iD (n % 1000000) w' (by omega));have HS:=aa (zOU (n % 1000000) hm);have hlen:=zL9 (n % 1000000) hm;have LC:Va (n % 1000000)=vh 0 (n % 1000000):=by simp[Va,vh]
 rw[LC] at HD;clear LC;generalize n % 1000000=m at *;go_enter func188,ntmps188;go_wp2_with fail;refine((HD _).out).mono ?_;rintro e w1 ⟨rfl,hb⟩;go_wp2
 go_loop [3] (fun v=>∃ j:Nat,j+(L0 m).length<=6/\v=.string (vh j m)) (fun v=>match v with | .string s=>6-s.size|_=>0)
 case atStart=>exact⟨0,by omega,rfl⟩
 case round=>
  obtain⟨j,hj,rfl⟩:=hrel;have hz:=zKn j m;have HP:=aa (zOq j m);have Yc:=zKn (j+1) m;by_cases Aa:(vh j m).size<6
  ·have g:((vh j m).size:Int)<6:=by omega
   have s1:¬9223372036854775807<1+(vh j m).size:=by omega
   go_wp2
   go_round
   case rel=>exact⟨j+1,by omega,by rw[HP.out]⟩
   case measure=>rw[HP.out];simp only;omega
  ·have g:¬((vh j m).size:Int)<6:=by omega
   have HJ:=aa (show j=6-(L0 m).length by omega);clear hz Yc;go_wp2;go_ret;exact⟨zFN (by rw[HJ.out,HS.out]),hb⟩
theorem iY (c:ma):∀ u∈bN c,u.oneCell'=true:=by
 intro u hu;simp only[bN,L2,X0,or_false] at hu;rcases hu with rfl|rfl|rfl<;>rfl
theorem mG {B:Nat} {v:Value} {l:List ma} {c:ma} (h:w.ownsRow B 99 3 v (l.length+1) (cG l++bN c)):bO w B v (l++[c]):=by
 unfold bO;rw[tJ,YY];simpa[cG] using h
theorem zOM (c:ma) (l:List ma) (k:Nat):((l.take k).foldl (cJ c) (false,[])).2.length<=2*k:=by
 induction k with
 | zero=>simp
 | succ k ih=>
  by_cases hk:k<l.length
  ·rw[zJZ c l k hk];have:=zO7 c ((l.take k).foldl (cJ c) (false,[])) l[k];omega
  ·rw[LZ (by omega)];rw[LZ (by omega)] at ih;omega
theorem zO2 (l:List ma) (b off cap:Nat) (c:ma) (w:World) (hl:dG w b off l) (hn:l.length<=1000):
  Calls p_ 125 #[.slice (some ⟨b,off,none⟩) l.length cap,.agg #[.string c.key,.string c.val,.bool c.gone]] w fun e w'=>
   ∃ v,e=.returned v/\bO w' w.heap.size v (pr c (l.foldl (cJ c) (false,[])))/\Below w.heap.size w w':=by
 obtain⟨i0,Qb,Xb,We,ze⟩:=OJ;obtain⟨a0,a1,a2,Nc,-⟩:=Nf w (FX c.key c.val c.gone) rfl rfl;have gm:=gC Nc hl;have Yc:(w.alloc (FX c.key c.val c.gone)).heap.size=w.heap.size+1:=by simp
 go_enter func125,ntmps125;go_wp2;generalize (w.alloc (FX c.key c.val c.gone))=W0 at *
 go_loopw [5,6,7] (fun v y i wr=>∃ k:Nat,k<=l.length/\i=.int .i64 k/\y=.bool ((l.take k).foldl (cJ c) (false,[])).1/\bO wr W0.heap.size v ((l.take k).foldl (cJ c) (false,[])).2/\Below W0.heap.size W0 wr) (fun _ _ i _=>l.length-(intOf i).toNat)
 case atStart=>exact⟨0,OZ _,rfl,rfl,World.ownsRow_nil _ _ _ _,r_ _ _⟩
 case round=>
  obtain⟨k,hk,rfl,rfl,ya,hB⟩:=hrel;have HF:=aa (zJZ c l k);have hlen:=zOM c l k;have HE:Hid (((l.take k).foldl (cJ c) (false,[]))=((l.take k).foldl (cJ c) (false,[]))):=rfl;generalize Zb:((l.take k).foldl (cJ c) (false,[]))=st at *;obtain⟨laid,out⟩:=st;replace HE:=aa Zb;clear Zb;replace hlen:out.length<=2*k:=hlen;have b0:=aA hB a0;have b1:=aA hB a1;have b2:=aA hB a2;by_cases Aa:k<l.length
  ·obtain⟨c0,c1,c2⟩:=gC hB gm k Aa;have g2:(k:Int)<(l.length:Int):=by omega
   replace HF:=aa (HF.out Aa);have lk:(k:Int)<(l.length:Int):=by omega
   cases hq:bc l[k].key c.key with
   | true=>
    have q1:(l[k].key.toList==c.key.toList)=true:=hq;have q2:(l[k].key.toList != c.key.toList)=false:=by rw[bne,q1];rfl
    cases laid with
    | true=>
     replace HF:Hid (Q4 (cJ c) (false,[]) (A5 (k+1) l)=(true,out)):=by
      show _=_;rw[HF.out];simp[cJ,hq]
     clear hq;go_wp2;go_quiet (fail);go_wp2;go_quiet (fail);go_wp2;go_roundw
     case rel=>exact⟨k+1,by omega,by go_num,by rw[HF.out],by rw[HF.out];exact ya,by first|exact hB|exact hB.trans (below_draws _ _ _)⟩
     case measure=>simp[intOf];omega
    | false=>
     have fe:ng c.key l[k].key=true:=by rw[jM];exact .inr ((eV _ _).1 hq).symm
     have LF:(J1 c.key.toList l[k].key.toList || c.key.toList==l[k].key.toList)=true:=fe;replace HF:Hid (Q4 (cJ c) (false,[]) (A5 (k+1) l)=(true,out++[c])):=by
      show _=_;rw[HF.out];simp[cJ,hq,fe]
     clear hq fe;go_wp2;go_quiet (fail);go_wp2_with (at_builtin;refine oS rfl _ _ 36 rfl W0.heap.size 99 i0 _ 3 40 underlying36 Qb Xb We ze rfl (by omega) _ (bN c) rfl (iY _) _ out.length (cG out) ya rfl rfl (by omega) (by omega) hB.size ?_;intro v1 w1 mc Ba;replace hB:Below W0.heap.size W0 w1:=(by first|exact Ba W0 hB|exact Ba W0 (hB.trans (below_draws _ _ _)));replace ya:bO w1 W0.heap.size v1 (out++[c]):=mG mc;clear mc Ba;replace b0:=aA hB a0;replace b1:=aA hB a1;replace b2:=aA hB a2;obtain⟨c0,c1,c2⟩:=gC hB gm k Aa)
     go_quiet (fail);go_wp2;go_roundw
     case rel=>exact⟨k+1,by omega,by go_num,by rw[HF.out],by rw[HF.out];exact ya,by first|exact hB|exact hB.trans (below_draws _ _ _)⟩
     case measure=>simp[intOf];omega
   | false=>
    have q1:(l[k].key.toList==c.key.toList)=false:=hq;have q2:(l[k].key.toList != c.key.toList)=true:=by rw[bne,q1];rfl
    cases laid with
    | true=>
     replace HF:Hid (Q4 (cJ c) (false,[]) (A5 (k+1) l)=(true,out++[l[k]])):=by
      show _=_;rw[HF.out];simp[cJ,hq]
     clear hq;go_wp2;go_quiet (fail);go_wp2;go_quiet (fail);go_wp2_with (at_builtin;refine oS rfl _ _ 36 rfl W0.heap.size 99 i0 _ 3 40 underlying36 Qb Xb We ze rfl (by omega) _ (bN l[k]) rfl (iY _) _ out.length (cG out) ya rfl rfl (by omega) (by omega) hB.size ?_;intro v1 w1 mc Ba;replace hB:Below W0.heap.size W0 w1:=(by first|exact Ba W0 hB|exact Ba W0 (hB.trans (below_draws _ _ _)));replace ya:bO w1 W0.heap.size v1 (out++[l[k]]):=mG mc;clear mc Ba;replace b0:=aA hB a0;replace b1:=aA hB a1;replace b2:=aA hB a2;obtain⟨c0,c1,c2⟩:=gC hB gm k Aa)
     go_roundw
     case rel=>exact⟨k+1,by omega,by go_num,by rw[HF.out],by rw[HF.out];exact ya,by first|exact hB|exact hB.trans (below_draws _ _ _)⟩
     case measure=>simp[intOf];omega
    | false=>
     cases fe:ng c.key l[k].key with
     | false=>
      have LF:(J1 c.key.toList l[k].key.toList || c.key.toList==l[k].key.toList)=false:=fe;replace HF:Hid (Q4 (cJ c) (false,[]) (A5 (k+1) l)=(false,out++[l[k]])):=by
       show _=_;rw[HF.out];simp[cJ,hq,fe]
      clear hq fe;go_wp2;go_quiet (fail);go_wp2;go_quiet (fail);go_wp2_with (at_builtin;refine oS rfl _ _ 36 rfl W0.heap.size 99 i0 _ 3 40 underlying36 Qb Xb We ze rfl (by omega) _ (bN l[k]) rfl (iY _) _ out.length (cG out) ya rfl rfl (by omega) (by omega) hB.size ?_;intro v1 w1 mc Ba;replace hB:Below W0.heap.size W0 w1:=(by first|exact Ba W0 hB|exact Ba W0 (hB.trans (below_draws _ _ _)));replace ya:bO w1 W0.heap.size v1 (out++[l[k]]):=mG mc;clear mc Ba;replace b0:=aA hB a0;replace b1:=aA hB a1;replace b2:=aA hB a2;obtain⟨c0,c1,c2⟩:=gC hB gm k Aa)
      go_roundw
      case rel=>exact⟨k+1,by omega,by go_num,by rw[HF.out],by rw[HF.out];exact ya,by first|exact hB|exact hB.trans (below_draws _ _ _)⟩
      case measure=>simp[intOf];omega
     | true=>
      have LF:(J1 c.key.toList l[k].key.toList || c.key.toList==l[k].key.toList)=true:=fe;replace HF:Hid (Q4 (cJ c) (false,[]) (A5 (k+1) l)=(true,out++[c]++[l[k]])):=by
       show _=_;rw[HF.out];simp[cJ,hq,fe]
      clear hq fe;have ND:(out++[c]).length<=2*k+1:=by simp;omega
      go_wp2;go_quiet (fail);go_wp2_with (at_builtin;refine oS rfl _ _ 36 rfl W0.heap.size 99 i0 _ 3 40 underlying36 Qb Xb We ze rfl (by omega) _ (bN c) rfl (iY _) _ out.length (cG out) ya rfl rfl (by omega) (by omega) hB.size ?_;intro v1 w1 mc Ba;replace hB:Below W0.heap.size W0 w1:=(by first|exact Ba W0 hB|exact Ba W0 (hB.trans (below_draws _ _ _)));replace ya:bO w1 W0.heap.size v1 (out++[c]):=mG mc;clear mc Ba;replace b0:=aA hB a0;replace b1:=aA hB a1;replace b2:=aA hB a2;obtain⟨c0,c1,c2⟩:=gC hB gm k Aa)
      go_quiet (fail);go_wp2_with (at_builtin;refine oS rfl _ _ 36 rfl W0.heap.size 99 i0 _ 3 40 underlying36 Qb Xb We ze rfl (by omega) _ (bN l[k]) rfl (iY _) _ (out++[c]).length (cG (out++[c])) ya rfl rfl (by omega) (by omega) hB.size ?_;intro v1 w1 mc Ba;replace hB:Below W0.heap.size W0 w1:=(by first|exact Ba W0 hB|exact Ba W0 (hB.trans (below_draws _ _ _)));replace ya:bO w1 W0.heap.size v1 ((out++[c])++[l[k]]):=mG mc;clear mc Ba;replace b0:=aA hB a0;replace b1:=aA hB a1;replace b2:=aA hB a2;obtain⟨c0,c1,c2⟩:=gC hB gm k Aa)
      go_roundw
      case rel=>exact⟨k+1,by omega,by go_num,by rw[HF.out],by rw[HF.out];exact ya,by first|exact hB|exact hB.trans (below_draws _ _ _)⟩
      case measure=>simp[intOf];omega
  ·have e:l.take k=l:=LZ (by omega);rw[e] at HE
   cases laid with
   | true=>
    go_wp2;go_ret;exact⟨_,rfl,by rw[HE.out];exact dJ ya (by omega),aB Nc (n_ _) hB⟩
   | false=>
    go_wp2_with (at_builtin;refine oS rfl _ _ 36 rfl W0.heap.size 99 i0 _ 3 40 underlying36 Qb Xb We ze rfl (by omega) _ (bN c) rfl (iY _) _ out.length (cG out) ya rfl rfl (by omega) (by omega) hB.size ?_;intro v1 w1 mc Ba;replace hB:Below W0.heap.size W0 w1:=(by first|exact Ba W0 hB|exact Ba W0 (hB.trans (below_draws _ _ _)));replace ya:bO w1 W0.heap.size v1 (out++[c]):=mG mc;clear mc Ba;replace b0:=aA hB a0;replace b1:=aA hB a1;replace b2:=aA hB a2)
    go_ret;exact⟨_,rfl,by rw[HE.out];exact dJ ya (by omega),aB Nc (n_ _) hB⟩
end
theorem zMU {l:List UInt8} (h:ui l=true):∃ n,n<=999999/\l=Ge n:=by
 simp only[ui,E1,decide_eq_true_eq] at h;obtain⟨h6,hd⟩:=h
 match l,h6 with
 | [a,b,c,d,e,f],_=>
  have g:∀ i,i<6->eZ ([a,b,c,d,e,f].getD i 0)=true:=fun i hi=>List.all_eq_true.1 hd i (List.mem_range.2 hi);have g':∀ x:UInt8,eZ x=true->48<=x.toNat/\x.toNat<=57:=fun x hx=>by simpa[eZ] using hx
  have ha:=g' a (g 0 (by omega));have hb:=g' b (g 1 (by omega));have hc:=g' c (g 2 (by omega));have hd:=g' d (g 3 (by omega));have he:=g' e (g 4 (by omega));have hf:=g' f (g 5 (by omega));refine⟨100000*(a.toNat-48)+10000*(b.toNat-48)+1000*(c.toNat-48)+100*(d.toNat-48)+10*(e.toNat-48)+(f.toNat-48),by omega,?_⟩;have one:∀ (x:UInt8) (n i:Nat),48<=x.toNat->n / 10 ^ i % 10=x.toNat-48->x=vk n i:=fun x n i Ax h=>UInt8.toNat_inj.1 (by rw[iU,h];omega);simp only[Ge];rw[<-one a _ 5 ha.1 (by omega),<-one b _ 4 hb.1 (by omega),<-one c _ 3 hc.1 (by omega),<-one d _ 2 hd.1 (by omega),<-one e _ 1 he.1 (by omega),<-one f _ 0 hf.1 (by omega)]
theorem IT {k:ByteArray} (hq:bK q.data.toList=true) (hk:Fc k.data.toList=true) (hs:Fb (aZ q) (Jb q) k=true):∃ n,n<=999999/\k=Ta q n:=by
 rw[zCP,rI] at hs;obtain⟨r,hr⟩:=List.isPrefixOf_iff_prefix.1 hs;have e:k.data.toList=109::47::(q.data.toList++47::r):=by rw[<-hr];simp
 have t:Z3 k.data.toList [109,47]=q.data.toList++47::r:=by rw[e,Z3];simp[Y4]
 have m:kW k.data.toList=true:=by
  rw[Fc,Bool.or_eq_true,Bool.or_eq_true] at hk;rcases hk with h|h|h
  ·rw[e,jE] at h;simp[Y4] at h
  ·rw[e,jE] at h;simp[Y4] at h
  ·exact h
 rw[kW,t,sM (xC hq),nY,E1,E1,E1] at m;have hx:=m.2.2.2;have d:(q.data.toList++47::r).drop (q.data.toList.length+1)=r:=by rw[Q6];simp
 rw[Z1,d] at hx;obtain⟨n,hn,rfl⟩:=zMU hx;exact⟨n,hn,kG (by rw[e,mN])⟩
theorem zEM (n:Nat):Lib.lastIndexByte (Ta q n) 47=(q.size:Int)+2:=by
 have hl:=mN q n;have hz:=pS q n;have at_:∀ j:Nat,(Ta q n).data[j]! = (109::47::(q.data.toList++47::Ge n))[j]?.getD (default:UInt8):=by
  intro j;rw[<-hl,Array.getElem?_toList,Array.getElem!_eq_getD,Array.getD_eq_getD_getElem?]
 have ql:q.data.toList.length=q.size:=by rw[Array.length_toList];rfl
 rcases Lib.lastIndexByte_spec (Ta q n) 47 with⟨_,xe⟩|⟨i,hi,he,hc,xe⟩
 ·exfalso;refine xe (q.size+2) (by omega) ?_;rw[at_,<-ql];simp
 ·rw[he];have:i=q.size+2:=by
   rcases Nat.lt_trichotomy i (q.size+2) with h|h|h
   ·exfalso;refine xe (q.size+2) h (by omega) ?_;rw[at_,<-ql];simp
   ·exact h
   ·exfalso;rw[at_] at hc;obtain⟨j,rfl⟩:∃ j,i=q.data.toList.length+j+3:=⟨i-q.size-3,by omega⟩;have e2:(109::47::(q.data.toList++47::Ge n))[q.data.toList.length+j+3]?=(Ge n)[j]?:=by
     rw[V6,V6,show q.data.toList.length+j+1=q.data.toList.length+(j+1) by omega,List.getElem?_append_right (by omega)];simp
    rw[e2] at hc;have hj:j<6:=by omega
    have h6:∀ x∈Ge n,x.toNat≠47:=by
     intro x hx;simp only[Ge,L2,X0,or_false] at hx;have g:=fun i=>iU n i;rcases hx with rfl|rfl|rfl|rfl|rfl|rfl<;>rw[iU]<;>omega
    have ki:j<(Ge n).length:=hj;rw[List.getElem?_eq_getElem ki] at hc;have hh:((Ge n)[j]).toNat=47:=by simp only[Option.getD_some] at hc;omega
    exact h6 _ (List.getElem_mem ki) hh
  omega
theorem zHI (n:Nat):((Ta q n).extract (q.size+3) (q.size+9)).data.toList=Ge n:=by
 have ql:q.data.toList.length=q.size:=by rw[Array.length_toList];rfl
 rw[N7,Array.toList_extract,mN];have:(109::47::(q.data.toList++47::Ge n)).extract (q.size+3) (q.size+9)=Ge n:=by
  rw[List.extract_eq_take_drop,<-ql];have d:(109::47::(q.data.toList++47::Ge n)).drop (q.data.toList.length+3)=Ge n:=by
   rw[A4,A4,Q6];simp
  rw[d,show q.data.toList.length+9-(q.data.toList.length+3)=6 by omega];rfl
 exact this
theorem zIV (k:Nat) (l:List UInt8):T8 0 (WY k 48++l)=T8 0 l:=by
 induction k with
 | zero=>rfl
 | succ k ih=>rw[J7,List.cons_append,T8];exact ih
theorem zDN (n:Nat) (hn:n<=999999):Lib.atoi (Ge n)=some (n:Int):=by
 have h:T8 0 (Ge n)=some n:=by rw[<-CJ n hn,zIV,zDQ]
 have hb:=zMs n 5;have n1:(vk n 5==45)=false:=beq_eq_false_iff_ne.2 (rM hb 45 (by decide));have n2:(vk n 5==43)=false:=beq_eq_false_iff_ne.2 (rM hb 43 (by decide));rw[Ge] at h;simp only[Lib.atoi,Ge,n1,n2,Lib.decNat,h];rfl
section
open Go.RowKit Go.Joins
theorem zN4 (a b:BA):T3 a b=if (!(J1 b.toList a.toList || b.toList==a.toList))=true then b else a:=by
 rw[zPf];have:(!(J1 b.toList a.toList || b.toList==a.toList))=jb a b:=by
  have:=mA b a;unfold ng at this;rw[this,Bool.not_not]
 rw[this]
theorem zOZ (a b:BA):pe a b=if (a.toList.isEmpty || (!b.toList.isEmpty&&J1 b.toList a.toList))=true then b else a:=by
 have e:pe a b=if (Gf a || (!Gf b&&jb b a))=true then b else a:=by
  unfold pe;rw[zPg,mA];cases Gf a<;>cases Gf b<;>cases jb b a<;>simp
 exact e
theorem zOY (af Mj bf bt x y:BA) (w:World)
  (hx:((!Op.bytesLess bf.toList af.toList&&!bf.toList==af.toList)=true/\x=bf)∨((!Op.bytesLess bf.toList af.toList&&!bf.toList==af.toList)=false/\x=af))
  (hy:(Mj.toList.isEmpty=true/\y=bt)∨(Mj.toList.isEmpty=false/\bt.toList.isEmpty=true/\y=Mj)∨(Mj.toList.isEmpty=false/\bt.toList.isEmpty=false/\J1 bt.toList Mj.toList=true/\y=bt)∨(Mj.toList.isEmpty=false/\bt.toList.isEmpty=false/\J1 bt.toList Mj.toList=false/\y=Mj)):
  Calls p_ 134 #[.agg #[.string af,.string Mj],.agg #[.string bf,.string bt]] w fun e w'=>e=.returned (.agg #[.string x,.string y])/\Below w.heap.size w w':=by
 rcases hx with⟨h1,rfl⟩|⟨h1,rfl⟩
 all_goals rcases hy with⟨h2,rfl⟩|⟨h2,h3,rfl⟩|⟨h2,h3,h4,rfl⟩|⟨h2,h3,h4,rfl⟩
 all_goals
  go_enter func134,ntmps134;go_wp2;refine bodyPost_ret (v:=.agg #[.string _,.string _]) (by simp[results,results134,go_sem]) rfl ⟨rfl,?_⟩;exact(below_alloc3 _ _ _ _).alloc (by simp;omega) _
theorem zOu (af Mj bf bt:BA) (w:World):
  Calls p_ 134 #[.agg #[.string af,.string Mj],.agg #[.string bf,.string bt]] w fun e w'=>e=.returned (.agg #[.string (T3 af bf),.string (pe Mj bt)])/\Below w.heap.size w w':=by
 rw[zN4,zOZ];refine zOY af Mj bf bt _ _ w ?_ ?_
 ·rw[Bool.not_or];cases (!Op.bytesLess bf.toList af.toList&&!bf.toList==af.toList)
  ·exact Or.inr ⟨rfl,rfl⟩
  ·exact Or.inl ⟨rfl,rfl⟩
 ·cases Mj.toList.isEmpty<;>cases bt.toList.isEmpty<;>cases J1 bt.toList Mj.toList<;>simp
theorem zKe (l:List (ByteArray×ByteArray)) (ao:Option Addr) (cap:Nat) (key:ByteArray) (w:World) (hl:bY w ao l) (hn:l.length<=maxLen):
  Calls p_ 86 #[.slice ao l.length cap,.string key] w fun e w'=>e=.returned (.bool (l.any fun s=>Fb s.1 s.2 key))/\Below w.heap.size w w':=by
 rcases hl with rfl|⟨b,off,rfl,h⟩
 ·exact zMM _ _ _ _
 ·exact zMA l b off cap key w h hn
end
section
open Go.Lib
theorem zKU:(XZ.globals[3]?).map (·.type)=some 379:=by kernel_rfl
theorem zJp:XZ.cellsOf 379=20:=by kernel_rfl
theorem zI0:XZ.cellsOf 35=1:=by kernel_rfl
theorem zHV {W:World} {x y:String×DataW Unit} {zs:List Int} {rest:List (String×DataW Unit)}
  (h:laidMet p_ (x::y::("internal/strconv.uint64pow10",tabData .u64 zs)::rest) W):TabIs p_ W "internal/strconv.uint64pow10" .u64 zs:=by
 obtain⟨ps,⟨_,_,_,_,_,_,_,_,_,_,⟨_,_,_,_,_,_,_,_,_,_,⟨g',t',cs,zj,p,q,VC,Cs,hvar,hd,_,_⟩,_⟩,_⟩,_⟩:=h;obtain rfl:=Option.some.inj (zBT.symm.trans VC);obtain rfl:=Option.some.inj (zKU.symm.trans Cs);have e:=cells_of_tab underlying379 underlying35 zI0 zJp hd;unfold TabIs;rw[hvar];congr 1;exact Array.ext' (by simpa using e)
theorem zJN:C3=[1,10,100,1000,10000,100000,1000000,10000000,100000000,1000000000,10000000000,100000000000,1000000000000,10000000000000,100000000000000,1000000000000000,10000000000000000,100000000000000000,1000000000000000000,10000000000000000000]:=by decide +kernel
end
end Go.Proofs.YtcfjimdfegejaaaGreatDoor
