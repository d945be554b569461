import Derived.Test.YtnboipekkahmnaaGreatDoorS12
set_option maxHeartbeats 8000000
set_option maxRecDepth 100000
namespace Go.Proofs.YtnboipekkahmnaaGreatDoor
open Obj renaming cells→o_
open World renaming cell?_of_block→b_
open Go.RowKit.Below renaming heap_setCell→h_,refl→r_
open Nat renaming le_refl→n_
open Tryz renaming prog→p_
open Value renaming string→v_,int→i_
open IntKind renaming i64→k_
open Go.Joins renaming below_alloc1→a_
section
open Go.RowKit Go.Joins
theorem zF9 {n:Nat} (h:n<10):decB n=⟨#[UInt8.ofNat (48+n)]⟩:=by
 unfold decB;rw[Lib.decDigits_one h]
theorem zKM {n:Nat} (h:¬n<10):decB n=decB (n / 10)++⟨#[UInt8.ofNat (48+n % 10)]⟩:=by
 apply kG;rw[ByteArray.data_append];simp only[decB];rw[Lib.decDigits,dif_neg h];simp
theorem iD (n:Nat):∀ (w:World),n<=9999999->
  Calls p_ 96 #[.int .i64 n] w fun e w'=>e=.returned (.string (decB n))/\Below w.heap.size w w':=by
 induction n using Nat.strongRecOn with
 | _ n ih=>
  intro w hn;by_cases h:n<10
  ·have g1:¬(n:Int)<0:=by omega
   have g2:(n:Int)<10:=by omega
   have w1:wrap64 (48+(n:Int))=48+n:=by unfold wrap64;omega
   have w2:(48+(n:Int)) % 256=48+n:=by omega
   have hX:=a_ w (o_ #[.int .u8 (48+(n:Int))] 5);have hcv:=run_convert_bytes_back (P:=p_) (w.alloc (o_ #[.int .u8 (48+(n:Int))] 5)) 247 9 5 ⟨w.heap.size,0,none⟩ 1 [UInt8.ofNat (48+n)] Tryz.underlying247 Tryz.underlying5 Tryz.underlying9 (fun j hj=>by
    have hj2:j=0:=by simp at hj;omega
    subst hj2;simp[Addr.add];omega)
   simp only[List.length_cons,List.length_nil,Nat.zero_add] at hcv;rw[zF9 h];clear ih;go_enter Tryz.func96,Tryz.ntmps96;go_wp2;go_ret;exact⟨rfl,hX⟩
  ·have HI:=fun w'=>hide (ih (n / 10) (by omega) w' (by omega));rw[zKM h];clear ih;have q1:(n:Int).tdiv 10=((n / 10:Nat):Int):=by rw[Int.tdiv_eq_ediv_of_nonneg (by omega)];omega
   have q2:(n:Int).tmod 10=((n % 10:Nat):Int):=by rw[Int.tmod_eq_emod_of_nonneg (by omega)];omega
   have hlen:(decB (n / 10)).size<=7:=by rw[Lib.size_eq,eM];exact eQ _ (by omega)
   have g1:decide ((n:Int)<0)=false:=by simp
   have g2:decide ((n:Int)<10)=false:=by simp;omega
   have hm:n / 10<=999999:=by omega
   have hd:n % 10<10:=by omega
   generalize decB (n / 10)=D at *;generalize n / 10=m at *;generalize n % 10=d at *;obtain⟨x,hx⟩:∃ x:Nat,x=48+d:=⟨_,rfl⟩;have k1:IntKind.i64.wrap (m:Int)=m:=by simp[IntKind.wrap,IntKind.bits];omega
   have k2:IntKind.i64.wrap (48+(d:Int))=(x:Int):=by simp[IntKind.wrap,IntKind.bits];omega
   have k3:IntKind.u8.wrap (x:Int)=x:=by simp[IntKind.wrap,IntKind.bits];omega
   have hcv:=fun (W:World) (b:Nat) (h:W.cell? ⟨b,0,none⟩=some (.int .u8 (x:Int)))=>run_convert_bytes_back (P:=p_) W 247 9 5 ⟨b,0,none⟩ 1 [UInt8.ofNat x] Tryz.underlying247 Tryz.underlying5 Tryz.underlying9 (fun j hj=>by
    have hj2:j=0:=by simp at hj;omega
    subst hj2;have e:(⟨b,0,none⟩:Addr).add 0=⟨b,0,none⟩:=by simp[Addr.add]
    rw[e,h];simp;omega)
   simp only[List.length_cons,List.length_nil,Nat.zero_add] at hcv;have hcv1:=hcv (w.drew.alloc (o_ #[.int .u8 (x:Int)] 5)) w.heap.size (aC w.drew #[i_ .u8 (x:Int)] 5 0);rw[<-hx];have s1:¬9223372036854775807<D.size+1:=by omega
   have hb0:Below w.heap.size w (w.drew.alloc (o_ #[.int .u8 (x:Int)] 5)):=aB (r_ _ _).drew (n_ _) (a_ _ _);clear hx hd hn hm h;go_enter Tryz.func96,Tryz.ntmps96;go_wp2
   go_region_with (first|(go_at_call_of 96 (i_ k_ (m:Int));refine((HI _).out).mono ?_;rintro e w1 ⟨rfl,hb⟩;first|(have z0:w1.cell? ⟨w.heap.size,0,none⟩=some (.int .u8 (x:Int)):=aA hb (aC w.drew #[i_ .u8 (x:Int)] 5 0);have hcv2:=hcv w1 w.heap.size z0;replace hb:=aB hb0 (n_ _) hb)|(have hcv3:=hcv (w1.alloc (o_ #[.int .u8 (x:Int)] 5)) w1.heap.size (aC w1 #[i_ .u8 (x:Int)] 5 0);replace hb:Below w.heap.size w w1:=aB (r_ _ _).drew (n_ _) hb);dsimp only))
   go_wp2
   all_goals
    go_ret;exact⟨rfl,by first|exact hb|exact aB hb (n_ _) (a_ _ _)⟩
theorem tH (n t:Nat) (d:ByteArray) (hn:n<=999999) (ht:1<=t) (ht':t<=9) (hd:d.toList.isEmpty=true∨(d.toList.isEmpty=false/\bK d.data.toList=true)) (hs:d.size<=1000) (w:World):
  Calls p_ 211 #[.agg #[.int .i64 n,.int .i64 t,.string d]] w fun e w'=>e=.returned (.tuple #[.string (dA n t d),.int .i64 0])/\Below w.heap.size w w':=by
 have hB:=a_ w (o_ #[.int .i64 n,.int .i64 t,.string d] 145);have ea:(decB n).size<=7:=by rw[Lib.size_eq,eM];exact eQ _ (by omega)
 have eb:(decB t).size<=7:=by rw[Lib.size_eq,eM];exact eQ _ (by omega)
 unfold dA;have HA:=fun w'=>hide (iD n w' (by omega));have HC:=fun w'=>hide (iD t w' (by omega));generalize decB n=A at *;generalize decB t=D at *;rcases hd with hd|⟨hd,hd'⟩
 all_goals
  go_enter Tryz.func211,Tryz.ntmps211;go_wp2_with (go_at_call 108;refine(rC _ _).mono ?_;rintro e w1 ⟨rfl,rfl⟩)
  have nS:=OnW.some (w.alloc (o_ #[.int .i64 n,.int .i64 t,.string d] 145));have n0:∀ z:OnW (w.alloc (o_ #[.int .i64 n,.int .i64 t,.string d] 145)),z.w.cell? ⟨w.heap.size,0,none⟩=some (i_ .i64 n):=fun z=>z.cell (by simp);have n1:∀ z:OnW (w.alloc (o_ #[.int .i64 n,.int .i64 t,.string d] 145)),z.w.cell? ⟨w.heap.size,1,none⟩=some (i_ .i64 t):=fun z=>z.cell (by simp);have n2:∀ z:OnW (w.alloc (o_ #[.int .i64 n,.int .i64 t,.string d] 145)),z.w.cell? ⟨w.heap.size,2,none⟩=some (v_ d):=fun z=>z.cell (by simp);refine dE (by kernel_rfl) (by kernel_rfl) ?_
  repeat (go_big_quiet_step ((first
   | (go_at_call_of 96 (i_ .i64 (n:Int));exact fF ((HA _).out))
   | (go_at_call_of 96 (i_ .i64 (t:Int));exact fF ((HC _).out)))))
  refine wpQuiet_nil ?_;intro w3 hw3;replace hw3:=jG hw3;replace hB:=aB hB (n_ _) hw3;go_wp2;go_ret2;exact⟨rfl,hB⟩
theorem xK (n t:Int) (d:ByteArray) (w:World) (h:(n<0∨999999<n)∨(0<=n/\n<=999999/\(t<1∨9<t))):
  Calls p_ 211 #[.agg #[.int .i64 n,.int .i64 t,.string d]] w fun e w'=>e=.returned (.tuple #[.string ⟨#[]⟩,.int .i64 1])/\Below w.heap.size w w':=by
 have hB:=a_ w (o_ #[.int .i64 n,.int .i64 t,.string d] 145);have h4:n<0∨(0<=n/\999999<n)∨(0<=n/\n<=999999/\t<1)∨(0<=n/\n<=999999/\1<=t/\9<t):=by omega
 rcases h4 with h|⟨h,h'⟩|⟨h,h',h2⟩|⟨h,h',h2,h3⟩
 all_goals
  go_enter Tryz.func211,Tryz.ntmps211;go_wp2;go_ret2;exact⟨rfl,hB⟩
theorem xF (n t:Int) (d:ByteArray) (w:World) (hn:0<=n) (hn':n<=999999) (ht:1<=t) (ht':t<=9) (hd:d.toList.isEmpty=false) (hd':bK d.data.toList=false):
  Calls p_ 211 #[.agg #[.int .i64 n,.int .i64 t,.string d]] w fun e w'=>e=.returned (.tuple #[.string ⟨#[]⟩,.int .i64 3])/\Below w.heap.size w w':=by
 have hB:=a_ w (o_ #[.int .i64 n,.int .i64 t,.string d] 145);go_enter Tryz.func211,Tryz.ntmps211;go_wp2_with (go_at_call 108;refine(rC _ _).mono ?_;rintro e w1 ⟨rfl,rfl⟩)
 go_ret2;exact⟨rfl,hB⟩
theorem zW (k:Int) (t u:Nat) (d:ByteArray) (ht:t<=9) (hu:u<=2000000) (hs:d.size<=28) (w:World):
  Calls p_ 149 #[.agg #[.int .i64 k,.int .i64 t,.int .i64 u,.string d]] w fun e w'=>e=.returned (.tuple #[.string (dA t u d),.int .i64 0])/\Below w.heap.size w w':=by
 have hB:=a_ w (o_ #[.int .i64 k,.int .i64 t,.int .i64 u,.string d] 99);have ea:(decB t).size<=7:=by rw[Lib.size_eq,eM];exact eQ _ (by omega)
 have eb:(decB u).size<=7:=by rw[Lib.size_eq,eM];exact eQ _ (by omega)
 unfold dA;have HA:=fun w'=>hide (iD t w' (by omega));have HC:=fun w'=>hide (iD u w' (by omega));generalize decB t=A at *;generalize decB u=D at *
 all_goals
  go_enter Tryz.func149,Tryz.ntmps149;go_wp2_with (go_at_call 108;refine(rC _ _).mono ?_;rintro e w1 ⟨rfl,rfl⟩)
  have nS:=OnW.some (w.alloc (o_ #[.int .i64 k,.int .i64 t,.int .i64 u,.string d] 99));have n0:∀ z:OnW (w.alloc (o_ #[.int .i64 k,.int .i64 t,.int .i64 u,.string d] 99)),z.w.cell? ⟨w.heap.size,1,none⟩=some (i_ .i64 t):=fun z=>z.cell (by simp);have n1:∀ z:OnW (w.alloc (o_ #[.int .i64 k,.int .i64 t,.int .i64 u,.string d] 99)),z.w.cell? ⟨w.heap.size,2,none⟩=some (i_ .i64 u):=fun z=>z.cell (by simp);have n2:∀ z:OnW (w.alloc (o_ #[.int .i64 k,.int .i64 t,.int .i64 u,.string d] 99)),z.w.cell? ⟨w.heap.size,3,none⟩=some (v_ d):=fun z=>z.cell (by simp);refine dE (by kernel_rfl) (by kernel_rfl) ?_
  repeat (go_big_quiet_step ((first
   | (go_at_call_of 96 (i_ .i64 (t:Int));exact fF ((HA _).out))
   | (go_at_call_of 96 (i_ .i64 (u:Int));exact fF ((HC _).out)))))
  refine wpQuiet_nil ?_;intro w3 hw3;replace hw3:=jG hw3;replace hB:=aB hB (n_ _) hw3;go_wp2;go_ret2;exact⟨rfl,hB⟩
theorem tT (k t u:Int) (d:ByteArray) (w:World) (h:(t<0∨9<t)∨(0<=t/\t<=9/\((u<0∨2000000<u)∨(0<=u/\u<=2000000/\28<d.size)))):
  Calls p_ 149 #[.agg #[.int .i64 k,.int .i64 t,.int .i64 u,.string d]] w fun e w'=>e=.returned (.tuple #[.string ⟨#[]⟩,.int .i64 1])/\Below w.heap.size w w':=by
 have hB:=a_ w (o_ #[.int .i64 k,.int .i64 t,.int .i64 u,.string d] 99);have h4:t<0∨(0<=t/\9<t)∨(0<=t/\t<=9/\u<0)∨(0<=t/\t<=9/\0<=u/\2000000<u)∨(0<=t/\t<=9/\0<=u/\u<=2000000/\(28:Int)<(d.size:Int)):=by omega
 rcases h4 with h|⟨h,h'⟩|⟨h,h',h2⟩|⟨h,h',h2,h3⟩|⟨h,h',h2,h3,h4⟩
 all_goals
  go_enter Tryz.func149,Tryz.ntmps149;go_wp2;go_ret2;exact⟨rfl,hB⟩
theorem zAo (x y:Int) (d:ByteArray) (hd:d.size<=1000):∃ (T:ByteArray) (g:Nat),
  (∀ w,Laid w->Calls p_ 172 #[.agg #[.int .i64 x,.int .i64 y,.string d]] w fun e w'=>e=.returned (.tuple #[.string T,errV g])/\Below w.heap.size w w')/\
  (∀ w,Calls p_ 211 #[.agg #[.int .i64 x,.int .i64 y,.string d]] w fun e w'=>e=.returned (.tuple #[.string T,.int .i64 g])/\Below w.heap.size w w')/\
  ((g≠0/\T=⟨#[]⟩)∨(g=0/\∃ n t:Nat,x=n/\y=t/\pO n t d/\T=dA n t d)):=by
 by_cases hb:(x<0∨999999<x)∨(0<=x/\x<=999999/\(y<1∨9<y))
 ·exact⟨⟨#[]⟩,1,fun w _=>qA x y d w hb,fun w=>xK x y d w hb,.inl ⟨by decide,rfl⟩⟩
 ·obtain⟨n,rfl⟩:=Int.eq_ofNat_of_zero_le (show 0<=x by omega);obtain⟨t,rfl⟩:=Int.eq_ofNat_of_zero_le (show 0<=y by omega);have hok:d.toList.isEmpty=true∨(d.toList.isEmpty=false/\bK d.data.toList=true)∨(d.toList.isEmpty=false/\bK d.data.toList=false):=by
   cases d.toList.isEmpty<;>cases bK d.data.toList<;>simp
  rcases hok with h|h|h
  ·exact⟨_,0,fun w hL=>kH n t d w (by omega) (by omega) (by omega) (.inl h) hd hL.tab,fun w=>tH n t d (by omega) (by omega) (by omega) (.inl h) hd w,.inr ⟨rfl,n,t,rfl,rfl,⟨by omega,by omega,by omega,.inl h⟩,rfl⟩⟩
  ·exact⟨_,0,fun w hL=>kH n t d w (by omega) (by omega) (by omega) (.inr h) hd hL.tab,fun w=>tH n t d (by omega) (by omega) (by omega) (.inr h) hd w,.inr ⟨rfl,n,t,rfl,rfl,⟨by omega,by omega,by omega,.inr h⟩,rfl⟩⟩
  ·exact⟨⟨#[]⟩,3,fun w _=>qO n t d w (by omega) (by omega) (by omega) (by omega) h.1 h.2,fun w=>xF n t d w (by omega) (by omega) (by omega) (by omega) h.1 h.2,.inl ⟨by decide,rfl⟩⟩
theorem xW (k x y:Int) (d:ByteArray) (hd:d.size<=1000):∃ (T:ByteArray) (g:Nat),
  (∀ w,Laid w->Calls p_ 213 #[.agg #[.int .i64 k,.int .i64 x,.int .i64 y,.string d]] w fun e w'=>e=.returned (.tuple #[.string T,errV g])/\Below w.heap.size w w')/\
  (∀ w,Calls p_ 149 #[.agg #[.int .i64 k,.int .i64 x,.int .i64 y,.string d]] w fun e w'=>e=.returned (.tuple #[.string T,.int .i64 g])/\Below w.heap.size w w')/\
  ((g≠0/\T=⟨#[]⟩)∨(g=0/\∃ t u:Nat,x=t/\y=u/\oX t u d/\T=dA t u d)):=by
 by_cases hb:(x<0∨9<x)∨(0<=x/\x<=9/\((y<0∨2000000<y)∨(0<=y/\y<=2000000/\28<d.size)))
 ·exact⟨⟨#[]⟩,1,fun w _=>oL k x y d w hb,fun w=>tT k x y d w hb,.inl ⟨by decide,rfl⟩⟩
 ·obtain⟨t,rfl⟩:=Int.eq_ofNat_of_zero_le (show 0<=x by omega);obtain⟨u,rfl⟩:=Int.eq_ofNat_of_zero_le (show 0<=y by omega);exact⟨_,0,fun w hL=>nE k t u d w (by omega) (by omega) (by omega) hL.tab,fun w=>zW k t u d (by omega) (by omega) (by omega) w,.inr ⟨rfl,t,u,rfl,rfl,⟨by omega,by omega,by omega⟩,rfl⟩⟩
theorem bJ {g:Nat} (h:g≠0):errV g=.iface 114 (.int .i64 g):=by unfold errV;rw[if_neg h]
def mO (x y:Int) (d:ByteArray):ByteArray×Nat:=
 if 0<=x/\x<=999999/\1<=y/\y<=9 then if d.toList.isEmpty || bK d.data.toList then (dA x.toNat y.toNat d,0) else (⟨#[]⟩,3) else (⟨#[]⟩,1)
def nD (x y:Int) (d:ByteArray):ByteArray×Nat:=
 if 0<=x/\x<=9/\0<=y/\y<=2000000/\d.size<=28 then (dA x.toNat y.toNat d,0) else (⟨#[]⟩,1)
def zDj (l:List UInt8):List UInt8:=(l.dropWhile fun c=>decide (c≠32)).drop 1
def zHT (l:List UInt8):Nat:=valL (l.takeWhile fun c=>decide (c≠32))
def wX (s:ByteArray):Nat×Nat×ByteArray:=(zHT s.data.toList,zHT (zDj s.data.toList),⟨(zDj (zDj s.data.toList)).toArray⟩)
theorem zNL (n:Nat) (l:List UInt8):zHT (Lib.decDigits n++32::l)=n:=by
 unfold zHT;rw[List.takeWhile_append_of_pos (fun c hc=>by simpa using zNu n c hc),List.takeWhile_cons_of_neg (by simp),List.append_nil,zOt]
theorem zHQ (n:Nat) (l:List UInt8):zDj (Lib.decDigits n++32::l)=l:=by
 unfold zDj;rw[List.dropWhile_append_of_pos (fun c hc=>by simpa using zNu n c hc),List.dropWhile_cons_of_neg (by simp)];rfl
theorem zGT (a b:Nat) (r:ByteArray):wX (dA a b r)=(a,b,r):=by
 unfold wX;rw[vQ,zNL,zHQ,zNL,zHQ,Array.toArray_toList]
def zD0 (x:Nat×Nat×ByteArray):Bool:=decide (x.1<=999999)&&decide (1<=x.2.1)&&decide (x.2.1<=9)&&(x.2.2.toList.isEmpty || bK x.2.2.data.toList)
def zCV (x:Nat×Nat×ByteArray):Bool:=decide (x.1<=9)&&decide (x.2.1<=2000000)&&decide (x.2.2.size<=28)
theorem zDV (n t:Nat) (d:ByteArray):zD0 (n,t,d)=true↔pO n t d:=by
 unfold zD0 pO;cases h:d.toList.isEmpty<;>simp[and_assoc]
theorem zCf (n t:Nat) (d:ByteArray):zCV (n,t,d)=true↔oX n t d:=by
 unfold zCV oX;simp[and_assoc]
def qOf (s:ByteArray):Int×Int×ByteArray×Nat:=
 if zD0 (wX s)=true/\s=dA (wX s).1 (wX s).2.1 (wX s).2.2 then (((wX s).1:Int),((wX s).2.1:Int),(wX s).2.2,0) else (0,0,⟨#[]⟩,4)
def mOf (s:ByteArray) (k:Int):Int×Int×Int×ByteArray×Nat:=
 if zCV (wX s)=true/\s=dA (wX s).1 (wX s).2.1 (wX s).2.2 then (k,((wX s).1:Int),((wX s).2.1:Int),(wX s).2.2,0) else (0,0,0,⟨#[]⟩,4)
theorem zFC (x y:Int) (d:ByteArray) (hd:d.size<=1000) (w:World) (hL:Laid w):Calls p_ 172 #[.agg #[.int .i64 x,.int .i64 y,.string d]] w fun e w'=>e=.returned (.tuple #[.string (mO x y d).1,errV (mO x y d).2])/\Below w.heap.size w w':=by
 unfold mO;split
 ·rename_i h;obtain⟨n,rfl⟩:=Int.eq_ofNat_of_zero_le (show 0<=x by omega);obtain⟨t,rfl⟩:=Int.eq_ofNat_of_zero_le (show 0<=y by omega)
  cases h1:d.toList.isEmpty with
  | true=>exact kH n t d w (by omega) (by omega) (by omega) (.inl h1) hd hL.tab
  | false=>
   cases h2:bK d.data.toList with
   | true=>exact kH n t d w (by omega) (by omega) (by omega) (.inr ⟨h1,h2⟩) hd hL.tab
   | false=>exact qO n t d w (by omega) (by omega) (by omega) (by omega) h1 h2
 ·exact qA x y d w (by omega)
theorem zG0 (k x y:Int) (d:ByteArray) (w:World) (hL:Laid w):Calls p_ 213 #[.agg #[.int .i64 k,.int .i64 x,.int .i64 y,.string d]] w fun e w'=>e=.returned (.tuple #[.string (nD x y d).1,errV (nD x y d).2])/\Below w.heap.size w w':=by
 unfold nD;split
 ·rename_i h;obtain⟨n,rfl⟩:=Int.eq_ofNat_of_zero_le (show 0<=x by omega);obtain⟨t,rfl⟩:=Int.eq_ofNat_of_zero_le (show 0<=y by omega);exact nE k n t d w (by omega) (by omega) (by omega) hL.tab
 ·exact oL k x y d w (by omega)
theorem vE (s:ByteArray):(∃ (n t:Nat) (d:ByteArray),qOf s=((n:Int),(t:Int),d,0)/\pO n t d/\s=dA n t d)∨(qOf s=(0,0,⟨#[]⟩,4)/\∀ n t d,pO n t d->s≠dA n t d):=by
 unfold qOf;split
 ·rename_i h;exact .inl ⟨_,_,_,rfl,(zDV _ _ _).1 h.1,h.2⟩
 ·rename_i h;refine .inr ⟨rfl,fun n t d hq e=>h ?_⟩;rw[e,zGT];exact⟨(zDV n t d).2 hq,rfl⟩
theorem oB (s:ByteArray) (k:Int):(∃ (t u:Nat) (d:ByteArray),mOf s k=(k,(t:Int),(u:Int),d,0)/\oX t u d/\s=dA t u d)∨(mOf s k=(0,0,0,⟨#[]⟩,4)/\∀ t u d,oX t u d->s≠dA t u d):=by
 unfold mOf;split
 ·rename_i h;exact .inl ⟨_,_,_,rfl,(zCf _ _ _).1 h.1,h.2⟩
 ·rename_i h;refine .inr ⟨rfl,fun n t d hq e=>h ?_⟩;rw[e,zGT];exact⟨(zCf n t d).2 hq,rfl⟩
theorem zDD {n t:Nat} {d:ByteArray} (hq:pO n t d):d.size<=6:=by
 rcases hq.2.2.2 with h|h
 ·rw[Lib.size_eq,<-Lib.toList_data,List.isEmpty_iff.1 h];simp
 ·exact zBk h.2
theorem zLt (s:ByteArray) (hs:s.size<=100) (w:World) (hL:Laid w):Calls p_ 152 #[.string s] w fun e w'=>e=.returned (.tuple #[.agg #[.int .i64 (qOf s).1,.int .i64 (qOf s).2.1,.string (qOf s).2.2.1],errV (qOf s).2.2.2])/\Below w.heap.size w w':=by
 rcases vE s with⟨n,t,d,e,hq,rfl⟩|⟨e,hno⟩
 ·rw[e];exact yV n t d w hq.1 hq.2.1 hq.2.2.1 hq.2.2.2 (by have:=zDD hq;omega) hL.tab
 ·rw[e];obtain⟨x,y,r,hr,hsp⟩:=wP s (by omega);obtain⟨T,g,h1,_,h3⟩:=zAo x y r hr;rcases h3 with⟨hg,rfl⟩|⟨rfl,n,t,rfl,rfl,hq,rfl⟩
  ·rw[bJ hg] at h1;exact zAn s x y r g w hL hsp h1
  ·exact zCh s n t r _ (fun e=>hno n t r hq (gV e).symm) w hL hsp h1
theorem zDb (s:ByteArray) (k:Int) (hs:s.size<=100) (w:World) (hL:Laid w):Calls p_ 177 #[.int .i64 k,.string s] w fun e w'=>e=.returned (.tuple #[.agg #[.int .i64 (mOf s k).1,.int .i64 (mOf s k).2.1,.int .i64 (mOf s k).2.2.1,.string (mOf s k).2.2.2.1],errV (mOf s k).2.2.2.2])/\Below w.heap.size w w':=by
 rcases oB s k with⟨t,u,d,e,hq,rfl⟩|⟨e,hno⟩
 ·rw[e];exact vV k t u d w hq.1 hq.2.1 hq.2.2 hL.tab
 ·rw[e];obtain⟨x,y,r,hr,hsp⟩:=wP s (by omega);obtain⟨T,g,h1,_,h3⟩:=xW k x y r hr;rcases h3 with⟨hg,rfl⟩|⟨rfl,t,u,rfl,rfl,hq,rfl⟩
  ·rw[bJ hg] at h1;exact xZ s k x y r g w hL hsp h1
  ·exact zP s k t u r _ (fun e=>hno t u r hq (gV e).symm) w hL hsp h1
end
section
open Go.RowKit Go.Joins Go.Shelf
theorem zHC {l:List Chg} {key:ByteArray} {c:Chg} (h:qB l key=some c):c∈l:=by
 unfold qB at h;split at h
 ·exact List.mem_of_getElem? h
 ·cases h
theorem zMo (l:Rws) (key:ByteArray):valR l key=(⟨#[]⟩,false)∨∃ r∈l,valR l key=(r.2,true):=by
 unfold valR;split
 ·rename_i r h;exact .inr ⟨r,List.mem_of_find?_eq_some h,rfl⟩
 ·exact .inl rfl
theorem uU {P:Rws} {chs:List Chg} (h:OkQ P chs) (rds:Rws) (key:ByteArray):(getP chs rds P key).1.size<=40:=by
 unfold getP;split
 ·split
  ·rename_i c hc;exact(h.ck c (zHC hc)).2
  ·split
   ·rcases zMo P key with e|⟨r,hr,e⟩
    ·rw[e];exact Nat.zero_le _
    ·rw[e];exact(h.rk r hr).2
   ·exact Nat.zero_le _
 ·exact Nat.zero_le _
theorem zMy {l:Rws} {c:Chg} {r:ByteArray×ByteArray} (h:r∈layR l c):r∈l∨r=(c.key,c.val):=by
 unfold layR at h;rcases List.mem_append.1 h with h|h
 ·rcases List.mem_append.1 h with h|h
  ·exact .inl (List.mem_of_mem_take h)
  ·split at h
   ·simp at h
   ·simp at h;exact .inr h
 ·exact .inl (List.mem_of_mem_drop h)
theorem tB {P:Rws} {chs:List Chg} (h:OkQ P chs) (s:ByteArray×ByteArray):∀ r∈aF P chs s,keyL r.1.data.toList=true/\r.2.size<=40:=by
 have gen:∀ (cs:List Chg) (l:Rws),(∀ r∈l,keyL r.1.data.toList=true/\r.2.size<=40)->(∀ c∈cs,keyL c.key.data.toList=true/\c.val.size<=40)->∀ r∈gP l s cs,keyL r.1.data.toList=true/\r.2.size<=40:=by
  intro cs
  induction cs with
  | nil=>intro l hl _ r hr;exact hl r hr
  | cons c cs ih=>
   intro l hl hc r hr;have e:gP l s (c::cs)=gP (if hasS s.1 s.2 c.key then layR l c else l) s cs:=rfl;rw[e] at hr;refine ih _ ?_ (fun x hx=>hc x (List.mem_cons_of_mem _ hx)) r hr;intro x hx;split at hx
   ·rcases zMy hx with h|rfl
    ·exact hl x h
    ·exact hc c (List.mem_cons_self ..)
   ·exact hl x hx
 exact gen chs _ (fun r hr=>h.rk r (List.mem_filter.1 hr).1) h.ck
structure QV (w:World) (B wb:Nat) (S:Nat->Prop) (P:Rws) (since:Sn) (chs:List Chg) (rds:Rws):Prop where
 pv:PV w B wb S P since chs rds
 ok:OkQ P chs
 la:∀ W,Below B w W->Laid W
def ActQ (w w':World) (B wb:Nat) (S:Nat->Prop) (P:Rws) (since:Sn) (chs:List Chg) (rds:Rws):Prop:=∃ S',QV w' B wb S' P since chs rds/\aG w w' B S S'
section
variable {w w':World} {B wb:Nat} {S:Nat->Prop} {P:Rws} {since:Sn} {chs chs':List Chg} {rds rds':Rws}
theorem QV.laid (h:QV w B wb S P since chs rds):Laid w:=h.la w (r_ _ _)
theorem QV.on (h:QV w B wb S P since chs rds) (hb:Below w.heap.size w w'):QV w' B wb S P since chs rds:=⟨h.pv.on hb,h.ok,fun W hW=>h.la W ((hb.mono h.pv.lo).trans hW)⟩
theorem QV.act (h:QV w B wb S P since chs rds) (hk:OkQ P chs') (ha:ActV w w' B wb S P since chs' rds'):ActQ w w' B wb S P since chs' rds':=by
 obtain⟨S',hp,hs⟩:=ha;exact⟨S',⟨hp,hk,fun W hW=>h.la W (hs.bel.trans hW)⟩,hs⟩
theorem QV.pre {w1:World} (h:QV w B wb S P since chs rds) (hb:Below w.heap.size w w1) (ha:ActQ w1 w' B wb S P since chs' rds'):ActQ w w' B wb S P since chs' rds':=by
 obtain⟨S',hp,hs⟩:=ha;exact⟨S',hp,(aG.on h.pv.lo hb).trans hs⟩
theorem ActQ.post {w1:World} (ha:ActQ w w1 B wb S P since chs' rds') (hb:Below w1.heap.size w1 w'):ActQ w w' B wb S P since chs' rds':=by
 obtain⟨S',hp,hs⟩:=ha;exact⟨S',hp.on hb,hs.trans (.on hp.pv.lo hb)⟩
end
theorem ActQ.after {w w1 w2:World} {B wb:Nat} {S S1:Nat->Prop} {P:Rws} {since:Sn} {chs:List Chg} {rds:Rws} (hs:aG w w1 B S S1) (ha:ActQ w1 w2 B wb S1 P since chs rds):ActQ w w2 B wb S P since chs rds:=by
 obtain⟨S2,hq,h2⟩:=ha;exact⟨S2,hq,hs.trans h2⟩
structure BoxQ (w w2:World) (B wb bx:Nat) (S S':Nat->Prop) (P:Rws) (since:Sn) (chs:List Chg) (rds:Rws):Prop where
 qv:QV w2 B wb S' P since chs rds
 st:aG w w2 B S S'
 nb:¬S' bx
 lo:w.heap.size<=bx
 hi:bx<w2.heap.size
 fz:∀ j,w2.frozen? ⟨bx,j,none⟩=false
section
variable {w w1 w2:World} {B wb bx:Nat} {S S':Nat->Prop} {P:Rws} {since:Sn} {chs chs':List Chg} {rds rds':Rws}
theorem BoxQ.start (h:QV w B wb S P since chs rds) (vs:Array Value) (t:TypeId):BoxQ w (w.alloc (.cells vs t)) B wb w.heap.size S S P since chs rds:=
 have hb:=a_ w (.cells vs t)
 ⟨h.on hb,.on h.pv.lo hb,fun e=>by have:=h.pv.lt e;omega,n_ _,by simp,fun j=>aQ _ _ _ j⟩
theorem BoxQ.on (h:BoxQ w w1 B wb bx S S' P since chs rds) (hb:Below w1.heap.size w1 w2):BoxQ w w2 B wb bx S S' P since chs rds:=
 ⟨h.qv.on hb,h.st.trans (.on h.qv.pv.lo hb),h.nb,h.lo,Nat.lt_of_lt_of_le h.hi hb.size,fun j=>aE hb h.hi (h.fz j)⟩
theorem BoxQ.act (h:BoxQ w w1 B wb bx S S' P since chs rds) (ha:ActQ w1 w2 B wb S' P since chs' rds'):∃ S2,BoxQ w w2 B wb bx S S2 P since chs' rds'/\w2.heap[bx]?=w1.heap[bx]?:=by
 obtain⟨S2,hq,hs⟩:=ha;obtain⟨e,n⟩:=hs.far bx h.hi h.nb;exact⟨S2,⟨hq,h.st.trans hs,n,h.lo,Nat.lt_of_lt_of_le h.hi hs.bel.size,fun j=>(World.frozen?_of_block (w:=w1) e).trans (h.fz j)⟩,e⟩
theorem BoxQ.set (h:BoxQ w w1 B wb bx S S' P since chs rds) (hB:B<=w.heap.size) (j:Nat) (v:Value):BoxQ w (w1.setCell ⟨bx,j,none⟩ v) B wb bx S S' P since chs rds:=by
 have hs:∀ k,k≠bx->(w1.setCell ⟨bx,j,none⟩ v).heap[k]?=w1.heap[k]?:=fun k hk=>h_ _ _ _ _ hk;have hl:=h.lo;refine⟨⟨h.qv.pv.kept (by simp) fun k hk=>hs k fun e=>h.nb (e▸hk),h.qv.ok,fun W hW=>h.qv.la W (((r_ B w1).setCell (p:=⟨bx,j,none⟩) (by show B<=bx;omega) v).trans hW)⟩,⟨h.st.bel.setCell (p:=⟨bx,j,none⟩) (by show B<=bx;omega) v,fun k hk hn=>?_⟩,h.nb,h.lo,by simpa using h.hi,fun k=>by rw[World.frozen?_setCell];exact h.fz k⟩;obtain⟨a,b⟩:=h.st.far k hk hn;exact⟨(hs k (by omega)).trans a,b⟩
theorem BoxQ.done (h:BoxQ w w1 B wb bx S S' P since chs rds):ActQ w w1 B wb S P since chs rds:=⟨S',h.qv,h.st⟩
end
theorem zCM (key val:ByteArray) {B wb:Nat} {S:Nat->Prop} {P:Rws} {since:Sn} {chs:List Chg} {rds:Rws} (w:World) (h:QV w B wb S P since chs rds) (hk:key.size<=maxLen):
  Calls p_ 47 #[.pointer (some ⟨wb,0,none⟩),.string key,.string val] w fun e w'=>e=.returned (errV (cH chs ⟨key,val,false⟩))/\ActQ w w' B wb S P since (bG chs ⟨key,val,false⟩) rds:=
 (zIB key val w h.pv hk lD).mono fun _ _ ⟨he,ha⟩=>⟨he,h.act (h.ok.alter _) ha⟩
theorem uA (key:ByteArray) {B wb:Nat} {S:Nat->Prop} {P:Rws} {since:Sn} {chs:List Chg} {rds:Rws} (w:World) (h:QV w B wb S P since chs rds) (hk:key.size<=maxLen):
  Calls p_ 86 #[.pointer (some ⟨wb,0,none⟩),.string key] w fun e w'=>e=.returned (errV (cH chs ⟨key,⟨#[]⟩,true⟩))/\ActQ w w' B wb S P since (bG chs ⟨key,⟨#[]⟩,true⟩) rds:=
 (zHv key w h.pv hk lD).mono fun _ _ ⟨he,ha⟩=>⟨he,h.act (h.ok.alter _) ha⟩
theorem zCw (key:ByteArray) {B wb:Nat} {S:Nat->Prop} {P:Rws} {since:Sn} {chs:List Chg} {rds:Rws} (w:World) (h:QV w B wb S P since chs rds) (hk:key.size<=maxLen):
  Calls p_ 44 #[.pointer (some ⟨wb,0,none⟩),.string key] w fun e w'=>e=.returned (.tuple #[.string (getP chs rds P key).1,.bool (getP chs rds P key).2.1,errV (getP chs rds P key).2.2])/\ActQ w w' B wb S P since chs (getL chs rds key):=
 (zMZ key w h.pv hk).mono fun _ _ ⟨he,ha⟩=>⟨he,h.act h.ok ha⟩
end
section
open Go.RowKit Go.Joins Go.Shelf
attribute [local go_sem ↓] Go.wp_at_zero Go.wp_at_succ
def aN (P:Rws) (chs:List Chg) (rds:Rws) (name:ByteArray):Int×Int×ByteArray×Nat:=
 if bK name.data.toList then
  if (getP chs rds P (queB name)).2.2=0 then
   if (getP chs rds P (queB name)).2.1 then qOf (getP chs rds P (queB name)).1 else (0,0,⟨#[]⟩,5)
  else (0,0,⟨#[]⟩,(getP chs rds P (queB name)).2.2)
 else (0,0,⟨#[]⟩,3)
def bC (chs:List Chg) (rds:Rws) (name:ByteArray):Rws:=if bK name.data.toList then getL chs rds (queB name) else rds
abbrev qV (x:Int×Int×ByteArray×Nat):Value:=.agg #[.int .i64 x.1,.int .i64 x.2.1,.string x.2.2.1]
theorem zA6 (s:ByteArray):(queB s).size=s.size+2:=by
 have:=congrArg List.length (zMT s);simp at this;exact this
theorem kK (name:ByteArray) {B wb:Nat} {S:Nat->Prop} {P:Rws} {since:Sn} {chs:List Chg} {rds:Rws} (w:World) (h:QV w B wb S P since chs rds) (hn:name.size<=1000):
  Calls p_ 83 #[.pointer (some ⟨wb,0,none⟩),.string name] w fun e w'=>e=.returned (.tuple #[qV (aN P chs rds name),errV (aN P chs rds name).2.2.2])/\ActQ w w' B wb S P since chs (bC chs rds name):=by
 have HX:=hide (BoxQ.start h #[i_ .i64 0,i_ .i64 0,v_ ⟨#[]⟩] 145);have HLO:=hide h.pv.lo;have hqs:(queB name).size<=maxLen:=by rw[zA6];unfold maxLen;omega
 have HGS:=hide (uU h.ok rds (queB name));have n1:=bM 114;clear h
 cases hnm:bK name.data.toList with
 | false=>
  have eF:aN P chs rds name=(0,0,⟨#[]⟩,3):=by unfold aN;rw[hnm];rfl
  have eL:bC chs rds name=rds:=by unfold bC;rw[hnm];rfl
  rw[eF,eL];have HNM:=hide hnm;clear hnm eF eL;go_enter Tryz.func83,Tryz.ntmps83;go_wp2_with (first
   | (go_at_call 150;refine(kM name _).mono ?_;rintro e w1 ⟨rfl,rfl⟩;rw[HNM.out])
   | fail)
  exact bodyPost_ret (v:=.tuple #[qV (0,0,⟨#[]⟩,3),errV 3]) (by simp[errV,results,Tryz.results83,go_sem]) rfl ⟨rfl,HX.out.done⟩
 | true=>
  have eL:bC chs rds name=getL chs rds (queB name):=by unfold bC;rw[hnm];rfl
  have eF:aN P chs rds name=if (getP chs rds P (queB name)).2.2=0 then (if (getP chs rds P (queB name)).2.1 then qOf (getP chs rds P (queB name)).1 else (0,0,⟨#[]⟩,5)) else (0,0,⟨#[]⟩,(getP chs rds P (queB name)).2.2):=by unfold aN;rw[hnm];rfl
  rw[eF,eL];have HNM:=hide hnm;clear hnm eF eL;have HGT:=hide (fun W hW=>zCw (queB name) (B:=B) (wb:=wb) (S:=S) (P:=P) (since:=since) (chs:=chs) (rds:=rds) W hW hqs);generalize getP chs rds P (queB name)=gp at *;obtain⟨tx,is,er⟩:=gp;have r0:(w.alloc (o_ #[.int .i64 0,.int .i64 0,.string ⟨#[]⟩] 145)).cell? ⟨w.heap.size,0,none⟩=some (i_ .i64 0):=by simp
  have r1:(w.alloc (o_ #[.int .i64 0,.int .i64 0,.string ⟨#[]⟩] 145)).cell? ⟨w.heap.size,1,none⟩=some (i_ .i64 0):=by simp
  have r2:(w.alloc (o_ #[.int .i64 0,.int .i64 0,.string ⟨#[]⟩] 145)).cell? ⟨w.heap.size,2,none⟩=some (v_ ⟨#[]⟩):=by simp
  by_cases h0:er=0
  ·subst h0
   cases is with
   | false=>
    rw[if_pos rfl,if_neg (by simp)];go_enter Tryz.func83,Tryz.ntmps83;go_wp2_with (first
     | (go_at_call 150;refine(kM name _).mono ?_;rintro e w1 ⟨rfl,rfl⟩;rw[HNM.out])
     | (go_at_call 151;refine(qZ name _ (by omega)).mono ?_;rintro e w1 ⟨rfl,rfl⟩)
     | (go_at_call 44;refine(HGT.out _ HX.out.qv).mono ?_;rintro e w2 ⟨rfl,ha⟩;obtain⟨S2,hx2,eb⟩:=HX.out.act ha;have HX2:=hide hx2;have fz:=hx2.fz;replace r0:=(b_ eb).trans r0;replace r1:=(b_ eb).trans r1;replace r2:=(b_ eb).trans r2;clear ha hx2 eb;rw[show errV 0=Value.nilIface from rfl])
     | fail)
    exact bodyPost_ret (v:=.tuple #[qV (0,0,⟨#[]⟩,5),errV 5]) (by simp[errV,results,Tryz.results83,go_sem,r0,r1,r2]) rfl ⟨rfl,(((HX2.out.set HLO.out 0 _).set HLO.out 1 _).set HLO.out 2 _).done⟩
   | true=>
    rw[if_pos rfl,if_pos rfl];go_enter Tryz.func83,Tryz.ntmps83;go_wp2_with (first
     | (go_at_call 150;refine(kM name _).mono ?_;rintro e w1 ⟨rfl,rfl⟩;rw[HNM.out])
     | (go_at_call 151;refine(qZ name _ (by omega)).mono ?_;rintro e w1 ⟨rfl,rfl⟩)
     | (go_at_call 44;refine(HGT.out _ HX.out.qv).mono ?_;rintro e w2 ⟨rfl,ha⟩;obtain⟨S2,hx2,eb⟩:=HX.out.act ha;have HX2:=hide hx2;have fz:=hx2.fz;replace r0:=(b_ eb).trans r0;replace r1:=(b_ eb).trans r1;replace r2:=(b_ eb).trans r2;clear ha hx2 eb;rw[show errV 0=Value.nilIface from rfl])
     | (go_at_call 152;refine(zLt tx (by have:=HGS.out;omega) _ HX2.out.qv.laid).mono ?_;rintro e w3 ⟨rfl,hb3⟩;have HX3:=hide (HX2.out.on hb3);have fz3:=(HX2.out.on hb3).fz;replace r0:=aA hb3 r0;replace r1:=aA hb3 r1;replace r2:=aA hb3 r2;clear hb3)
     | fail)
    exact bodyPost_ret (v:=.tuple #[qV (qOf tx),errV (qOf tx).2.2.2]) (by simp[errV,results,Tryz.results83,go_sem,r0,r1,r2]) rfl ⟨rfl,(((HX3.out.set HLO.out 0 _).set HLO.out 1 _).set HLO.out 2 _).done⟩
  ·rw[if_neg h0,bJ h0];have HER:=hide (bJ h0);clear h0;go_enter Tryz.func83,Tryz.ntmps83;go_wp2_with (first
    | (go_at_call 150;refine(kM name _).mono ?_;rintro e w1 ⟨rfl,rfl⟩;rw[HNM.out])
    | (go_at_call 151;refine(qZ name _ (by omega)).mono ?_;rintro e w1 ⟨rfl,rfl⟩)
    | (go_at_call 44;refine(HGT.out _ HX.out.qv).mono ?_;rintro e w2 ⟨rfl,ha⟩;obtain⟨S2,hx2,eb⟩:=HX.out.act ha;have HX2:=hide hx2;have fz:=hx2.fz;replace r0:=(b_ eb).trans r0;replace r1:=(b_ eb).trans r1;replace r2:=(b_ eb).trans r2;clear ha hx2 eb;rw[HER.out])
    | fail)
   exact bodyPost_ret (v:=.tuple #[qV (0,0,⟨#[]⟩,er),.iface 114 (.int .i64 er)]) (by simp[results,Tryz.results83,go_sem,r0,r1,r2]) rfl ⟨rfl,(((HX2.out.set HLO.out 0 _).set HLO.out 1 _).set HLO.out 2 _).done⟩
def rA (chs:List Chg) (name:ByteArray) (x y:Int) (d:ByteArray):Nat:=if (mO x y d).2=0 then cH chs ⟨queB name,(mO x y d).1,false⟩ else (mO x y d).2
def qL (chs:List Chg) (name:ByteArray) (x y:Int) (d:ByteArray):List Chg:=if (mO x y d).2=0 then bG chs ⟨queB name,(mO x y d).1,false⟩ else chs
def mK (chs:List Chg) (name:ByteArray) (k x y:Int) (d:ByteArray):Nat:=if (nD x y d).2=0 then cH chs ⟨msgB name (cP k),(nD x y d).1,false⟩ else (nD x y d).2
def nA (chs:List Chg) (name:ByteArray) (k x y:Int) (d:ByteArray):List Chg:=if (nD x y d).2=0 then bG chs ⟨msgB name (cP k),(nD x y d).1,false⟩ else chs
theorem bX:errV 0=.nilIface:=rfl
theorem oK (name:ByteArray) (x y:Int) (d:ByteArray) {B wb:Nat} {S:Nat->Prop} {P:Rws} {since:Sn} {chs:List Chg} {rds:Rws} (w:World) (h:QV w B wb S P since chs rds) (hn:name.size<=1000) (hd:d.size<=1000):
  Calls p_ 111 #[.pointer (some ⟨wb,0,none⟩),.string name,.agg #[.int .i64 x,.int .i64 y,.string d]] w fun e w'=>e=.returned (errV (rA chs name x y d))/\ActQ w w' B wb S P since (qL chs name x y d) rds:=by
 have HX:=hide (BoxQ.start h #[i_ .i64 x,i_ .i64 y,v_ d] 145);have hqs:(queB name).size<=maxLen:=by rw[zA6];unfold maxLen;omega
 have n1:=bM 114;unfold rA qL;have HT:=hide (fun W hL=>zFC x y d hd W hL);generalize mO x y d=qt at *;obtain⟨tx,er⟩:=qt;dsimp only at HT ⊢;clear h;by_cases h0:er=0
 ·subst h0;rw[if_pos rfl,if_pos rfl];go_enter Tryz.func111,Tryz.ntmps111;go_wp2_with (first
   | (go_at_call 172;refine(HT.out _ HX.out.qv.laid).mono ?_;rintro e w1 ⟨rfl,hb1⟩;have HX1:=hide (HX.out.on hb1);clear hb1;rw[bX])
   | (go_at_call 151;refine(qZ name _ (by omega)).mono ?_;rintro e w2 ⟨rfl,rfl⟩)
   | (go_at_call 47;refine(zCM (queB name) tx _ HX1.out.qv hqs).mono ?_;rintro e w3 ⟨rfl,ha⟩;obtain⟨S2,hx2,_⟩:=HX1.out.act ha;have HX2:=hide hx2;clear ha hx2)
   | fail)
  go_ret;exact⟨rfl,HX2.out.done⟩
 ·rw[if_neg h0,if_neg h0,bJ h0];have HER:=hide (bJ h0);clear h0;go_enter Tryz.func111,Tryz.ntmps111;go_wp2_with (first
   | (go_at_call 172;refine(HT.out _ HX.out.qv.laid).mono ?_;rintro e w1 ⟨rfl,hb1⟩;have HX1:=hide (HX.out.on hb1);clear hb1;rw[HER.out])
   | fail)
  go_ret;exact⟨rfl,HX1.out.done⟩
theorem tD {name:ByteArray} (n:Nat) (h:name.size<=1000):(msgB name n).size<=maxLen:=by rw[pS];unfold maxLen;omega
theorem mI (name:ByteArray) (k x y:Int) (d:ByteArray) {B wb:Nat} {S:Nat->Prop} {P:Rws} {since:Sn} {chs:List Chg} {rds:Rws} (w:World) (h:QV w B wb S P since chs rds) (hn:name.size<=1000) (hk0:-9223372036854775808<=k) (hk1:k<=9223372036854775807):
  Calls p_ 148 #[.pointer (some ⟨wb,0,none⟩),.string name,.agg #[.int .i64 k,.int .i64 x,.int .i64 y,.string d]] w fun e w'=>e=.returned (errV (mK chs name k x y d))/\ActQ w w' B wb S P since (nA chs name k x y d) rds:=by
 have HX:=hide (BoxQ.start h #[i_ .i64 k,i_ .i64 x,i_ .i64 y,v_ d] 99);have hqs:=tD (name:=name) (cP k) hn;have n1:=bM 114;unfold mK nA;have HT:=hide (fun W hL=>zG0 k x y d W hL);generalize nD x y d=qt at *;obtain⟨tx,er⟩:=qt;dsimp only at HT ⊢;clear h;by_cases h0:er=0
 ·subst h0;rw[if_pos rfl,if_pos rfl];have r0:(w.alloc (o_ #[.int .i64 k,.int .i64 x,.int .i64 y,.string d] 99)).cell? ⟨w.heap.size,0,none⟩=some (i_ .i64 k):=by simp
  go_enter Tryz.func148,Tryz.ntmps148;go_wp2_with (first
   | (go_at_call 213;refine(HT.out _ HX.out.qv.laid).mono ?_;rintro e w1 ⟨rfl,hb1⟩;have HX1:=hide (HX.out.on hb1);replace r0:=aA hb1 r0;clear hb1;rw[bX])
   | (go_at_call 120;refine(iE name k _ (by omega) hk0 hk1 HX1.out.qv.laid.tab).mono ?_;rintro e w2 ⟨rfl,hb2⟩;replace HX1:=hide (HX1.out.on hb2);replace r0:=aA hb2 r0;clear hb2)
   | (go_at_call 47;refine(zCM (msgB name (cP k)) tx _ HX1.out.qv hqs).mono ?_;rintro e w3 ⟨rfl,ha⟩;obtain⟨S2,hx2,_⟩:=HX1.out.act ha;have HX2:=hide hx2;clear ha hx2)
   | fail)
  go_ret;exact⟨rfl,HX2.out.done⟩
 ·rw[if_neg h0,if_neg h0,bJ h0];have HER:=hide (bJ h0);clear h0;go_enter Tryz.func148,Tryz.ntmps148;go_wp2_with (first
   | (go_at_call 213;refine(HT.out _ HX.out.qv.laid).mono ?_;rintro e w1 ⟨rfl,hb1⟩;have HX1:=hide (HX.out.on hb1);clear hb1;rw[HER.out])
   | fail)
  go_ret;exact⟨rfl,HX1.out.done⟩
def qK (f:Nat):Nat:=if f=0 then 6 else if f=5 then 0 else f
theorem zJu (a b:Int) (W:World):(binOp .eql 42 (.iface 114 (.int .i64 a)) (.iface 114 (.int .i64 b))).run p_ W=.ok (.bool (a==b)) W:=by
 kernel_rfl
theorem zDo (name:ByteArray) {B wb:Nat} {S:Nat->Prop} {P:Rws} {since:Sn} {chs:List Chg} {rds:Rws} (w:World) (h:QV w B wb S P since chs rds) (hn:name.size<=1000):
  Calls p_ 110 #[.pointer (some ⟨wb,0,none⟩),.string name] w fun e w'=>e=.returned (errV (qK (aN P chs rds name).2.2.2))/\ActQ w w' B wb S P since chs (bC chs rds name):=by
 have n1:=rD 114;have n2:=zJu;have HQ:=hide h;have HF:=hide (kK name w h hn);clear h;generalize aN P chs rds name=q at *;obtain⟨qx,qy,qd,er⟩:=q;dsimp only at HF ⊢;by_cases h0:er=0
 ·subst h0;go_enter Tryz.func110,Tryz.ntmps110;go_wp2_with (first
   | (go_at_call 83;refine HF.out.mono ?_;rintro e w1 ⟨rfl,ha⟩;have HA:=hide ha;clear ha;rw[bX])
   | fail)
  go_ret;exact⟨rfl,HA.out.post (a_ _ _)⟩
 ·by_cases h5:er=5
  ·subst h5;clear h0;have HER:Hid (errV 5=.iface 114 (.int .i64 5)):=rfl;go_enter Tryz.func110,Tryz.ntmps110;go_wp2_with (first
    | (go_at_call 83;refine HF.out.mono ?_;rintro e w1 ⟨rfl,ha⟩;have HA:=hide ha;clear ha;rw[HER.out])
    | fail)
   go_ret;exact⟨rfl,HA.out.post (a_ _ _)⟩
  ·have em:qK er=er:=by unfold qK;rw[if_neg h0,if_neg h5]
   rw[em,bJ h0];have HER:=hide (bJ h0);have e5:((er:Int)==5)=false:=by simp;omega
   clear h0 h5 em;go_enter Tryz.func110,Tryz.ntmps110;go_wp2_with (first
    | (go_at_call 83;refine HF.out.mono ?_;rintro e w1 ⟨rfl,ha⟩;have HA:=hide ha;clear ha;rw[HER.out])
    | fail)
   go_ret;exact⟨rfl,HA.out.post (a_ _ _)⟩
open Classical in
def fD (P:Rws) (chs:List Chg) (rds:Rws) (name:ByteArray) (tries:Int) (dead:ByteArray):Nat×List Chg×Rws:=
 if qK (aN P chs rds name).2.2.2=0 then
  if eqS dead name=true then (3,chs,bC chs rds name)
  else if dead.toList.isEmpty=true then (rA chs name 0 tries dead,qL chs name 0 tries dead,bC chs rds name)
  else if (aN P chs (bC chs rds name) dead).2.2.2=0 then (rA chs name 0 tries dead,qL chs name 0 tries dead,bC chs (bC chs rds name) dead)
  else ((aN P chs (bC chs rds name) dead).2.2.2,chs,bC chs (bC chs rds name) dead)
 else (qK (aN P chs rds name).2.2.2,chs,bC chs rds name)
theorem zEK (name:ByteArray) (tries:Int) (dead:ByteArray) {B wb:Nat} {S:Nat->Prop} {P:Rws} {since:Sn} {chs:List Chg} {rds:Rws} (w:World) (h:QV w B wb S P since chs rds) (hn:name.size<=1000) (hd:dead.size<=1000):
  Calls p_ 48 #[.pointer (some ⟨wb,0,none⟩),.string name,.int .i64 tries,.string dead] w fun e w'=>e=.returned (errV (fD P chs rds name tries dead).1)/\ActQ w w' B wb S P since (fD P chs rds name tries dead).2.1 (fD P chs rds name tries dead).2.2:=by
 have n1:=bM 114;have HM:=hide (zDo name w h hn);have HF:=hide (fun (S1:Nat->Prop) (W:World) (hW:QV W B wb S1 P since chs (bC chs rds name))=>kK dead W hW hd);unfold fD;clear h;generalize aN P chs (bC chs rds name) dead=q2 at *;generalize qK (aN P chs rds name).2.2.2=f1 at *;generalize hr2:bC chs (bC chs rds name) dead=rds2 at *;generalize bC chs rds name=rds1 at *;obtain⟨qx,qy,qd,er⟩:=q2;dsimp only at HF ⊢;clear hr2;by_cases h1:f1=0
 ·subst h1;rw[if_pos rfl];have HE1:=hide bX
  cases hdn:eqS dead name with
  | true=>
   have hdn':(dead.toList==name.toList)=true:=hdn;rw[if_pos rfl];clear hdn;go_enter Tryz.func48,Tryz.ntmps48;go_wp2_with (first
    | (go_at_call 110;refine HM.out.mono ?_;rintro e w1 ⟨rfl,ha⟩;obtain⟨S1,hq1,hs1⟩:=ha;have HQ1:=hide hq1;have HS1:=hide hs1;clear hq1 hs1;rw[HE1.out])
    | fail)
   go_ret;exact⟨rfl,S1,HQ1.out,HS1.out⟩
  | false=>
   have hdn':(dead.toList==name.toList)=false:=hdn;rw[if_neg (by simp)];clear hdn
   cases hde:dead.toList.isEmpty with
   | true=>
    have hde':(dead.toList==[])=true:=by rw[List.isEmpty_iff.1 hde];rfl
    rw[if_pos rfl];clear hde;go_enter Tryz.func48,Tryz.ntmps48;go_wp2_with (first
     | (go_at_call 110;refine HM.out.mono ?_;rintro e w1 ⟨rfl,ha⟩;obtain⟨S1,hq1,hs1⟩:=ha;have HQ1:=hide hq1;have HS1:=hide hs1;clear hq1 hs1;rw[HE1.out])
     | (go_at_call 111;refine(oK name 0 tries dead _ HQ1.out hn hd).mono ?_;rintro e w3 ⟨rfl,ha⟩;have HA:=hide (ActQ.after HS1.out ha);clear ha)
     | fail)
    go_ret;exact⟨rfl,HA.out⟩
   | false=>
    have hde':(dead.toList==[])=false:=by cases e:dead.toList with|nil=>rw[e] at hde;cases hde|cons a l=>rfl
    rw[if_neg (by simp)];clear hde;by_cases h2:er=0
    ·subst h2;rw[if_pos rfl];have HE2:=hide bX;go_enter Tryz.func48,Tryz.ntmps48;go_wp2_with (first
      | (go_at_call 110;refine HM.out.mono ?_;rintro e w1 ⟨rfl,ha⟩;obtain⟨S1,hq1,hs1⟩:=ha;have HQ1:=hide hq1;have HS1:=hide hs1;clear hq1 hs1;rw[HE1.out])
      | (go_at_call 83;refine(HF.out _ _ HQ1.out).mono ?_;rintro e w2 ⟨rfl,ha⟩;obtain⟨S2,hq2,hs2⟩:=ha;have hbA:=a_ w2 (o_ #[.int .i64 qx,.int .i64 qy,.string qd] 145);have HQ2:=hide (hq2.on hbA);have HS2:=hide ((HS1.out.trans hs2).trans (.on hq2.pv.lo hbA));clear hq2 hs2 hbA;rw[HE2.out])
      | (go_at_call 111;refine(oK name 0 tries dead _ HQ2.out hn hd).mono ?_;rintro e w3 ⟨rfl,ha⟩;have HA:=hide (ActQ.after HS2.out ha);clear ha)
      | fail)
     go_ret;exact⟨rfl,HA.out⟩
    ·rw[if_neg h2];have HE2:=hide (bJ h2);clear h2;go_enter Tryz.func48,Tryz.ntmps48;go_wp2_with (first
      | (go_at_call 110;refine HM.out.mono ?_;rintro e w1 ⟨rfl,ha⟩;obtain⟨S1,hq1,hs1⟩:=ha;have HQ1:=hide hq1;have HS1:=hide hs1;clear hq1 hs1;rw[HE1.out])
      | (go_at_call 83;refine(HF.out _ _ HQ1.out).mono ?_;rintro e w2 ⟨rfl,ha⟩;obtain⟨S2,hq2,hs2⟩:=ha;have hbA:=a_ w2 (o_ #[.int .i64 qx,.int .i64 qy,.string qd] 145);have HQ2:=hide (hq2.on hbA);have HS2:=hide ((HS1.out.trans hs2).trans (.on hq2.pv.lo hbA));clear hq2 hs2 hbA;rw[HE2.out])
      | fail)
     go_ret;exact⟨HE2.out▸rfl,_,HQ2.out,HS2.out⟩
 ·rw[if_neg h1];have HE1:=hide (bJ h1);clear h1;go_enter Tryz.func48,Tryz.ntmps48;go_wp2_with (first
   | (go_at_call 110;refine HM.out.mono ?_;rintro e w1 ⟨rfl,ha⟩;obtain⟨S1,hq1,hs1⟩:=ha;have HQ1:=hide hq1;have HS1:=hide hs1;clear hq1 hs1;rw[HE1.out])
   | fail)
  go_ret;exact⟨HE1.out▸rfl,S1,HQ1.out,HS1.out⟩
abbrev Msg:=Int×Int×Int×ByteArray×Nat
abbrev mV (x:Msg):Value:=.agg #[.int .i64 x.1,.int .i64 x.2.1,.int .i64 x.2.2.1,.string x.2.2.2.1]
abbrev noM (f:Nat):Msg:=(0,0,0,⟨#[]⟩,f)
def yH (t:ByteArray×Bool×Nat) (n tries:Int):Msg:=
 if t.2.2=0 then if t.2.1=true then if (mOf t.1 n).2.2.2.2=0 then if (mOf t.1 n).2.1=tries then mOf t.1 n else noM 11 else noM (mOf t.1 n).2.2.2.2 else noM 11 else noM t.2.2
def dQ (P:Rws) (chs:List Chg) (rds:Rws) (name:ByteArray) (n tries:Int):Msg×Rws:=
 if (aN P chs rds name).2.2.2=0 then
  if n<0∨999999<n∨tries<1 then (noM 1,bC chs rds name)
  else (yH (getP chs (bC chs rds name) P (msgB name (cP n))) n tries,getL chs (bC chs rds name) (msgB name (cP n)))
 else (noM (aN P chs rds name).2.2.2,bC chs rds name)
theorem zBw (name:ByteArray) (n tries:Int) {B wb:Nat} {S:Nat->Prop} {P:Rws} {since:Sn} {chs:List Chg} {rds:Rws} (w:World) (h:QV w B wb S P since chs rds) (hn:name.size<=1000):
  Calls p_ 119 #[.pointer (some ⟨wb,0,none⟩),.string name,.int .i64 n,.int .i64 tries] w fun e w'=>e=.returned (.tuple #[mV (dQ P chs rds name n tries).1,errV (dQ P chs rds name n tries).1.2.2.2.2])/\ActQ w w' B wb S P since chs (dQ P chs rds name n tries).2:=by
 have HX:=hide (BoxQ.start h #[i_ .i64 0,i_ .i64 0,i_ .i64 0,v_ ⟨#[]⟩] 99);have HLO:=hide h.pv.lo;have hqs:=tD (name:=name) (cP n) hn;have n1:=bM 114;have HF:=hide (fun (W:World) (hW:QV W B wb S P since chs rds)=>kK name W hW hn);have HGS:=hide (uU h.ok (bC chs rds name) (msgB name (cP n)));have HGT:=hide (fun (S1:Nat->Prop) (W:World) (hW:QV W B wb S1 P since chs (bC chs rds name))=>zCw (msgB name (cP n)) W hW hqs);have r0:(w.alloc (o_ #[.int .i64 0,.int .i64 0,.int .i64 0,.string ⟨#[]⟩] 99)).cell? ⟨w.heap.size,0,none⟩=some (i_ .i64 0):=by simp
 have r1:(w.alloc (o_ #[.int .i64 0,.int .i64 0,.int .i64 0,.string ⟨#[]⟩] 99)).cell? ⟨w.heap.size,1,none⟩=some (i_ .i64 0):=by simp
 have r2:(w.alloc (o_ #[.int .i64 0,.int .i64 0,.int .i64 0,.string ⟨#[]⟩] 99)).cell? ⟨w.heap.size,2,none⟩=some (i_ .i64 0):=by simp
 have r3:(w.alloc (o_ #[.int .i64 0,.int .i64 0,.int .i64 0,.string ⟨#[]⟩] 99)).cell? ⟨w.heap.size,3,none⟩=some (v_ ⟨#[]⟩):=by simp
 unfold dQ;clear h;generalize aN P chs rds name=q at *;generalize getP chs (bC chs rds name) P (msgB name (cP n))=t at *;generalize getL chs (bC chs rds name) (msgB name (cP n))=rds2 at *;generalize bC chs rds name=rds1 at *;obtain⟨qx,qy,qd,er⟩:=q;dsimp only at HF HGT ⊢;by_cases h1:er=0
 ·subst h1;rw[if_pos rfl];have HE1:=hide bX;by_cases hb:n<0∨999999<n∨tries<1
  ·rw[if_pos hb];by_cases hb1:n<0
   ·have d1:decide (n<0)=true:=by simpa using hb1
    go_enter Tryz.func119,Tryz.ntmps119;go_wp2_with (first
     | (go_at_call 83;refine(HF.out _ HX.out.qv).mono ?_;rintro e w1 ⟨rfl,ha⟩;obtain⟨S1,hx1,eb⟩:=HX.out.act ha;replace r0:=(b_ eb).trans r0;replace r1:=(b_ eb).trans r1;replace r2:=(b_ eb).trans r2;replace r3:=(b_ eb).trans r3;have hbA:=a_ w1 (o_ #[.int .i64 qx,.int .i64 qy,.string qd] 145);replace r0:=aA hbA r0;replace r1:=aA hbA r1;replace r2:=aA hbA r2;replace r3:=aA hbA r3;have HX1:=hide (hx1.on hbA);have fz:=(hx1.on hbA).fz;clear ha hx1 eb hbA;rw[HE1.out])
     | fail)
    exact bodyPost_ret (v:=.tuple #[mV (noM 1),errV 1]) (by simp[errV,results,Tryz.results119,go_sem,r0,r1,r2,r3]) rfl ⟨rfl,((((HX1.out.set HLO.out 0 _).set HLO.out 1 _).set HLO.out 2 _).set HLO.out 3 _).done⟩
   ·have d1:decide (n<0)=false:=by simpa using hb1
    by_cases hb2:999999<n
    ·have d2:decide (999999<n)=true:=by simpa using hb2
     go_enter Tryz.func119,Tryz.ntmps119;go_wp2_with (first
      | (go_at_call 83;refine(HF.out _ HX.out.qv).mono ?_;rintro e w1 ⟨rfl,ha⟩;obtain⟨S1,hx1,eb⟩:=HX.out.act ha;replace r0:=(b_ eb).trans r0;replace r1:=(b_ eb).trans r1;replace r2:=(b_ eb).trans r2;replace r3:=(b_ eb).trans r3;have hbA:=a_ w1 (o_ #[.int .i64 qx,.int .i64 qy,.string qd] 145);replace r0:=aA hbA r0;replace r1:=aA hbA r1;replace r2:=aA hbA r2;replace r3:=aA hbA r3;have HX1:=hide (hx1.on hbA);have fz:=(hx1.on hbA).fz;clear ha hx1 eb hbA;rw[HE1.out])
      | fail)
     exact bodyPost_ret (v:=.tuple #[mV (noM 1),errV 1]) (by simp[errV,results,Tryz.results119,go_sem,r0,r1,r2,r3]) rfl ⟨rfl,((((HX1.out.set HLO.out 0 _).set HLO.out 1 _).set HLO.out 2 _).set HLO.out 3 _).done⟩
    ·have d2:decide (999999<n)=false:=by simpa using hb2
     have hb3:tries<1:=by omega
     have d3:decide (tries<1)=true:=by simpa using hb3
     go_enter Tryz.func119,Tryz.ntmps119;go_wp2_with (first
      | (go_at_call 83;refine(HF.out _ HX.out.qv).mono ?_;rintro e w1 ⟨rfl,ha⟩;obtain⟨S1,hx1,eb⟩:=HX.out.act ha;replace r0:=(b_ eb).trans r0;replace r1:=(b_ eb).trans r1;replace r2:=(b_ eb).trans r2;replace r3:=(b_ eb).trans r3;have hbA:=a_ w1 (o_ #[.int .i64 qx,.int .i64 qy,.string qd] 145);replace r0:=aA hbA r0;replace r1:=aA hbA r1;replace r2:=aA hbA r2;replace r3:=aA hbA r3;have HX1:=hide (hx1.on hbA);have fz:=(hx1.on hbA).fz;clear ha hx1 eb hbA;rw[HE1.out])
      | fail)
     exact bodyPost_ret (v:=.tuple #[mV (noM 1),errV 1]) (by simp[errV,results,Tryz.results119,go_sem,r0,r1,r2,r3]) rfl ⟨rfl,((((HX1.out.set HLO.out 0 _).set HLO.out 1 _).set HLO.out 2 _).set HLO.out 3 _).done⟩
  ·rw[if_neg hb];have hb1:¬n<0:=by omega
   have hb2:¬999999<n:=by omega
   have hb3:¬tries<1:=by omega
   have d1:decide (n<0)=false:=by simpa using hb1
   have d2:decide (999999<n)=false:=by simpa using hb2
   have d3:decide (tries<1)=false:=by simpa using hb3
   clear hb;obtain⟨tx,is,eg⟩:=t;unfold yH;dsimp only at HGS HGT ⊢;by_cases h2:eg=0
   ·subst h2;rw[if_pos rfl];have HE2:=hide bX
    cases is with
    | false=>
     rw[if_neg (by simp)];go_enter Tryz.func119,Tryz.ntmps119;go_wp2_with (first
      | (go_at_call 83;refine(HF.out _ HX.out.qv).mono ?_;rintro e w1 ⟨rfl,ha⟩;obtain⟨S1,hx1,eb⟩:=HX.out.act ha;replace r0:=(b_ eb).trans r0;replace r1:=(b_ eb).trans r1;replace r2:=(b_ eb).trans r2;replace r3:=(b_ eb).trans r3;have hbA:=a_ w1 (o_ #[.int .i64 qx,.int .i64 qy,.string qd] 145);replace r0:=aA hbA r0;replace r1:=aA hbA r1;replace r2:=aA hbA r2;replace r3:=aA hbA r3;have HX1:=hide (hx1.on hbA);have fz:=(hx1.on hbA).fz;clear ha hx1 eb hbA;rw[HE1.out])
      | (go_at_call 120;refine(iE name n _ (by omega) (by omega) (by omega) HX1.out.qv.laid.tab).mono ?_;rintro e w2 ⟨rfl,hb2⟩;replace r0:=aA hb2 r0;replace r1:=aA hb2 r1;replace r2:=aA hb2 r2;replace r3:=aA hb2 r3;replace HX1:=hide (HX1.out.on hb2);clear hb2 fz)
      | (go_at_call 44;refine(HGT.out _ _ HX1.out.qv).mono ?_;rintro e w3 ⟨rfl,ha⟩;obtain⟨S2,hx2,eb⟩:=HX1.out.act ha;replace r0:=(b_ eb).trans r0;replace r1:=(b_ eb).trans r1;replace r2:=(b_ eb).trans r2;replace r3:=(b_ eb).trans r3;have HX2:=hide hx2;have fz:=hx2.fz;clear ha hx2 eb;rw[HE2.out])
      | fail)
     exact bodyPost_ret (v:=.tuple #[mV (noM 11),errV 11]) (by simp[errV,results,Tryz.results119,go_sem,r0,r1,r2,r3]) rfl ⟨rfl,((((HX2.out.set HLO.out 0 _).set HLO.out 1 _).set HLO.out 2 _).set HLO.out 3 _).done⟩
    | true=>
     rw[if_pos rfl];have HPM:=hide (fun (W:World) (hL:Laid W)=>zDb tx n (by have:=HGS.out;omega) W hL);generalize mOf tx n=m at *;obtain⟨mk,mt,mu,md,em⟩:=m;dsimp only at HPM ⊢;by_cases h3:em=0
     ·subst h3;rw[if_pos rfl];have HE3:=hide bX;by_cases h4:mt=tries
      ·subst h4;rw[if_pos rfl];have d4:(mt==mt)=true:=by simp
       go_enter Tryz.func119,Tryz.ntmps119;go_wp2_with (first
        | (go_at_call 83;refine(HF.out _ HX.out.qv).mono ?_;rintro e w1 ⟨rfl,ha⟩;obtain⟨S1,hx1,eb⟩:=HX.out.act ha;replace r0:=(b_ eb).trans r0;replace r1:=(b_ eb).trans r1;replace r2:=(b_ eb).trans r2;replace r3:=(b_ eb).trans r3;have hbA:=a_ w1 (o_ #[.int .i64 qx,.int .i64 qy,.string qd] 145);replace r0:=aA hbA r0;replace r1:=aA hbA r1;replace r2:=aA hbA r2;replace r3:=aA hbA r3;have HX1:=hide (hx1.on hbA);have fz:=(hx1.on hbA).fz;clear ha hx1 eb hbA;rw[HE1.out])
        | (go_at_call 120;refine(iE name n _ (by omega) (by omega) (by omega) HX1.out.qv.laid.tab).mono ?_;rintro e w2 ⟨rfl,hb2⟩;replace r0:=aA hb2 r0;replace r1:=aA hb2 r1;replace r2:=aA hb2 r2;replace r3:=aA hb2 r3;replace HX1:=hide (HX1.out.on hb2);clear hb2 fz)
        | (go_at_call 44;refine(HGT.out _ _ HX1.out.qv).mono ?_;rintro e w3 ⟨rfl,ha⟩;obtain⟨S2,hx2,eb⟩:=HX1.out.act ha;replace r0:=(b_ eb).trans r0;replace r1:=(b_ eb).trans r1;replace r2:=(b_ eb).trans r2;replace r3:=(b_ eb).trans r3;have HX2:=hide hx2;have fz:=hx2.fz;clear ha hx2 eb;rw[HE2.out])
        | (go_at_call 177;refine(HPM.out _ HX2.out.qv.laid).mono ?_;rintro e w4 ⟨rfl,hb4⟩;have hx3:=HX2.out.on hb4;replace r0:=aA hb4 r0;replace r1:=aA hb4 r1;replace r2:=aA hb4 r2;replace r3:=aA hb4 r3;have hbA:=a_ w4 (o_ #[.int .i64 mk,.int .i64 mt,.int .i64 mu,.string md] 99);replace r0:=aA hbA r0;replace r1:=aA hbA r1;replace r2:=aA hbA r2;replace r3:=aA hbA r3;have HX3:=hide (hx3.on hbA);replace fz:=(hx3.on hbA).fz;clear hb4 hx3 hbA;rw[HE3.out])
        | fail)
       exact bodyPost_ret (v:=.tuple #[mV ((mk,mt,mu,md,0)),errV 0]) (by simp[errV,results,Tryz.results119,go_sem,r0,r1,r2,r3]) rfl ⟨rfl,((((HX3.out.set HLO.out 0 _).set HLO.out 1 _).set HLO.out 2 _).set HLO.out 3 _).done⟩
      ·rw[if_neg h4];have d4:(mt==tries)=false:=by simpa using h4
       go_enter Tryz.func119,Tryz.ntmps119;go_wp2_with (first
        | (go_at_call 83;refine(HF.out _ HX.out.qv).mono ?_;rintro e w1 ⟨rfl,ha⟩;obtain⟨S1,hx1,eb⟩:=HX.out.act ha;replace r0:=(b_ eb).trans r0;replace r1:=(b_ eb).trans r1;replace r2:=(b_ eb).trans r2;replace r3:=(b_ eb).trans r3;have hbA:=a_ w1 (o_ #[.int .i64 qx,.int .i64 qy,.string qd] 145);replace r0:=aA hbA r0;replace r1:=aA hbA r1;replace r2:=aA hbA r2;replace r3:=aA hbA r3;have HX1:=hide (hx1.on hbA);have fz:=(hx1.on hbA).fz;clear ha hx1 eb hbA;rw[HE1.out])
        | (go_at_call 120;refine(iE name n _ (by omega) (by omega) (by omega) HX1.out.qv.laid.tab).mono ?_;rintro e w2 ⟨rfl,hb2⟩;replace r0:=aA hb2 r0;replace r1:=aA hb2 r1;replace r2:=aA hb2 r2;replace r3:=aA hb2 r3;replace HX1:=hide (HX1.out.on hb2);clear hb2 fz)
        | (go_at_call 44;refine(HGT.out _ _ HX1.out.qv).mono ?_;rintro e w3 ⟨rfl,ha⟩;obtain⟨S2,hx2,eb⟩:=HX1.out.act ha;replace r0:=(b_ eb).trans r0;replace r1:=(b_ eb).trans r1;replace r2:=(b_ eb).trans r2;replace r3:=(b_ eb).trans r3;have HX2:=hide hx2;have fz:=hx2.fz;clear ha hx2 eb;rw[HE2.out])
        | (go_at_call 177;refine(HPM.out _ HX2.out.qv.laid).mono ?_;rintro e w4 ⟨rfl,hb4⟩;have hx3:=HX2.out.on hb4;replace r0:=aA hb4 r0;replace r1:=aA hb4 r1;replace r2:=aA hb4 r2;replace r3:=aA hb4 r3;have hbA:=a_ w4 (o_ #[.int .i64 mk,.int .i64 mt,.int .i64 mu,.string md] 99);replace r0:=aA hbA r0;replace r1:=aA hbA r1;replace r2:=aA hbA r2;replace r3:=aA hbA r3;have HX3:=hide (hx3.on hbA);replace fz:=(hx3.on hbA).fz;clear hb4 hx3 hbA;rw[HE3.out])
        | fail)
       exact bodyPost_ret (v:=.tuple #[mV (noM 11),errV 11]) (by simp[errV,results,Tryz.results119,go_sem,r0,r1,r2,r3]) rfl ⟨rfl,((((HX3.out.set HLO.out 0 _).set HLO.out 1 _).set HLO.out 2 _).set HLO.out 3 _).done⟩
     ·rw[if_neg h3];have HE3:=hide (bJ h3);clear h3;go_enter Tryz.func119,Tryz.ntmps119;go_wp2_with (first
       | (go_at_call 83;refine(HF.out _ HX.out.qv).mono ?_;rintro e w1 ⟨rfl,ha⟩;obtain⟨S1,hx1,eb⟩:=HX.out.act ha;replace r0:=(b_ eb).trans r0;replace r1:=(b_ eb).trans r1;replace r2:=(b_ eb).trans r2;replace r3:=(b_ eb).trans r3;have hbA:=a_ w1 (o_ #[.int .i64 qx,.int .i64 qy,.string qd] 145);replace r0:=aA hbA r0;replace r1:=aA hbA r1;replace r2:=aA hbA r2;replace r3:=aA hbA r3;have HX1:=hide (hx1.on hbA);have fz:=(hx1.on hbA).fz;clear ha hx1 eb hbA;rw[HE1.out])
       | (go_at_call 120;refine(iE name n _ (by omega) (by omega) (by omega) HX1.out.qv.laid.tab).mono ?_;rintro e w2 ⟨rfl,hb2⟩;replace r0:=aA hb2 r0;replace r1:=aA hb2 r1;replace r2:=aA hb2 r2;replace r3:=aA hb2 r3;replace HX1:=hide (HX1.out.on hb2);clear hb2 fz)
       | (go_at_call 44;refine(HGT.out _ _ HX1.out.qv).mono ?_;rintro e w3 ⟨rfl,ha⟩;obtain⟨S2,hx2,eb⟩:=HX1.out.act ha;replace r0:=(b_ eb).trans r0;replace r1:=(b_ eb).trans r1;replace r2:=(b_ eb).trans r2;replace r3:=(b_ eb).trans r3;have HX2:=hide hx2;have fz:=hx2.fz;clear ha hx2 eb;rw[HE2.out])
       | (go_at_call 177;refine(HPM.out _ HX2.out.qv.laid).mono ?_;rintro e w4 ⟨rfl,hb4⟩;have hx3:=HX2.out.on hb4;replace r0:=aA hb4 r0;replace r1:=aA hb4 r1;replace r2:=aA hb4 r2;replace r3:=aA hb4 r3;have hbA:=a_ w4 (o_ #[.int .i64 mk,.int .i64 mt,.int .i64 mu,.string md] 99);replace r0:=aA hbA r0;replace r1:=aA hbA r1;replace r2:=aA hbA r2;replace r3:=aA hbA r3;have HX3:=hide (hx3.on hbA);replace fz:=(hx3.on hbA).fz;clear hb4 hx3 hbA;rw[HE3.out])
       | fail)
      exact bodyPost_ret (v:=.tuple #[mV (noM em),.iface 114 (.int .i64 em)]) (by simp[results,Tryz.results119,go_sem,r0,r1,r2,r3]) rfl ⟨HE3.out▸rfl,((((HX3.out.set HLO.out 0 _).set HLO.out 1 _).set HLO.out 2 _).set HLO.out 3 _).done⟩
   ·rw[if_neg h2];have HE2:=hide (bJ h2);clear h2;go_enter Tryz.func119,Tryz.ntmps119;go_wp2_with (first
     | (go_at_call 83;refine(HF.out _ HX.out.qv).mono ?_;rintro e w1 ⟨rfl,ha⟩;obtain⟨S1,hx1,eb⟩:=HX.out.act ha;replace r0:=(b_ eb).trans r0;replace r1:=(b_ eb).trans r1;replace r2:=(b_ eb).trans r2;replace r3:=(b_ eb).trans r3;have hbA:=a_ w1 (o_ #[.int .i64 qx,.int .i64 qy,.string qd] 145);replace r0:=aA hbA r0;replace r1:=aA hbA r1;replace r2:=aA hbA r2;replace r3:=aA hbA r3;have HX1:=hide (hx1.on hbA);have fz:=(hx1.on hbA).fz;clear ha hx1 eb hbA;rw[HE1.out])
     | (go_at_call 120;refine(iE name n _ (by omega) (by omega) (by omega) HX1.out.qv.laid.tab).mono ?_;rintro e w2 ⟨rfl,hb2⟩;replace r0:=aA hb2 r0;replace r1:=aA hb2 r1;replace r2:=aA hb2 r2;replace r3:=aA hb2 r3;replace HX1:=hide (HX1.out.on hb2);clear hb2 fz)
     | (go_at_call 44;refine(HGT.out _ _ HX1.out.qv).mono ?_;rintro e w3 ⟨rfl,ha⟩;obtain⟨S2,hx2,eb⟩:=HX1.out.act ha;replace r0:=(b_ eb).trans r0;replace r1:=(b_ eb).trans r1;replace r2:=(b_ eb).trans r2;replace r3:=(b_ eb).trans r3;have HX2:=hide hx2;have fz:=hx2.fz;clear ha hx2 eb;rw[HE2.out])
     | fail)
    exact bodyPost_ret (v:=.tuple #[mV (noM eg),.iface 114 (.int .i64 eg)]) (by simp[results,Tryz.results119,go_sem,r0,r1,r2,r3]) rfl ⟨HE2.out▸rfl,((((HX2.out.set HLO.out 0 _).set HLO.out 1 _).set HLO.out 2 _).set HLO.out 3 _).done⟩
 ·rw[if_neg h1];have HE1:=hide (bJ h1);clear h1;go_enter Tryz.func119,Tryz.ntmps119;go_wp2_with (first
   | (go_at_call 83;refine(HF.out _ HX.out.qv).mono ?_;rintro e w1 ⟨rfl,ha⟩;obtain⟨S1,hx1,eb⟩:=HX.out.act ha;replace r0:=(b_ eb).trans r0;replace r1:=(b_ eb).trans r1;replace r2:=(b_ eb).trans r2;replace r3:=(b_ eb).trans r3;have hbA:=a_ w1 (o_ #[.int .i64 qx,.int .i64 qy,.string qd] 145);replace r0:=aA hbA r0;replace r1:=aA hbA r1;replace r2:=aA hbA r2;replace r3:=aA hbA r3;have HX1:=hide (hx1.on hbA);have fz:=(hx1.on hbA).fz;clear ha hx1 eb hbA;rw[HE1.out])
   | fail)
  exact bodyPost_ret (v:=.tuple #[mV (noM er),.iface 114 (.int .i64 er)]) (by simp[results,Tryz.results119,go_sem,r0,r1,r2,r3]) rfl ⟨HE1.out▸rfl,((((HX1.out.set HLO.out 0 _).set HLO.out 1 _).set HLO.out 2 _).set HLO.out 3 _).done⟩
end
end Go.Proofs.YtnboipekkahmnaaGreatDoor
