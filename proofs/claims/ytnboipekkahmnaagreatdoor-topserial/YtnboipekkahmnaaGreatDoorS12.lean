import Derived.Test.YtnboipekkahmnaaGreatDoorS11
set_option maxHeartbeats 8000000
set_option maxRecDepth 100000
namespace Go.Proofs
open Obj renaming cells→o_
open Go.RowKit.Below renaming refl→r_
open Nat renaming le_refl→n_
open Tryz renaming prog→p_
open Value renaming string→v_,int→i_
open Go.Joins renaming below_alloc1→a_
section
open Go.Shelf
def Tryz.laysM171_ren:Go.Shelf.Ren:=⟨fun|171=>178|243=>234|246=>272|283=>310|284=>311|285=>312|286=>313|129=>306|317=>332|318=>333|319=>334|320=>335|337=>342|338=>343|n=>n,fun|3=>3|9=>9|2=>2|4=>4|171=>383|0=>0|53=>35|37=>247|5=>5|173=>385|212=>405|51=>350|20=>20|213=>406|46=>311|232=>415|233=>416|n=>n,fun|17=>3|18=>4|19=>5|n=>n⟩
theorem Tryz.laysM171:Go.Proofs.LaysM.n171 p_ Tryz.laysM171_ren:={
 mixed:=by kernel_rfl
 f129:=Tryz.func306.trans (congrArg some (by kernel_rfl))
 f171:=Tryz.func178.trans (congrArg some (by kernel_rfl))
 f243:=Tryz.func234.trans (congrArg some (by kernel_rfl))
 f246:=Tryz.func272.trans (congrArg some (by kernel_rfl))
 f283:=Tryz.func310.trans (congrArg some (by kernel_rfl))
 f284:=Tryz.func311.trans (congrArg some (by kernel_rfl))
 f285:=Tryz.func312.trans (congrArg some (by kernel_rfl))
 f286:=Tryz.func313.trans (congrArg some (by kernel_rfl))
 f317:=Tryz.func332.trans (congrArg some (by kernel_rfl))
 f318:=Tryz.func333.trans (congrArg some (by kernel_rfl))
 f319:=Tryz.func334.trans (congrArg some (by kernel_rfl))
 f320:=Tryz.func335.trans (congrArg some (by kernel_rfl))
 f337:=Tryz.func342.trans (congrArg some (by kernel_rfl))
 f338:=Tryz.func343.trans (congrArg some (by kernel_rfl))
 t0:=Tryz.underlying0
 a0:=Tryz.isAgg0
 z0:=Tryz.sizeOf0
 v0:=Tryz.zeroValue0
 t2:=Tryz.underlying2
 a2:=Tryz.isAgg2
 z2:=Tryz.sizeOf2
 v2:=Tryz.zeroValue2
 t3:=Tryz.underlying3
 a3:=Tryz.isAgg3
 z3:=Tryz.sizeOf3
 v3:=Tryz.zeroValue3
 t4:=Tryz.underlying4
 a4:=Tryz.isAgg4
 z4:=Tryz.sizeOf4
 v4:=Tryz.zeroValue4
 t5:=Tryz.underlying5
 a5:=Tryz.isAgg5
 z5:=Tryz.sizeOf5
 v5:=Tryz.zeroValue5
 t9:=Tryz.underlying9
 a9:=Tryz.isAgg9
 z9:=Tryz.sizeOf9
 v9:=Tryz.zeroValue9
 t20:=Tryz.underlying20
 a20:=Tryz.isAgg20
 z20:=Tryz.sizeOf20
 v20:=Tryz.zeroValue20
 t37:=Tryz.underlying247
 a37:=Tryz.isAgg247
 z37:=Tryz.sizeOf247
 v37:=Tryz.zeroValue247
 t46:=Tryz.underlying311
 a46:=Tryz.isAgg311
 z46:=Tryz.sizeOf311
 v46:=Tryz.zeroValue311
 t51:=Tryz.underlying350
 a51:=Tryz.isAgg350
 z51:=Tryz.sizeOf350
 v51:=Tryz.zeroValue350
 t53:=Tryz.underlying35
 a53:=Tryz.isAgg35
 z53:=Tryz.sizeOf35
 v53:=Tryz.zeroValue35
 t171:=Tryz.underlying383
 a171:=Tryz.isAgg383
 z171:=Tryz.sizeOf383
 v171:=Tryz.zeroValue383
 t173:=Tryz.underlying385
 a173:=Tryz.isAgg385
 z173:=Tryz.sizeOf385
 v173:=Tryz.zeroValue385
 t212:=Tryz.underlying405
 a212:=Tryz.isAgg405
 z212:=Tryz.sizeOf405
 v212:=Tryz.zeroValue405
 t213:=Tryz.underlying406
 a213:=Tryz.isAgg406
 z213:=Tryz.sizeOf406
 t232:=Tryz.underlying415
 a232:=Tryz.isAgg415
 z232:=Tryz.sizeOf415
 v232:=Tryz.zeroValue415
 t233:=Tryz.underlying416
 a233:=Tryz.isAgg416
 z233:=Tryz.sizeOf416
 v233:=Tryz.zeroValue416
 g17:=by kernel_rfl
 g18:=by kernel_rfl
 g19:=by kernel_rfl
 i0:=by kernel_rfl
 i2:=by kernel_rfl
 i3:=by kernel_rfl
 i4:=by kernel_rfl
 i5:=by kernel_rfl
 i9:=by kernel_rfl
 i20:=by kernel_rfl
 i37:=by kernel_rfl
 i46:=by kernel_rfl
 i51:=by kernel_rfl
 i53:=by kernel_rfl
 i171:=by kernel_rfl
 i173:=by kernel_rfl
 i212:=by kernel_rfl
 i232:=by kernel_rfl
 i233:=by kernel_rfl
 m17:=by kernel_rfl
 m18:=by kernel_rfl
 m19:=by kernel_rfl }
open Go.RowKit Go.Sort Go.Lib in
theorem Tryz.strconv_Itoa (n:Int) (h0:-9223372036854775808<=n) (h1:n<=9223372036854775807) (w:World) (htab:Lib.TabIs p_ w "internal/strconv.uint64pow10" .u64 Lib.pow10Tab):
  Calls p_ 178 #[.int .i64 n] w fun e w'=>e=.returned (.string ⟨(Lib.itoa n).toArray⟩)/\∃ k os,w'=grow (w.drewN k) os:=Any.strconv_Itoa Tryz.laysM171 n h0 h1 w htab
def Tryz.lays105_ren:Go.Shelf.Ren:=⟨fun|105=>179|212=>235|99=>236|165=>237|166=>206|170=>205|169=>208|263=>273|264=>274|206=>275|240=>254|241=>276|276=>291|277=>314|n=>n,fun|9=>9|3=>3|4=>4|20=>20|0=>0|46=>311|109=>312|5=>5|72=>284|76=>45|51=>350|146=>351|53=>35|148=>353|70=>282|37=>247|75=>42|127=>339|164=>365|80=>267|n=>n,fun|n=>n⟩
theorem Tryz.lays105:Go.Proofs.Lays.n105 p_ Tryz.lays105_ren:={
 mixed:=by kernel_rfl
 f99:=Tryz.func236.trans (congrArg some (by kernel_rfl))
 f105:=Tryz.func179.trans (congrArg some (by kernel_rfl))
 f165:=Tryz.func237.trans (congrArg some (by kernel_rfl))
 f166:=Tryz.func206.trans (congrArg some (by kernel_rfl))
 f169:=Tryz.func208.trans (congrArg some (by kernel_rfl))
 f170:=Tryz.func205.trans (congrArg some (by kernel_rfl))
 f206:=Tryz.func275.trans (congrArg some (by kernel_rfl))
 f212:=Tryz.func235.trans (congrArg some (by kernel_rfl))
 f240:=Tryz.func254.trans (congrArg some (by kernel_rfl))
 f241:=Tryz.func276.trans (congrArg some (by kernel_rfl))
 f263:=Tryz.func273.trans (congrArg some (by kernel_rfl))
 f264:=Tryz.func274.trans (congrArg some (by kernel_rfl))
 f276:=Tryz.func291.trans (congrArg some (by kernel_rfl))
 f277:=Tryz.func314.trans (congrArg some (by kernel_rfl))
 t0:=Tryz.underlying0
 a0:=Tryz.isAgg0
 z0:=Tryz.sizeOf0
 v0:=Tryz.zeroValue0
 t3:=Tryz.underlying3
 a3:=Tryz.isAgg3
 z3:=Tryz.sizeOf3
 v3:=Tryz.zeroValue3
 t4:=Tryz.underlying4
 a4:=Tryz.isAgg4
 z4:=Tryz.sizeOf4
 v4:=Tryz.zeroValue4
 t5:=Tryz.underlying5
 a5:=Tryz.isAgg5
 z5:=Tryz.sizeOf5
 v5:=Tryz.zeroValue5
 t9:=Tryz.underlying9
 a9:=Tryz.isAgg9
 z9:=Tryz.sizeOf9
 v9:=Tryz.zeroValue9
 t20:=Tryz.underlying20
 a20:=Tryz.isAgg20
 z20:=Tryz.sizeOf20
 v20:=Tryz.zeroValue20
 t37:=Tryz.underlying247
 a37:=Tryz.isAgg247
 z37:=Tryz.sizeOf247
 v37:=Tryz.zeroValue247
 t46:=Tryz.underlying311
 a46:=Tryz.isAgg311
 z46:=Tryz.sizeOf311
 v46:=Tryz.zeroValue311
 t51:=Tryz.underlying350
 a51:=Tryz.isAgg350
 z51:=Tryz.sizeOf350
 v51:=Tryz.zeroValue350
 t53:=Tryz.underlying35
 a53:=Tryz.isAgg35
 z53:=Tryz.sizeOf35
 v53:=Tryz.zeroValue35
 t70:=Tryz.underlying282
 a70:=Tryz.isAgg282
 z70:=Tryz.sizeOf282
 v70:=Tryz.zeroValue282
 t72:=Tryz.underlying284
 a72:=Tryz.isAgg284
 z72:=Tryz.sizeOf284
 v72:=Tryz.zeroValue284
 t75:=Tryz.underlying42
 a75:=Tryz.isAgg42
 z75:=Tryz.sizeOf42
 v75:=Tryz.zeroValue42
 t76:=Tryz.underlying45
 a76:=Tryz.isAgg45
 z76:=Tryz.sizeOf45
 v76:=Tryz.zeroValue45
 t109:=Tryz.underlying312
 a109:=Tryz.isAgg312
 z109:=Tryz.sizeOf312
 v109:=Tryz.zeroValue312
 t127:=Tryz.underlying339
 a127:=Tryz.isAgg339
 z127:=Tryz.sizeOf339
 v127:=Tryz.zeroValue339
 t146:=Tryz.underlying351
 a146:=Tryz.isAgg351
 z146:=Tryz.sizeOf351
 v146:=Tryz.zeroValue351
 t148:=Tryz.underlying353
 a148:=Tryz.isAgg353
 z148:=Tryz.sizeOf353
 v148:=Tryz.zeroValue353
 t164:=Tryz.underlying365
 a164:=Tryz.isAgg365
 z164:=Tryz.sizeOf365
 v164:=Tryz.zeroValue365 }
theorem Tryz.Builder_Extra_105:Builder.Extra p_ Tryz.lays105_ren:={
 sizeBuilder:=by kernel_rfl
 liesBuilder:=by kernel_rfl
 t5:=Tryz.underlying5
 a5:=Tryz.isAgg5
 z5:=Tryz.sizeOf5
 v5:=Tryz.zeroValue5
 infoByte:=by kernel_rfl
 cellsByte:=by kernel_rfl
 sizeByte:=by kernel_rfl
 neB5:=by decide }
open Go.RowKit Go.Lib in
theorem Tryz.strings_Repeat (s:ByteArray) (c:Nat) (w:World) (hc:c<=9223372036854775807) (hlen:s.size*c<=140737488355328):
  Calls p_ 179 #[.string s,.int .i64 c] w fun e w'=>e=.returned (.string ⟨(Lib.repeatL s.data.toList c).toArray⟩)/\Below w.heap.size w w':=Any.strings_Repeat Tryz.lays105 Tryz.Builder_Extra_105 s c w hc hlen
end
end Go.Proofs
namespace Go.Proofs.YtnboipekkahmnaaGreatDoor
open Obj renaming cells→o_
open Go.RowKit.Below renaming refl→r_
open Nat renaming le_refl→n_
open Tryz renaming prog→p_
open Value renaming string→v_,int→i_
open Go.Joins renaming below_alloc1→a_
section
open Go.RowKit Go.Joins
theorem qZ (s:ByteArray) (w:World) (hs:s.size<=1000):
  Calls p_ 151 #[.string s] w fun e w'=>e=.returned (.string (queB s))/\w'=w:=by
 go_enter Tryz.func151,Tryz.ntmps151;go_wp2;go_ret;exact⟨rfl,rfl⟩
theorem pM (s:ByteArray) (w:World) (hs:s.size<=1000):
  Calls p_ 157 #[.string s] w fun e w'=>e=.returned (.agg #[.string (aZ s),.string (toB s)])/\Below w.heap.size w w':=by
 go_enter Tryz.func157,Tryz.ntmps157;go_wp2;exact bodyPost_ret (v:=.agg #[.string (⟨#[109,47]⟩++s++⟨#[47]⟩),.string (⟨#[109,47]⟩++s++⟨#[48]⟩)]) (by simp[results,Tryz.results157,go_sem]) rfl ⟨rfl,a_ _ _⟩
def cP (n:Int):Nat:=(max n 0).toNat % 1000000
theorem zD9 (w:World) (k:Nat) (os:Array Obj):Below w.heap.size w (Go.Sort.grow (w.drewN k) os):=by
 refine⟨rfl,rfl,rfl,?_,fun i hi=>?_⟩
 ·show w.heap.size<=(w.heap++os).size;simp
 ·show(w.heap++os)[i]?=w.heap[i]?;rw[Array.getElem?_append_left hi]
theorem xU (n:Nat) (w:World) (hn:n<=999999999) (htab:Lib.TabIs p_ w "internal/strconv.uint64pow10" .u64 Lib.pow10Tab):
  Calls p_ 178 #[.int .i64 n] w fun e w'=>e=.returned (.string (decB n))/\Below w.heap.size w w':=
 (Tryz.strconv_Itoa n (by omega) (by omega) w htab).mono fun e w' ⟨he,k,os,hw⟩=>⟨by rw[he,Lib.itoa_nonneg];rfl,by rw[hw];exact zD9 w k os⟩
theorem zGb (c:Nat):Lib.repeatL [48] c=List.replicate c 48:=by
 induction c with
 | zero=>rfl
 | succ c ih=>simp[Lib.repeatL,ih,List.replicate_succ]
theorem zGq (c:Nat) (w:World) (hc:c<=1000):
  Calls p_ 179 #[.string ⟨#[48]⟩,.int .i64 c] w fun e w'=>e=.returned (.string ⟨(List.replicate c (48:UInt8)).toArray⟩)/\Below w.heap.size w w':=
 (Tryz.strings_Repeat ⟨#[48]⟩ c w (by omega) (by have:(⟨#[48]⟩:ByteArray).size=1:=rfl;rw[this];omega)).mono fun e w' ⟨he,hb⟩=>⟨by
  rw[he];exact congrArg (fun l:List UInt8=>Ending.returned (.string ⟨l.toArray⟩)) (zGb c),hb⟩
theorem iE (q:ByteArray) (n:Int) (w:World) (hq:q.size<=1000) (h0:-9223372036854775808<=n) (h1:n<=9223372036854775807)
  (htab:Lib.TabIs p_ w "internal/strconv.uint64pow10" .u64 Lib.pow10Tab):
  Calls p_ 120 #[.string q,.int .i64 n] w fun e w'=>e=.returned (.string (msgB q (cP n)))/\Below w.heap.size w w':=by
 have hnum:cP n<=999999:=by unfold cP;omega
 have hlen:=zL9 (cP n) hnum;have hsz:(decB (cP n)).size=(Lib.decDigits (cP n)).length:=by rw[Lib.size_eq,eM]
 have hpad:=zAT (cP n) hnum;have hle:(decB (cP n)).size<=6:=by omega
 have HE:=hide (show max n 0 % 1000000=((cP n:Nat):Int) by unfold cP;omega);have HF:=hide (show(6:Int)-((decB (cP n)).size:Int)=((6-(decB (cP n)).size:Nat):Int) by omega);have HV:=hide (show aZ q++⟨(List.replicate (6-(decB (cP n)).size) (48:UInt8)).toArray⟩++decB (cP n)=msgB q (cP n) by
  refine kG ?_;rw[mN,<-hpad,hsz];simp[ByteArray.data_append,rI,eM])
 have HT:=hide htab;clear htab hsz hpad hlen;have hrep:(⟨(List.replicate (6-(decB (cP n)).size) (48:UInt8)).toArray⟩:ByteArray).size<=6:=by rw[Lib.size_eq];simp
 have HR:=fun w=>hide (zGq (6-(decB (cP n)).size) w (by omega));generalize hz:(⟨(List.replicate (6-(decB (cP n)).size) (48:UInt8)).toArray⟩:ByteArray)=z at *;clear hz;go_enter Tryz.func120,Tryz.ntmps120;go_wp2_with fail;rw[HE.out];refine(xU _ _ (by omega) HT.out).mono ?_;rintro e w1 ⟨rfl,hb1⟩;go_wp2_with fail;rw[HF.out];refine((HR _).out).mono ?_;rintro e w2 ⟨rfl,hb2⟩;go_wp2;go_ret;exact⟨zFN HV.out,aB hb1 (n_ _) hb2⟩
theorem zBT:Tryz.prog.globalNamed "internal/strconv.uint64pow10" = some 3:=by kernel_rfl
theorem rQ {w w':World} (h:Lib.TabIs p_ w "internal/strconv.uint64pow10" .u64 Lib.pow10Tab) (hb:Below w.heap.size w w'):Lib.TabIs p_ w' "internal/strconv.uint64pow10" .u64 Lib.pow10Tab:=
 tab_stays zBT h hb (n_ _)
theorem mM (n lo hi:Int) (w:World) (h1:lo<=n) (h2:n<=hi):
  Calls p_ 232 #[.int .i64 n,.int .i64 lo,.int .i64 hi] w fun e w'=>e=.returned (.bool true)/\w'=w:=by
 go_enter Tryz.func232,Tryz.ntmps232;go_wp2;go_ret;exact⟨rfl,rfl⟩
theorem zBf (n lo hi:Int) (w:World) (h:n<lo∨hi<n):
  Calls p_ 232 #[.int .i64 n,.int .i64 lo,.int .i64 hi] w fun e w'=>e=.returned (.bool false)/\w'=w:=by
 by_cases h1:n<lo
 ·go_enter Tryz.func232,Tryz.ntmps232;go_wp2;go_ret;exact⟨rfl,rfl⟩
 ·have h2:hi<n:=by omega
  have h3:lo<=n:=by omega
  go_enter Tryz.func232,Tryz.ntmps232;go_wp2;go_ret;exact⟨bB (by simp[h2]),rfl⟩
theorem zDG (a b:Nat) (r:ByteArray) (w:World) (ha:a<=9999999) (hb:b<=9999999) (hr:r.size<=1000) (htab:Lib.TabIs p_ w "internal/strconv.uint64pow10" .u64 Lib.pow10Tab):
  Calls p_ 233 #[.int .i64 a,.int .i64 b,.string r] w fun e w'=>e=.returned (.string (dA a b r))/\Below w.heap.size w w':=by
 have ea:(decB a).size<=7:=by rw[Lib.size_eq,eM];exact eQ a ha
 have eb:(decB b).size<=7:=by rw[Lib.size_eq,eM];exact eQ b hb
 have HT:=hide htab;clear htab;go_enter Tryz.func233,Tryz.ntmps233;go_wp2_with fail;refine(xU a _ (by omega) HT.out).mono ?_;rintro e w1 ⟨rfl,hb1⟩;go_wp2_with fail;refine(xU b _ (by omega) (rQ HT.out hb1)).mono ?_;rintro e w2 ⟨rfl,hb2⟩;go_wp2;go_ret;exact⟨rfl,aB hb1 (n_ _) hb2⟩
theorem kH (n t:Nat) (d:ByteArray) (w:World) (hn:n<=999999) (ht:1<=t) (ht':t<=9) (hd:d.toList.isEmpty=true∨(d.toList.isEmpty=false/\bK d.data.toList=true)) (hs:d.size<=1000) (htab:Lib.TabIs p_ w "internal/strconv.uint64pow10" .u64 Lib.pow10Tab):
  Calls p_ 172 #[.agg #[.int .i64 n,.int .i64 t,.string d]] w fun e w'=>e=.returned (.tuple #[.string (dA n t d),.nilIface])/\Below w.heap.size w w':=by
 have hB:=a_ w (o_ #[.int .i64 n,.int .i64 t,.string d] 145);have HT:=hide (rQ htab hB);clear htab;rcases hd with hd|⟨hd,hd'⟩
 all_goals
  go_enter Tryz.func172,Tryz.ntmps172;go_wp2_with (first
   | (go_at_call 232;refine(mM _ _ _ _ ?_ ?_).mono ?_;omega;omega;rintro e w1 ⟨rfl,rfl⟩)
   | (go_at_call 150;refine(kM _ _).mono ?_;rintro e w1 ⟨rfl,rfl⟩)
   | (go_at_call 233;refine(zDG _ _ _ _ (by omega) (by omega) (by omega) HT.out).mono ?_;rintro e w1 ⟨rfl,hb⟩;replace hB:=aB hB (n_ _) hb;clear hb))
  go_ret2;exact⟨rfl,hB⟩
theorem qA (n t:Int) (d:ByteArray) (w:World) (h:(n<0∨999999<n)∨(0<=n/\n<=999999/\(t<1∨9<t))):
  Calls p_ 172 #[.agg #[.int .i64 n,.int .i64 t,.string d]] w fun e w'=>e=.returned (.tuple #[.string ⟨#[]⟩,.iface 114 (.int .i64 1)])/\Below w.heap.size w w':=by
 have hB:=a_ w (o_ #[.int .i64 n,.int .i64 t,.string d] 145);rcases h with h|⟨h,h',h''⟩
 all_goals
  go_enter Tryz.func172,Tryz.ntmps172;go_wp2_with (first
   | (go_at_call 232;refine(mM _ _ _ _ ?_ ?_).mono ?_;omega;omega;rintro e w1 ⟨rfl,rfl⟩)
   | (go_at_call 232;refine(zBf _ _ _ _ ?_).mono ?_;omega;rintro e w1 ⟨rfl,rfl⟩))
  go_ret2;exact⟨rfl,hB⟩
theorem qO (n t:Int) (d:ByteArray) (w:World) (hn:0<=n) (hn':n<=999999) (ht:1<=t) (ht':t<=9) (hd:d.toList.isEmpty=false) (hd':bK d.data.toList=false):
  Calls p_ 172 #[.agg #[.int .i64 n,.int .i64 t,.string d]] w fun e w'=>e=.returned (.tuple #[.string ⟨#[]⟩,.iface 114 (.int .i64 3)])/\Below w.heap.size w w':=by
 have hB:=a_ w (o_ #[.int .i64 n,.int .i64 t,.string d] 145)
 all_goals
  go_enter Tryz.func172,Tryz.ntmps172;go_wp2_with (first
   | (go_at_call 232;refine(mM _ _ _ _ ?_ ?_).mono ?_;omega;omega;rintro e w1 ⟨rfl,rfl⟩)
   | (go_at_call 150;refine(kM _ _).mono ?_;rintro e w1 ⟨rfl,rfl⟩))
  go_ret2;exact⟨rfl,hB⟩
theorem nE (k:Int) (t u:Nat) (d:ByteArray) (w:World) (ht:t<=9) (hu:u<=2000000) (hs:d.size<=28) (htab:Lib.TabIs p_ w "internal/strconv.uint64pow10" .u64 Lib.pow10Tab):
  Calls p_ 213 #[.agg #[.int .i64 k,.int .i64 t,.int .i64 u,.string d]] w fun e w'=>e=.returned (.tuple #[.string (dA t u d),.nilIface])/\Below w.heap.size w w':=by
 have hB:=a_ w (o_ #[.int .i64 k,.int .i64 t,.int .i64 u,.string d] 99);have HT:=hide (rQ htab hB);clear htab
 all_goals
  go_enter Tryz.func213,Tryz.ntmps213;go_wp2_with (first
   | (go_at_call 232;refine(mM _ _ _ _ ?_ ?_).mono ?_;omega;omega;rintro e w1 ⟨rfl,rfl⟩)
   | (go_at_call 233;refine(zDG _ _ _ _ (by omega) (by omega) (by omega) HT.out).mono ?_;rintro e w1 ⟨rfl,hb⟩;replace hB:=aB hB (n_ _) hb;clear hb))
  go_ret2;exact⟨rfl,hB⟩
theorem oL (k t u:Int) (d:ByteArray) (w:World) (h:(t<0∨9<t)∨(0<=t/\t<=9/\((u<0∨2000000<u)∨(0<=u/\u<=2000000/\28<d.size)))):
  Calls p_ 213 #[.agg #[.int .i64 k,.int .i64 t,.int .i64 u,.string d]] w fun e w'=>e=.returned (.tuple #[.string ⟨#[]⟩,.iface 114 (.int .i64 1)])/\Below w.heap.size w w':=by
 have hB:=a_ w (o_ #[.int .i64 k,.int .i64 t,.int .i64 u,.string d] 99);rcases h with h|⟨h,h',h''|⟨h2,h3,h4⟩⟩
 all_goals
  go_enter Tryz.func213,Tryz.ntmps213;go_wp2_with (first
   | (go_at_call 232;refine(mM _ _ _ _ ?_ ?_).mono ?_;omega;omega;rintro e w1 ⟨rfl,rfl⟩)
   | (go_at_call 232;refine(zBf _ _ _ _ ?_).mono ?_;omega;rintro e w1 ⟨rfl,rfl⟩))
  go_ret2;exact⟨rfl,hB⟩
theorem zDs (s f b g r:ByteArray) (c1 c2:Bool) (x y:Int) (w:World) (hs:s.size<=maxLen) (hb:b.size<=maxLen)
  (h1:cutV s (Lib.indexByte s.data.toList 32)=.tuple #[.string f,.string b,.bool c1]) (h2:cutV b (Lib.indexByte b.data.toList 32)=.tuple #[.string g,.string r,.bool c2])
  (hx:∀ w',Below w.heap.size w w'->Calls p_ 220 #[.string f] w' fun e w''=>(∃ ev,e=.returned (.tuple #[.int .i64 x,ev]))/\Below w'.heap.size w' w'')
  (hy:∀ w',Below w.heap.size w w'->Calls p_ 220 #[.string g] w' fun e w''=>(∃ ev,e=.returned (.tuple #[.int .i64 y,ev]))/\Below w'.heap.size w' w''):
  Calls p_ 216 #[.string s] w fun e w'=>e=.returned (.tuple #[.int .i64 x,.int .i64 y,.string r])/\Below w.heap.size w w':=by
 have k1:=fun w=>zAk s 32 w hs;have k2:=fun w=>zAk b 32 w hb;rw[h1] at k1;rw[h2] at k2;have K1:=hide k1;have K2:=hide k2;have HX:=hide hx;have HY:=hide hy;have hB:=r_ w.heap.size w;clear k1 k2 hx hy h1 h2;go_enter Tryz.func216,Tryz.ntmps216;go_wp2_with fail;refine(K1.out _).mono ?_;rintro e w1 ⟨rfl,hb1⟩;replace hB:=aB hB (n_ _) hb1;go_wp2_with fail;refine(K2.out _).mono ?_;rintro e w2 ⟨rfl,hb2⟩;replace hB:=aB hB (n_ _) hb2;go_wp2_with fail;refine(HX.out _ hB).mono ?_;rintro e w3 ⟨⟨ev,rfl⟩,hb3⟩;replace hB:=aB hB (n_ _) hb3;go_wp2_with fail;refine(HY.out _ hB).mono ?_;rintro e w4 ⟨⟨ev',rfl⟩,hb4⟩;replace hB:=aB hB (n_ _) hb4;go_wp2;go_ret3;exact⟨rfl,hB⟩
def mP (b:Nat) (r:ByteArray):ByteArray:=decB b++⟨#[32]⟩++r
theorem rJ (b:Nat) (r:ByteArray):(mP b r).data.toList=Lib.decDigits b++32::r.data.toList:=by simp[mP,ByteArray.data_append,eM]
theorem zKT (a b:Nat) (r:ByteArray):cutV (dA a b r) (Lib.indexByte (dA a b r).data.toList 32)=.tuple #[.string (decB a),.string (mP b r),.bool true]:=by
 rw[zEr,cutV,if_pos (by omega),Int.toNat_natCast];have e1:qE (dA a b r) (decB a).size=decB a:=kG (by rw[oT,vQ,Lib.size_eq,eM];simp);have e2:qD (dA a b r) ((decB a).size+1)=mP b r:=kG (by rw[oM,vQ,rJ,Lib.size_eq,eM,List.drop_append];simp);rw[e1,e2]
theorem zJH (b:Nat) (r:ByteArray):cutV (mP b r) (Lib.indexByte (mP b r).data.toList 32)=.tuple #[.string (decB b),.string r,.bool true]:=by
 have i:Lib.indexByte (mP b r).data.toList 32=(decB b).size:=by
  rw[rJ,zDE (fun c hc=>rM (zAu b c hc) 32 (by decide)),Lib.size_eq,eM]
 rw[i,cutV,if_pos (by omega),Int.toNat_natCast];have e1:qE (mP b r) (decB b).size=decB b:=kG (by rw[oT,rJ,Lib.size_eq,eM];simp);have e2:qD (mP b r) ((decB b).size+1)=r:=kG (by rw[oM,rJ,Lib.size_eq,eM,List.drop_append];simp);rw[e1,e2]
theorem zIl (a b:Nat) (r:ByteArray) (ha:a<=9999999) (hb:b<=9999999):(dA a b r).size<=r.size+16/\(mP b r).size<=r.size+8:=by
 have ea:=eQ a ha;have eb:=eQ b hb;rw[Lib.size_eq,Lib.size_eq,Lib.size_eq,vQ,rJ];simp only[List.length_append,List.length_cons];omega
end
end Go.Proofs.YtnboipekkahmnaaGreatDoor
namespace Go.Proofs
open Obj renaming cells→o_
open Go.RowKit.Below renaming refl→r_
open Nat renaming le_refl→n_
open Tryz renaming prog→p_
open Value renaming string→v_,int→i_
open Go.Joins renaming below_alloc1→a_
section
open Go.Shelf
def Tryz.laysC172_ren:Go.Shelf.Ren:=⟨fun|172=>220|244=>258|245=>259|247=>292|279=>293|280=>294|281=>295|282=>296|287=>319|316=>320|171=>178|205=>321|321=>337|322=>338|243=>234|246=>272|283=>310|284=>311|285=>312|286=>313|129=>306|317=>332|318=>333|319=>334|320=>335|337=>342|338=>343|n=>n,fun|9=>9|3=>3|75=>42|76=>45|4=>4|5=>5|167=>367|37=>247|0=>0|85=>368|2=>2|168=>370|53=>35|175=>393|46=>311|210=>396|127=>339|145=>411|143=>409|21=>21|171=>383|173=>385|212=>405|51=>350|20=>20|213=>406|232=>415|233=>416|80=>267|n=>n,fun|15=>1|16=>2|17=>3|18=>4|19=>5|n=>n⟩
theorem Tryz.laysC172:Go.Proofs.LaysC.n172 p_ Tryz.laysC172_ren:={
 mixed:=by kernel_rfl
 f129:=Tryz.func306.trans (congrArg some (by kernel_rfl))
 f171:=Tryz.func178.trans (congrArg some (by kernel_rfl))
 f172:=Tryz.func220.trans (congrArg some (by kernel_rfl))
 f205:=Tryz.func321.trans (congrArg some (by kernel_rfl))
 f243:=Tryz.func234.trans (congrArg some (by kernel_rfl))
 f244:=Tryz.func258.trans (congrArg some (by kernel_rfl))
 f245:=Tryz.func259.trans (congrArg some (by kernel_rfl))
 f246:=Tryz.func272.trans (congrArg some (by kernel_rfl))
 f247:=Tryz.func292.trans (congrArg some (by kernel_rfl))
 f279:=Tryz.func293.trans (congrArg some (by kernel_rfl))
 f280:=Tryz.func294.trans (congrArg some (by kernel_rfl))
 f281:=Tryz.func295.trans (congrArg some (by kernel_rfl))
 f282:=Tryz.func296.trans (congrArg some (by kernel_rfl))
 f283:=Tryz.func310.trans (congrArg some (by kernel_rfl))
 f284:=Tryz.func311.trans (congrArg some (by kernel_rfl))
 f285:=Tryz.func312.trans (congrArg some (by kernel_rfl))
 f286:=Tryz.func313.trans (congrArg some (by kernel_rfl))
 f287:=Tryz.func319.trans (congrArg some (by kernel_rfl))
 f316:=Tryz.func320.trans (congrArg some (by kernel_rfl))
 f317:=Tryz.func332.trans (congrArg some (by kernel_rfl))
 f318:=Tryz.func333.trans (congrArg some (by kernel_rfl))
 f319:=Tryz.func334.trans (congrArg some (by kernel_rfl))
 f320:=Tryz.func335.trans (congrArg some (by kernel_rfl))
 f321:=Tryz.func337.trans (congrArg some (by kernel_rfl))
 f322:=Tryz.func338.trans (congrArg some (by kernel_rfl))
 f337:=Tryz.func342.trans (congrArg some (by kernel_rfl))
 f338:=Tryz.func343.trans (congrArg some (by kernel_rfl))
 t0:=Tryz.underlying0
 a0:=Tryz.isAgg0
 z0:=Tryz.sizeOf0
 v0:=Tryz.zeroValue0
 t2:=Tryz.underlying2
 a2:=Tryz.isAgg2
 z2:=Tryz.sizeOf2
 v2:=Tryz.zeroValue2
 t3:=Tryz.underlying3
 a3:=Tryz.isAgg3
 z3:=Tryz.sizeOf3
 v3:=Tryz.zeroValue3
 t4:=Tryz.underlying4
 a4:=Tryz.isAgg4
 z4:=Tryz.sizeOf4
 v4:=Tryz.zeroValue4
 t5:=Tryz.underlying5
 a5:=Tryz.isAgg5
 z5:=Tryz.sizeOf5
 v5:=Tryz.zeroValue5
 t9:=Tryz.underlying9
 a9:=Tryz.isAgg9
 z9:=Tryz.sizeOf9
 v9:=Tryz.zeroValue9
 t20:=Tryz.underlying20
 a20:=Tryz.isAgg20
 z20:=Tryz.sizeOf20
 v20:=Tryz.zeroValue20
 t21:=Tryz.underlying21
 a21:=Tryz.isAgg21
 z21:=Tryz.sizeOf21
 v21:=Tryz.zeroValue21
 t37:=Tryz.underlying247
 a37:=Tryz.isAgg247
 z37:=Tryz.sizeOf247
 v37:=Tryz.zeroValue247
 t46:=Tryz.underlying311
 a46:=Tryz.isAgg311
 z46:=Tryz.sizeOf311
 v46:=Tryz.zeroValue311
 t51:=Tryz.underlying350
 a51:=Tryz.isAgg350
 z51:=Tryz.sizeOf350
 v51:=Tryz.zeroValue350
 t53:=Tryz.underlying35
 a53:=Tryz.isAgg35
 z53:=Tryz.sizeOf35
 v53:=Tryz.zeroValue35
 t75:=Tryz.underlying42
 a75:=Tryz.isAgg42
 z75:=Tryz.sizeOf42
 v75:=Tryz.zeroValue42
 t76:=Tryz.underlying45
 a76:=Tryz.isAgg45
 z76:=Tryz.sizeOf45
 v76:=Tryz.zeroValue45
 t85:=Tryz.underlying368
 a85:=Tryz.isAgg368
 z85:=Tryz.sizeOf368
 v85:=Tryz.zeroValue368
 t127:=Tryz.underlying339
 a127:=Tryz.isAgg339
 z127:=Tryz.sizeOf339
 v127:=Tryz.zeroValue339
 t143:=Tryz.underlying409
 a143:=Tryz.isAgg409
 z143:=Tryz.sizeOf409
 v143:=Tryz.zeroValue409
 t145:=Tryz.underlying411
 a145:=Tryz.isAgg411
 z145:=Tryz.sizeOf411
 v145:=Tryz.zeroValue411
 t167:=Tryz.underlying367
 a167:=Tryz.isAgg367
 z167:=Tryz.sizeOf367
 v167:=Tryz.zeroValue367
 t168:=Tryz.underlying370
 a168:=Tryz.isAgg370
 z168:=Tryz.sizeOf370
 v168:=Tryz.zeroValue370
 t171:=Tryz.underlying383
 a171:=Tryz.isAgg383
 z171:=Tryz.sizeOf383
 v171:=Tryz.zeroValue383
 t173:=Tryz.underlying385
 a173:=Tryz.isAgg385
 z173:=Tryz.sizeOf385
 v173:=Tryz.zeroValue385
 t175:=Tryz.underlying393
 a175:=Tryz.isAgg393
 z175:=Tryz.sizeOf393
 v175:=Tryz.zeroValue393
 t210:=Tryz.underlying396
 a210:=Tryz.isAgg396
 z210:=Tryz.sizeOf396
 v210:=Tryz.zeroValue396
 t212:=Tryz.underlying405
 a212:=Tryz.isAgg405
 z212:=Tryz.sizeOf405
 v212:=Tryz.zeroValue405
 t213:=Tryz.underlying406
 a213:=Tryz.isAgg406
 z213:=Tryz.sizeOf406
 t232:=Tryz.underlying415
 a232:=Tryz.isAgg415
 z232:=Tryz.sizeOf415
 v232:=Tryz.zeroValue415
 t233:=Tryz.underlying416
 a233:=Tryz.isAgg416
 z233:=Tryz.sizeOf416
 v233:=Tryz.zeroValue416
 g15:=by kernel_rfl
 g16:=by kernel_rfl
 g17:=by kernel_rfl
 g18:=by kernel_rfl
 g19:=by kernel_rfl
 t80:=Tryz.underlying267
 a80:=Tryz.isAgg267
 z80:=Tryz.sizeOf267
 v80:=Tryz.zeroValue267
 i0:=by kernel_rfl
 i2:=by kernel_rfl
 i3:=by kernel_rfl
 i4:=by kernel_rfl
 i5:=by kernel_rfl
 i9:=by kernel_rfl
 i20:=by kernel_rfl
 i21:=by kernel_rfl
 i37:=by kernel_rfl
 i46:=by kernel_rfl
 i51:=by kernel_rfl
 i53:=by kernel_rfl
 i75:=by kernel_rfl
 i76:=by kernel_rfl
 i80:=by kernel_rfl
 i85:=by kernel_rfl
 i127:=by kernel_rfl
 i143:=by kernel_rfl
 i145:=by kernel_rfl
 i167:=by kernel_rfl
 i168:=by kernel_rfl
 i171:=by kernel_rfl
 i173:=by kernel_rfl
 i175:=by kernel_rfl
 i210:=by kernel_rfl
 i212:=by kernel_rfl
 i232:=by kernel_rfl
 i233:=by kernel_rfl
 m15:=by kernel_rfl
 m16:=by kernel_rfl
 m17:=by kernel_rfl
 m18:=by kernel_rfl
 m19:=by kernel_rfl
 c0:=by kernel_rfl
 c2:=by kernel_rfl
 c3:=by kernel_rfl
 c4:=by kernel_rfl
 c5:=by kernel_rfl
 c9:=by kernel_rfl
 c20:=by kernel_rfl
 c21:=by kernel_rfl
 c37:=by kernel_rfl
 c46:=by kernel_rfl
 c51:=by kernel_rfl
 c53:=by kernel_rfl
 c75:=by kernel_rfl
 c76:=by kernel_rfl
 c80:=by kernel_rfl
 c85:=by kernel_rfl
 c127:=by kernel_rfl
 c143:=by kernel_rfl
 c145:=by kernel_rfl
 c167:=by kernel_rfl
 c168:=by kernel_rfl
 c171:=by kernel_rfl
 c173:=by kernel_rfl
 c175:=by kernel_rfl
 c210:=by kernel_rfl
 c212:=by kernel_rfl
 c213:=by kernel_rfl
 c232:=by kernel_rfl
 c233:=by kernel_rfl }
open Go.RowKit in
theorem Tryz.strconv_Atoi_ok (s:ByteArray) (hmax:s.size<=9223372036854775806) (v:Int) (h:Lib.atoiAll s.data.toList=.ok v) (w:World):
  Calls p_ 220 #[.string s] w fun e w'=>e=.returned (.tuple #[.int .i64 v,.nilIface])/\(w'=w∨∃ t,w'=Lib.bytesWorld w 5 t):=Any.strconv_Atoi_ok Tryz.laysC172 s hmax v h w
open Go.RowKit in
theorem Tryz.strconv_Atoi_syntax_var (s:ByteArray) (hlim:s.size<=281474976710656) (h:Lib.atoiAll s.data.toList=.«syntax») (tp:TypeId) (p:Value) (w:World) (hvar:w.var? p_ "strconv.ErrSyntax" = some #[.iface tp p]):
  Calls p_ 220 #[.string s] w fun e w'=>∃ N,e=.returned (.tuple #[.int .i64 0,.iface 370 (.pointer (some ⟨N,0,none⟩))])/\w.heap.size<=N/\w'.heap[N]?=some (.cells #[.string ⟨#[65,116,111,105]⟩,.string s,.iface tp p] 396 (0,0))/\Below w.heap.size w w':=Any.strconv_Atoi_syntax_var Tryz.laysC172 s hlim h tp p w hvar
open Go.RowKit in
theorem Tryz.strconv_Atoi_range_var (s:ByteArray) (hlim:s.size<=281474976710656) (h:Lib.atoiAll s.data.toList=.range) (tp:TypeId) (p:Value) (w:World) (hvar:w.var? p_ "strconv.ErrRange" = some #[.iface tp p]):
  Calls p_ 220 #[.string s] w fun e w'=>∃ N,e=.returned (.tuple #[.int .i64 (Lib.atoiSat s.data.toList),.iface 370 (.pointer (some ⟨N,0,none⟩))])/\w.heap.size<=N/\w'.heap[N]?=some (.cells #[.string ⟨#[65,116,111,105]⟩,.string s,.iface tp p] 396 (0,0))/\Below w.heap.size w w':=Any.strconv_Atoi_range_var Tryz.laysC172 s hlim h tp p w hvar
end
end Go.Proofs
namespace Go.Proofs.YtnboipekkahmnaaGreatDoor
open Obj renaming cells→o_
open Go.RowKit.Below renaming refl→r_
open Nat renaming le_refl→n_
open Tryz renaming prog→p_
open Value renaming string→v_,int→i_
open Go.Joins renaming below_alloc1→a_
section
open Go.RowKit Go.Joins
def zCq (w:World) (name:String):Prop:=∃ tp p,w.var? p_ name=some #[.iface tp p]
structure Laid (w:World):Prop where
 tab:Lib.TabIs p_ w "internal/strconv.uint64pow10" .u64 Lib.pow10Tab
 syn:zCq w "strconv.ErrSyntax"
 rng:zCq w "strconv.ErrRange"
theorem zBP:Tryz.prog.globalNamed "strconv.ErrSyntax" = some 1:=by kernel_rfl
theorem zAY:Tryz.prog.globalNamed "strconv.ErrRange" = some 2:=by kernel_rfl
theorem iL {w w':World} (h:Laid w) (hb:Below w.heap.size w w'):Laid w':=by
 obtain⟨t,⟨a,b,hs⟩,⟨c,d,hr⟩⟩:=h;exact⟨rQ t hb,⟨a,b,var_stays zBP hs hb (n_ _)⟩,⟨c,d,var_stays zAY hr hb (n_ _)⟩⟩
theorem yD (s:ByteArray) (hs:s.size<=1000):∃ x:Int,∀ w,Laid w->
  Calls p_ 220 #[.string s] w fun e w'=>(∃ ev,e=.returned (.tuple #[.int .i64 x,ev]))/\Below w.heap.size w w':=by
 cases h:Lib.atoiAll s.data.toList with
 | ok v=>
  refine⟨v,fun w _=>(Tryz.strconv_Atoi_ok s (by omega) v h w).mono ?_⟩;rintro e w' ⟨he,hw⟩;refine⟨⟨_,he⟩,?_⟩;rcases hw with rfl|⟨t,rfl⟩
  ·exact r_ _ _
  ·exact below_bytesWorld _ w 5 t (n_ _)
 | «syntax»=>
  refine⟨0,fun w hL=>?_⟩;obtain⟨tp,p,hv⟩:=hL.syn;refine(Tryz.strconv_Atoi_syntax_var s (by omega) h tp p w hv).mono ?_;rintro e w' ⟨N,he,_,_,hb⟩;exact⟨⟨_,he⟩,hb⟩
 | range=>
  refine⟨Lib.atoiSat s.data.toList,fun w hL=>?_⟩;obtain⟨tp,p,hv⟩:=hL.rng;refine(Tryz.strconv_Atoi_range_var s (by omega) h tp p w hv).mono ?_;rintro e w' ⟨N,he,_,_,hb⟩;exact⟨⟨_,he⟩,hb⟩
theorem wP (s:ByteArray) (hs:s.size<=1000):∃ (x y:Int) (r:ByteArray),r.size<=1000/\∀ w,Laid w->
  Calls p_ 216 #[.string s] w fun e w'=>e=.returned (.tuple #[.int .i64 x,.int .i64 y,.string r])/\Below w.heap.size w w':=by
 have cut:∀ z:ByteArray,z.size<=1000->∃ (f b:ByteArray) (c:Bool),f.size<=1000/\b.size<=1000/\cutV z (Lib.indexByte z.data.toList 32)=.tuple #[.string f,.string b,.bool c]:=by
  intro z hz;unfold cutV;split
  ·refine⟨_,_,_,?_,?_,rfl⟩
   ·rw[Lib.size_eq,oT,List.length_take];have:=fR z;omega
   ·rw[Lib.size_eq,oM,List.length_drop];have:=fR z;omega
  ·exact⟨_,_,_,hz,Nat.zero_le _,rfl⟩
 obtain⟨f,b,c1,hf,hb,h1⟩:=cut s hs;obtain⟨g,r,c2,hg,hr,h2⟩:=cut b hb;obtain⟨x,hx⟩:=yD f hf;obtain⟨y,hy⟩:=yD g hg;exact⟨x,y,r,hr,fun w hL=>zDs s f b g r c1 c2 x y w (by unfold maxLen;omega) (by unfold maxLen;omega) h1 h2 (fun w' hb'=>hx w' (iL hL hb')) (fun w' hb'=>hy w' (iL hL hb'))⟩
end
end Go.Proofs.YtnboipekkahmnaaGreatDoor
namespace Go.Proofs
open Obj renaming cells→o_
open Go.RowKit.Below renaming refl→r_
open Nat renaming le_refl→n_
open Tryz renaming prog→p_
open Value renaming string→v_,int→i_
open Go.Joins renaming below_alloc1→a_
section
open Go.Shelf
def Tryz.lays172_ren:Go.Shelf.Ren:=⟨fun|172=>220|244=>258|245=>259|247=>292|279=>293|280=>294|281=>295|282=>296|287=>319|316=>320|171=>178|205=>321|321=>337|322=>338|243=>234|246=>272|283=>310|284=>311|285=>312|286=>313|129=>306|317=>332|318=>333|319=>334|320=>335|337=>342|338=>343|n=>n,fun|9=>9|3=>3|75=>42|76=>45|4=>4|5=>5|167=>367|37=>247|0=>0|85=>368|2=>2|168=>370|53=>35|175=>393|46=>311|210=>396|127=>339|145=>411|143=>409|21=>21|171=>383|173=>385|212=>405|51=>350|20=>20|213=>406|232=>415|233=>416|80=>267|n=>n,fun|15=>1|16=>2|17=>3|18=>4|19=>5|n=>n⟩
theorem Tryz.lays172:Go.Proofs.Lays.n172 p_ Tryz.lays172_ren:={
 mixed:=by kernel_rfl
 f129:=Tryz.func306.trans (congrArg some (by kernel_rfl))
 f171:=Tryz.func178.trans (congrArg some (by kernel_rfl))
 f172:=Tryz.func220.trans (congrArg some (by kernel_rfl))
 f205:=Tryz.func321.trans (congrArg some (by kernel_rfl))
 f243:=Tryz.func234.trans (congrArg some (by kernel_rfl))
 f244:=Tryz.func258.trans (congrArg some (by kernel_rfl))
 f245:=Tryz.func259.trans (congrArg some (by kernel_rfl))
 f246:=Tryz.func272.trans (congrArg some (by kernel_rfl))
 f247:=Tryz.func292.trans (congrArg some (by kernel_rfl))
 f279:=Tryz.func293.trans (congrArg some (by kernel_rfl))
 f280:=Tryz.func294.trans (congrArg some (by kernel_rfl))
 f281:=Tryz.func295.trans (congrArg some (by kernel_rfl))
 f282:=Tryz.func296.trans (congrArg some (by kernel_rfl))
 f283:=Tryz.func310.trans (congrArg some (by kernel_rfl))
 f284:=Tryz.func311.trans (congrArg some (by kernel_rfl))
 f285:=Tryz.func312.trans (congrArg some (by kernel_rfl))
 f286:=Tryz.func313.trans (congrArg some (by kernel_rfl))
 f287:=Tryz.func319.trans (congrArg some (by kernel_rfl))
 f316:=Tryz.func320.trans (congrArg some (by kernel_rfl))
 f317:=Tryz.func332.trans (congrArg some (by kernel_rfl))
 f318:=Tryz.func333.trans (congrArg some (by kernel_rfl))
 f319:=Tryz.func334.trans (congrArg some (by kernel_rfl))
 f320:=Tryz.func335.trans (congrArg some (by kernel_rfl))
 f321:=Tryz.func337.trans (congrArg some (by kernel_rfl))
 f322:=Tryz.func338.trans (congrArg some (by kernel_rfl))
 f337:=Tryz.func342.trans (congrArg some (by kernel_rfl))
 f338:=Tryz.func343.trans (congrArg some (by kernel_rfl))
 t0:=Tryz.underlying0
 a0:=Tryz.isAgg0
 z0:=Tryz.sizeOf0
 v0:=Tryz.zeroValue0
 t2:=Tryz.underlying2
 a2:=Tryz.isAgg2
 z2:=Tryz.sizeOf2
 v2:=Tryz.zeroValue2
 t3:=Tryz.underlying3
 a3:=Tryz.isAgg3
 z3:=Tryz.sizeOf3
 v3:=Tryz.zeroValue3
 t4:=Tryz.underlying4
 a4:=Tryz.isAgg4
 z4:=Tryz.sizeOf4
 v4:=Tryz.zeroValue4
 t5:=Tryz.underlying5
 a5:=Tryz.isAgg5
 z5:=Tryz.sizeOf5
 v5:=Tryz.zeroValue5
 t9:=Tryz.underlying9
 a9:=Tryz.isAgg9
 z9:=Tryz.sizeOf9
 v9:=Tryz.zeroValue9
 t20:=Tryz.underlying20
 a20:=Tryz.isAgg20
 z20:=Tryz.sizeOf20
 v20:=Tryz.zeroValue20
 t21:=Tryz.underlying21
 a21:=Tryz.isAgg21
 z21:=Tryz.sizeOf21
 v21:=Tryz.zeroValue21
 t37:=Tryz.underlying247
 a37:=Tryz.isAgg247
 z37:=Tryz.sizeOf247
 v37:=Tryz.zeroValue247
 t46:=Tryz.underlying311
 a46:=Tryz.isAgg311
 z46:=Tryz.sizeOf311
 v46:=Tryz.zeroValue311
 t51:=Tryz.underlying350
 a51:=Tryz.isAgg350
 z51:=Tryz.sizeOf350
 v51:=Tryz.zeroValue350
 t53:=Tryz.underlying35
 a53:=Tryz.isAgg35
 z53:=Tryz.sizeOf35
 v53:=Tryz.zeroValue35
 t75:=Tryz.underlying42
 a75:=Tryz.isAgg42
 z75:=Tryz.sizeOf42
 v75:=Tryz.zeroValue42
 t76:=Tryz.underlying45
 a76:=Tryz.isAgg45
 z76:=Tryz.sizeOf45
 v76:=Tryz.zeroValue45
 t85:=Tryz.underlying368
 a85:=Tryz.isAgg368
 z85:=Tryz.sizeOf368
 v85:=Tryz.zeroValue368
 t127:=Tryz.underlying339
 a127:=Tryz.isAgg339
 z127:=Tryz.sizeOf339
 v127:=Tryz.zeroValue339
 t143:=Tryz.underlying409
 a143:=Tryz.isAgg409
 z143:=Tryz.sizeOf409
 v143:=Tryz.zeroValue409
 t145:=Tryz.underlying411
 a145:=Tryz.isAgg411
 z145:=Tryz.sizeOf411
 v145:=Tryz.zeroValue411
 t167:=Tryz.underlying367
 a167:=Tryz.isAgg367
 z167:=Tryz.sizeOf367
 v167:=Tryz.zeroValue367
 t168:=Tryz.underlying370
 a168:=Tryz.isAgg370
 z168:=Tryz.sizeOf370
 v168:=Tryz.zeroValue370
 t171:=Tryz.underlying383
 a171:=Tryz.isAgg383
 z171:=Tryz.sizeOf383
 v171:=Tryz.zeroValue383
 t173:=Tryz.underlying385
 a173:=Tryz.isAgg385
 z173:=Tryz.sizeOf385
 v173:=Tryz.zeroValue385
 t175:=Tryz.underlying393
 a175:=Tryz.isAgg393
 z175:=Tryz.sizeOf393
 v175:=Tryz.zeroValue393
 t210:=Tryz.underlying396
 a210:=Tryz.isAgg396
 z210:=Tryz.sizeOf396
 v210:=Tryz.zeroValue396
 t212:=Tryz.underlying405
 a212:=Tryz.isAgg405
 z212:=Tryz.sizeOf405
 v212:=Tryz.zeroValue405
 t213:=Tryz.underlying406
 a213:=Tryz.isAgg406
 z213:=Tryz.sizeOf406
 t232:=Tryz.underlying415
 a232:=Tryz.isAgg415
 z232:=Tryz.sizeOf415
 v232:=Tryz.zeroValue415
 t233:=Tryz.underlying416
 a233:=Tryz.isAgg416
 z233:=Tryz.sizeOf416
 v233:=Tryz.zeroValue416
 g15:=by kernel_rfl
 g16:=by kernel_rfl
 g17:=by kernel_rfl
 g18:=by kernel_rfl
 g19:=by kernel_rfl }
open Go.RowKit in
theorem Tryz.strconv_Atoi (s:ByteArray) (n:Int) (hl:s.size<=18) (h:Lib.atoi s.data.toList=some n) (w:World):
  Calls p_ 220 #[.string s] w fun e w'=>e=.returned (.tuple #[.int .i64 n,.nilIface])/\∃ t,w'=Lib.bytesWorld w 5 t:=Any.strconv_Atoi Tryz.lays172 s n hl h w
end
end Go.Proofs
namespace Go.Proofs.YtnboipekkahmnaaGreatDoor
open Obj renaming cells→o_
open Go.RowKit.Below renaming refl→r_
open Nat renaming le_refl→n_
open Tryz renaming prog→p_
open Value renaming string→v_,int→i_
open Go.Joins renaming below_alloc1→a_
section
open Go.RowKit Go.Joins
theorem zDu (v:Value) (W:World):(Instr.typeAssert (.iface 114 v) 42 114 true).run p_ W=.ok (.tuple #[v,.bool true]) W:=by kernel_rfl
theorem rD (u:TypeId) (v:Value) (W:World):(binOp .eql 42 (.iface u v) .nilIface).run p_ W=.ok (.bool false) W:=by kernel_rfl
theorem bM (u:TypeId) (v:Value) (W:World):(binOp .neq 42 (.iface u v) .nilIface).run p_ W=.ok (.bool true) W:=by kernel_rfl
theorem eG (W:World):(binOp .neq 42 .nilIface .nilIface).run p_ W=.ok (.bool false) W:=by kernel_rfl
theorem zDF (n:Nat) (w:World) (hn:n<=9999999):
  Calls p_ 220 #[.string (decB n)] w fun e w'=>(∃ ev,e=.returned (.tuple #[.int .i64 n,ev]))/\Below w.heap.size w w':=
 (Tryz.strconv_Atoi (decB n) n (by rw[Lib.size_eq,eM];have:=eQ n hn;omega) (by rw[eM];exact zJY n) w).mono fun e w' ⟨he,t,hw⟩=>
  ⟨⟨_,he⟩,by rw[hw];exact below_bytesWorld _ w 5 t (n_ _)⟩
theorem yR (a b:Nat) (r:ByteArray) (w:World) (ha:a<=9999999) (hb:b<=9999999) (hr:r.size<=1000):
  Calls p_ 216 #[.string (dA a b r)] w fun e w'=>e=.returned (.tuple #[.int .i64 a,.int .i64 b,.string r])/\Below w.heap.size w w':=
 have hs:=zIl a b r ha hb
 zDs (dA a b r) (decB a) (mP b r) (decB b) r true true a b w (by unfold maxLen;omega) (by unfold maxLen;omega) (zKT a b r) (zJH b r)
  (fun w' _=>zDF a w' ha) (fun w' _=>zDF b w' hb)
theorem yV (n t:Nat) (d:ByteArray) (w:World) (hn:n<=999999) (ht:1<=t) (ht':t<=9) (hd:d.toList.isEmpty=true∨(d.toList.isEmpty=false/\bK d.data.toList=true)) (hs:d.size<=1000) (htab:Lib.TabIs p_ w "internal/strconv.uint64pow10" .u64 Lib.pow10Tab):
  Calls p_ 152 #[.string (dA n t d)] w fun e w'=>e=.returned (.tuple #[.agg #[.int .i64 n,.int .i64 t,.string d],.nilIface])/\Below w.heap.size w w':=by
 have k1:=fun w=>yR n t d w (by omega) (by omega) hs;have k2:=fun w=>kH n t d w hn ht ht' hd hs;have K1:=hide k1;have K2:=hide k2;have HT:=hide htab;have n1:=eG;clear k1 k2 htab hd;generalize dA n t d=s at *;have hB:=a_ w (o_ #[.int .i64 0,.int .i64 0,.string ⟨#[]⟩] 145);have fz:=aQ w #[i_ .i64 0,i_ .i64 0,v_ ⟨#[]⟩] 145;have r0:(w.alloc (o_ #[.int .i64 0,.int .i64 0,.string ⟨#[]⟩] 145)).cell? ⟨w.heap.size,0,none⟩=some (i_ .i64 0):=by simp
 have r1:(w.alloc (o_ #[.int .i64 0,.int .i64 0,.string ⟨#[]⟩] 145)).cell? ⟨w.heap.size,1,none⟩=some (i_ .i64 0):=by simp
 have r2:(w.alloc (o_ #[.int .i64 0,.int .i64 0,.string ⟨#[]⟩] 145)).cell? ⟨w.heap.size,2,none⟩=some (v_ ⟨#[]⟩):=by simp
 have hlt:w.heap.size<(w.alloc (o_ #[.int .i64 0,.int .i64 0,.string ⟨#[]⟩] 145)).heap.size:=by simp
 go_enter Tryz.func152,Tryz.ntmps152;go_wp2_with fail;refine(K1.out _).mono ?_;rintro e w1 ⟨rfl,hb1⟩;replace hB:=aB hB (n_ _) hb1;replace fz:=fun j=>aE hb1 hlt (fz j);replace r0:=aA hb1 r0;replace r1:=aA hb1 r1;replace r2:=aA hb1 r2;replace hlt:=Nat.lt_of_lt_of_le hlt hb1.size;have hb2:=a_ w1 (o_ #[.int .i64 n,.int .i64 t,.string d] 145);replace hB:=aB hB (n_ _) hb2;replace fz:=fun j=>aE hb2 hlt (fz j);replace r0:=aA hb2 r0;replace r1:=aA hb2 r1;replace r2:=aA hb2 r2;have q0:(w1.alloc (o_ #[.int .i64 n,.int .i64 t,.string d] 145)).cell? ⟨w1.heap.size,0,none⟩=some (i_ .i64 n):=by simp
 have q1:(w1.alloc (o_ #[.int .i64 n,.int .i64 t,.string d] 145)).cell? ⟨w1.heap.size,1,none⟩=some (i_ .i64 t):=by simp
 have q2:(w1.alloc (o_ #[.int .i64 n,.int .i64 t,.string d] 145)).cell? ⟨w1.heap.size,2,none⟩=some (v_ d):=by simp
 replace hlt:=Nat.lt_of_lt_of_le hlt hb2.size;go_wp2_with fail;refine(K2.out _ (rQ HT.out hB)).mono ?_;rintro e w2 ⟨rfl,hb3⟩;replace hB:=aB hB (n_ _) hb3;replace fz:=fun j=>aE hb3 hlt (fz j);replace r0:=aA hb3 r0;replace r1:=aA hb3 r1;replace r2:=aA hb3 r2;replace q0:=aA hb3 q0;replace q1:=aA hb3 q1;replace q2:=aA hb3 q2;clear hb1 hb2 hb3 hlt;go_wp2;exact bodyPost_ret (v:=.tuple #[.agg #[.int .i64 n,.int .i64 t,.string d],.nilIface]) (by simp[results,Tryz.results152,go_sem,r0,r1,r2]) rfl ⟨rfl,(((hB.setCell (n_ _) _).setCell (n_ _) _).setCell (n_ _) _)⟩
theorem vV (k:Int) (t u:Nat) (d:ByteArray) (w:World) (ht:t<=9) (hu:u<=2000000) (hs:d.size<=28) (htab:Lib.TabIs p_ w "internal/strconv.uint64pow10" .u64 Lib.pow10Tab):
  Calls p_ 177 #[.int .i64 k,.string (dA t u d)] w fun e w'=>e=.returned (.tuple #[.agg #[.int .i64 k,.int .i64 t,.int .i64 u,.string d],.nilIface])/\Below w.heap.size w w':=by
 have k1:=fun w=>yR t u d w (by omega) (by omega) (by omega);have k2:=fun w=>nE k t u d w ht hu hs;have K1:=hide k1;have K2:=hide k2;have HT:=hide htab;have n1:=eG;clear k1 k2 htab;generalize dA t u d=s at *;have hB:=a_ w (o_ #[.int .i64 0,.int .i64 0,.int .i64 0,.string ⟨#[]⟩] 99);have fz:=aQ w #[i_ .i64 0,i_ .i64 0,i_ .i64 0,v_ ⟨#[]⟩] 99;have r0:(w.alloc (o_ #[.int .i64 0,.int .i64 0,.int .i64 0,.string ⟨#[]⟩] 99)).cell? ⟨w.heap.size,0,none⟩=some (i_ .i64 0):=by simp
 have r1:(w.alloc (o_ #[.int .i64 0,.int .i64 0,.int .i64 0,.string ⟨#[]⟩] 99)).cell? ⟨w.heap.size,1,none⟩=some (i_ .i64 0):=by simp
 have r2:(w.alloc (o_ #[.int .i64 0,.int .i64 0,.int .i64 0,.string ⟨#[]⟩] 99)).cell? ⟨w.heap.size,2,none⟩=some (i_ .i64 0):=by simp
 have r3:(w.alloc (o_ #[.int .i64 0,.int .i64 0,.int .i64 0,.string ⟨#[]⟩] 99)).cell? ⟨w.heap.size,3,none⟩=some (v_ ⟨#[]⟩):=by simp
 have hlt:w.heap.size<(w.alloc (o_ #[.int .i64 0,.int .i64 0,.int .i64 0,.string ⟨#[]⟩] 99)).heap.size:=by simp
 go_enter Tryz.func177,Tryz.ntmps177;go_wp2_with fail;refine(K1.out _).mono ?_;rintro e w1 ⟨rfl,hb1⟩;replace hB:=aB hB (n_ _) hb1;replace fz:=fun j=>aE hb1 hlt (fz j);replace r0:=aA hb1 r0;replace r1:=aA hb1 r1;replace r2:=aA hb1 r2;replace r3:=aA hb1 r3;replace hlt:=Nat.lt_of_lt_of_le hlt hb1.size;have hb2:=a_ w1 (o_ #[.int .i64 k,.int .i64 t,.int .i64 u,.string d] 99);replace hB:=aB hB (n_ _) hb2;replace fz:=fun j=>aE hb2 hlt (fz j);replace r0:=aA hb2 r0;replace r1:=aA hb2 r1;replace r2:=aA hb2 r2;replace r3:=aA hb2 r3;have q0:(w1.alloc (o_ #[.int .i64 k,.int .i64 t,.int .i64 u,.string d] 99)).cell? ⟨w1.heap.size,0,none⟩=some (i_ .i64 k):=by simp
 have q1:(w1.alloc (o_ #[.int .i64 k,.int .i64 t,.int .i64 u,.string d] 99)).cell? ⟨w1.heap.size,1,none⟩=some (i_ .i64 t):=by simp
 have q2:(w1.alloc (o_ #[.int .i64 k,.int .i64 t,.int .i64 u,.string d] 99)).cell? ⟨w1.heap.size,2,none⟩=some (i_ .i64 u):=by simp
 have q3:(w1.alloc (o_ #[.int .i64 k,.int .i64 t,.int .i64 u,.string d] 99)).cell? ⟨w1.heap.size,3,none⟩=some (v_ d):=by simp
 replace hlt:=Nat.lt_of_lt_of_le hlt hb2.size;go_wp2_with fail;refine(K2.out _ (rQ HT.out hB)).mono ?_;rintro e w2 ⟨rfl,hb3⟩;replace hB:=aB hB (n_ _) hb3;replace fz:=fun j=>aE hb3 hlt (fz j);replace r0:=aA hb3 r0;replace r1:=aA hb3 r1;replace r2:=aA hb3 r2;replace r3:=aA hb3 r3;replace q0:=aA hb3 q0;replace q1:=aA hb3 q1;replace q2:=aA hb3 q2;replace q3:=aA hb3 q3;clear hb1 hb2 hb3 hlt;go_wp2;exact bodyPost_ret (v:=.tuple #[.agg #[.int .i64 k,.int .i64 t,.int .i64 u,.string d],.nilIface]) (by simp[results,Tryz.results177,go_sem,r0,r1,r2,r3]) rfl ⟨rfl,((((hB.setCell (n_ _) _).setCell (n_ _) _).setCell (n_ _) _).setCell (n_ _) _)⟩
theorem zAn (s:ByteArray) (x y:Int) (r:ByteArray) (c:Int) (w:World) (hL:Laid w)
  (k1:∀ w',Laid w'->Calls p_ 216 #[.string s] w' fun e w''=>e=.returned (.tuple #[.int .i64 x,.int .i64 y,.string r])/\Below w'.heap.size w' w'')
  (k2:∀ w',Laid w'->Calls p_ 172 #[.agg #[.int .i64 x,.int .i64 y,.string r]] w' fun e w''=>e=.returned (.tuple #[.string ⟨#[]⟩,.iface 114 (.int .i64 c)])/\Below w'.heap.size w' w''):
  Calls p_ 152 #[.string s] w fun e w'=>e=.returned (.tuple #[.agg #[.int .i64 0,.int .i64 0,.string ⟨#[]⟩],.iface 114 (.int .i64 4)])/\Below w.heap.size w w':=by
 have K1:=hide k1;have K2:=hide k2;have HT:=hide hL;have n1:=bM 114;clear k1 k2 hL;have hB:=a_ w (o_ #[.int .i64 0,.int .i64 0,.string ⟨#[]⟩] 145);have fz:=aQ w #[i_ .i64 0,i_ .i64 0,v_ ⟨#[]⟩] 145;have r0:(w.alloc (o_ #[.int .i64 0,.int .i64 0,.string ⟨#[]⟩] 145)).cell? ⟨w.heap.size,0,none⟩=some (i_ .i64 0):=by simp
 have r1:(w.alloc (o_ #[.int .i64 0,.int .i64 0,.string ⟨#[]⟩] 145)).cell? ⟨w.heap.size,1,none⟩=some (i_ .i64 0):=by simp
 have r2:(w.alloc (o_ #[.int .i64 0,.int .i64 0,.string ⟨#[]⟩] 145)).cell? ⟨w.heap.size,2,none⟩=some (v_ ⟨#[]⟩):=by simp
 have hlt:w.heap.size<(w.alloc (o_ #[.int .i64 0,.int .i64 0,.string ⟨#[]⟩] 145)).heap.size:=by simp
 go_enter Tryz.func152,Tryz.ntmps152;go_wp2_with fail;refine(K1.out _ (iL HT.out hB)).mono ?_;rintro e w1 ⟨rfl,hb1⟩;replace hB:=aB hB (n_ _) hb1;replace fz:=fun j=>aE hb1 hlt (fz j);replace r0:=aA hb1 r0;replace r1:=aA hb1 r1;replace r2:=aA hb1 r2;replace hlt:=Nat.lt_of_lt_of_le hlt hb1.size;have hb2:=a_ w1 (o_ #[.int .i64 x,.int .i64 y,.string r] 145);replace hB:=aB hB (n_ _) hb2;replace fz:=fun j=>aE hb2 hlt (fz j);replace r0:=aA hb2 r0;replace r1:=aA hb2 r1;replace r2:=aA hb2 r2;have q0:(w1.alloc (o_ #[.int .i64 x,.int .i64 y,.string r] 145)).cell? ⟨w1.heap.size,0,none⟩=some (i_ .i64 x):=by simp
 have q1:(w1.alloc (o_ #[.int .i64 x,.int .i64 y,.string r] 145)).cell? ⟨w1.heap.size,1,none⟩=some (i_ .i64 y):=by simp
 have q2:(w1.alloc (o_ #[.int .i64 x,.int .i64 y,.string r] 145)).cell? ⟨w1.heap.size,2,none⟩=some (v_ r):=by simp
 replace hlt:=Nat.lt_of_lt_of_le hlt hb2.size;go_wp2_with fail;refine(K2.out _ (iL HT.out hB)).mono ?_;rintro e w2 ⟨rfl,hb3⟩;replace hB:=aB hB (n_ _) hb3;replace fz:=fun j=>aE hb3 hlt (fz j);replace r0:=aA hb3 r0;replace r1:=aA hb3 r1;replace r2:=aA hb3 r2;replace q0:=aA hb3 q0;replace q1:=aA hb3 q1;replace q2:=aA hb3 q2;clear hb1 hb2 hb3 hlt;go_wp2;exact bodyPost_ret (v:=.tuple #[.agg #[.int .i64 0,.int .i64 0,.string ⟨#[]⟩],.iface 114 (.int .i64 4)]) (by simp[results,Tryz.results152,go_sem,r0,r1,r2]) rfl ⟨rfl,(((hB.setCell (n_ _) _).setCell (n_ _) _).setCell (n_ _) _)⟩
theorem zCh (s:ByteArray) (x y:Int) (r:ByteArray) (T:ByteArray) (hne:¬T.toList=s.toList) (w:World) (hL:Laid w)
  (k1:∀ w',Laid w'->Calls p_ 216 #[.string s] w' fun e w''=>e=.returned (.tuple #[.int .i64 x,.int .i64 y,.string r])/\Below w'.heap.size w' w'')
  (k2:∀ w',Laid w'->Calls p_ 172 #[.agg #[.int .i64 x,.int .i64 y,.string r]] w' fun e w''=>e=.returned (.tuple #[.string T,.nilIface])/\Below w'.heap.size w' w''):
  Calls p_ 152 #[.string s] w fun e w'=>e=.returned (.tuple #[.agg #[.int .i64 0,.int .i64 0,.string ⟨#[]⟩],.iface 114 (.int .i64 4)])/\Below w.heap.size w w':=by
 have K1:=hide k1;have K2:=hide k2;have HT:=hide hL;have n1:=eG;have hn2:(T.toList==s.toList)=false:=beq_eq_false_iff_ne.2 hne;have hn3:(T.toList != s.toList)=true:=bne_iff_ne.2 hne;clear k1 k2 hL;have hB:=a_ w (o_ #[.int .i64 0,.int .i64 0,.string ⟨#[]⟩] 145);have fz:=aQ w #[i_ .i64 0,i_ .i64 0,v_ ⟨#[]⟩] 145;have r0:(w.alloc (o_ #[.int .i64 0,.int .i64 0,.string ⟨#[]⟩] 145)).cell? ⟨w.heap.size,0,none⟩=some (i_ .i64 0):=by simp
 have r1:(w.alloc (o_ #[.int .i64 0,.int .i64 0,.string ⟨#[]⟩] 145)).cell? ⟨w.heap.size,1,none⟩=some (i_ .i64 0):=by simp
 have r2:(w.alloc (o_ #[.int .i64 0,.int .i64 0,.string ⟨#[]⟩] 145)).cell? ⟨w.heap.size,2,none⟩=some (v_ ⟨#[]⟩):=by simp
 have hlt:w.heap.size<(w.alloc (o_ #[.int .i64 0,.int .i64 0,.string ⟨#[]⟩] 145)).heap.size:=by simp
 go_enter Tryz.func152,Tryz.ntmps152;go_wp2_with fail;refine(K1.out _ (iL HT.out hB)).mono ?_;rintro e w1 ⟨rfl,hb1⟩;replace hB:=aB hB (n_ _) hb1;replace fz:=fun j=>aE hb1 hlt (fz j);replace r0:=aA hb1 r0;replace r1:=aA hb1 r1;replace r2:=aA hb1 r2;replace hlt:=Nat.lt_of_lt_of_le hlt hb1.size;have hb2:=a_ w1 (o_ #[.int .i64 x,.int .i64 y,.string r] 145);replace hB:=aB hB (n_ _) hb2;replace fz:=fun j=>aE hb2 hlt (fz j);replace r0:=aA hb2 r0;replace r1:=aA hb2 r1;replace r2:=aA hb2 r2;have q0:(w1.alloc (o_ #[.int .i64 x,.int .i64 y,.string r] 145)).cell? ⟨w1.heap.size,0,none⟩=some (i_ .i64 x):=by simp
 have q1:(w1.alloc (o_ #[.int .i64 x,.int .i64 y,.string r] 145)).cell? ⟨w1.heap.size,1,none⟩=some (i_ .i64 y):=by simp
 have q2:(w1.alloc (o_ #[.int .i64 x,.int .i64 y,.string r] 145)).cell? ⟨w1.heap.size,2,none⟩=some (v_ r):=by simp
 replace hlt:=Nat.lt_of_lt_of_le hlt hb2.size;go_wp2_with fail;refine(K2.out _ (iL HT.out hB)).mono ?_;rintro e w2 ⟨rfl,hb3⟩;replace hB:=aB hB (n_ _) hb3;replace fz:=fun j=>aE hb3 hlt (fz j);replace r0:=aA hb3 r0;replace r1:=aA hb3 r1;replace r2:=aA hb3 r2;replace q0:=aA hb3 q0;replace q1:=aA hb3 q1;replace q2:=aA hb3 q2;clear hb1 hb2 hb3 hlt;go_wp2;exact bodyPost_ret (v:=.tuple #[.agg #[.int .i64 0,.int .i64 0,.string ⟨#[]⟩],.iface 114 (.int .i64 4)]) (by simp[results,Tryz.results152,go_sem,r0,r1,r2]) rfl ⟨rfl,(((hB.setCell (n_ _) _).setCell (n_ _) _).setCell (n_ _) _)⟩
theorem xZ (s:ByteArray) (k:Int) (x y:Int) (r:ByteArray) (c:Int) (w:World) (hL:Laid w)
  (k1:∀ w',Laid w'->Calls p_ 216 #[.string s] w' fun e w''=>e=.returned (.tuple #[.int .i64 x,.int .i64 y,.string r])/\Below w'.heap.size w' w'')
  (k2:∀ w',Laid w'->Calls p_ 213 #[.agg #[.int .i64 k,.int .i64 x,.int .i64 y,.string r]] w' fun e w''=>e=.returned (.tuple #[.string ⟨#[]⟩,.iface 114 (.int .i64 c)])/\Below w'.heap.size w' w''):
  Calls p_ 177 #[.int .i64 k,.string s] w fun e w'=>e=.returned (.tuple #[.agg #[.int .i64 0,.int .i64 0,.int .i64 0,.string ⟨#[]⟩],.iface 114 (.int .i64 4)])/\Below w.heap.size w w':=by
 have K1:=hide k1;have K2:=hide k2;have HT:=hide hL;have n1:=bM 114;clear k1 k2 hL;have hB:=a_ w (o_ #[.int .i64 0,.int .i64 0,.int .i64 0,.string ⟨#[]⟩] 99);have fz:=aQ w #[i_ .i64 0,i_ .i64 0,i_ .i64 0,v_ ⟨#[]⟩] 99;have r0:(w.alloc (o_ #[.int .i64 0,.int .i64 0,.int .i64 0,.string ⟨#[]⟩] 99)).cell? ⟨w.heap.size,0,none⟩=some (i_ .i64 0):=by simp
 have r1:(w.alloc (o_ #[.int .i64 0,.int .i64 0,.int .i64 0,.string ⟨#[]⟩] 99)).cell? ⟨w.heap.size,1,none⟩=some (i_ .i64 0):=by simp
 have r2:(w.alloc (o_ #[.int .i64 0,.int .i64 0,.int .i64 0,.string ⟨#[]⟩] 99)).cell? ⟨w.heap.size,2,none⟩=some (i_ .i64 0):=by simp
 have r3:(w.alloc (o_ #[.int .i64 0,.int .i64 0,.int .i64 0,.string ⟨#[]⟩] 99)).cell? ⟨w.heap.size,3,none⟩=some (v_ ⟨#[]⟩):=by simp
 have hlt:w.heap.size<(w.alloc (o_ #[.int .i64 0,.int .i64 0,.int .i64 0,.string ⟨#[]⟩] 99)).heap.size:=by simp
 go_enter Tryz.func177,Tryz.ntmps177;go_wp2_with fail;refine(K1.out _ (iL HT.out hB)).mono ?_;rintro e w1 ⟨rfl,hb1⟩;replace hB:=aB hB (n_ _) hb1;replace fz:=fun j=>aE hb1 hlt (fz j);replace r0:=aA hb1 r0;replace r1:=aA hb1 r1;replace r2:=aA hb1 r2;replace r3:=aA hb1 r3;replace hlt:=Nat.lt_of_lt_of_le hlt hb1.size;have hb2:=a_ w1 (o_ #[.int .i64 k,.int .i64 x,.int .i64 y,.string r] 99);replace hB:=aB hB (n_ _) hb2;replace fz:=fun j=>aE hb2 hlt (fz j);replace r0:=aA hb2 r0;replace r1:=aA hb2 r1;replace r2:=aA hb2 r2;replace r3:=aA hb2 r3;have q0:(w1.alloc (o_ #[.int .i64 k,.int .i64 x,.int .i64 y,.string r] 99)).cell? ⟨w1.heap.size,0,none⟩=some (i_ .i64 k):=by simp
 have q1:(w1.alloc (o_ #[.int .i64 k,.int .i64 x,.int .i64 y,.string r] 99)).cell? ⟨w1.heap.size,1,none⟩=some (i_ .i64 x):=by simp
 have q2:(w1.alloc (o_ #[.int .i64 k,.int .i64 x,.int .i64 y,.string r] 99)).cell? ⟨w1.heap.size,2,none⟩=some (i_ .i64 y):=by simp
 have q3:(w1.alloc (o_ #[.int .i64 k,.int .i64 x,.int .i64 y,.string r] 99)).cell? ⟨w1.heap.size,3,none⟩=some (v_ r):=by simp
 replace hlt:=Nat.lt_of_lt_of_le hlt hb2.size;go_wp2_with fail;refine(K2.out _ (iL HT.out hB)).mono ?_;rintro e w2 ⟨rfl,hb3⟩;replace hB:=aB hB (n_ _) hb3;replace fz:=fun j=>aE hb3 hlt (fz j);replace r0:=aA hb3 r0;replace r1:=aA hb3 r1;replace r2:=aA hb3 r2;replace r3:=aA hb3 r3;replace q0:=aA hb3 q0;replace q1:=aA hb3 q1;replace q2:=aA hb3 q2;replace q3:=aA hb3 q3;clear hb1 hb2 hb3 hlt;go_wp2;exact bodyPost_ret (v:=.tuple #[.agg #[.int .i64 0,.int .i64 0,.int .i64 0,.string ⟨#[]⟩],.iface 114 (.int .i64 4)]) (by simp[results,Tryz.results177,go_sem,r0,r1,r2,r3]) rfl ⟨rfl,((((hB.setCell (n_ _) _).setCell (n_ _) _).setCell (n_ _) _).setCell (n_ _) _)⟩
theorem zP (s:ByteArray) (k:Int) (x y:Int) (r:ByteArray) (T:ByteArray) (hne:¬T.toList=s.toList) (w:World) (hL:Laid w)
  (k1:∀ w',Laid w'->Calls p_ 216 #[.string s] w' fun e w''=>e=.returned (.tuple #[.int .i64 x,.int .i64 y,.string r])/\Below w'.heap.size w' w'')
  (k2:∀ w',Laid w'->Calls p_ 213 #[.agg #[.int .i64 k,.int .i64 x,.int .i64 y,.string r]] w' fun e w''=>e=.returned (.tuple #[.string T,.nilIface])/\Below w'.heap.size w' w''):
  Calls p_ 177 #[.int .i64 k,.string s] w fun e w'=>e=.returned (.tuple #[.agg #[.int .i64 0,.int .i64 0,.int .i64 0,.string ⟨#[]⟩],.iface 114 (.int .i64 4)])/\Below w.heap.size w w':=by
 have K1:=hide k1;have K2:=hide k2;have HT:=hide hL;have n1:=eG;have hn2:(T.toList==s.toList)=false:=beq_eq_false_iff_ne.2 hne;have hn3:(T.toList != s.toList)=true:=bne_iff_ne.2 hne;clear k1 k2 hL;have hB:=a_ w (o_ #[.int .i64 0,.int .i64 0,.int .i64 0,.string ⟨#[]⟩] 99);have fz:=aQ w #[i_ .i64 0,i_ .i64 0,i_ .i64 0,v_ ⟨#[]⟩] 99;have r0:(w.alloc (o_ #[.int .i64 0,.int .i64 0,.int .i64 0,.string ⟨#[]⟩] 99)).cell? ⟨w.heap.size,0,none⟩=some (i_ .i64 0):=by simp
 have r1:(w.alloc (o_ #[.int .i64 0,.int .i64 0,.int .i64 0,.string ⟨#[]⟩] 99)).cell? ⟨w.heap.size,1,none⟩=some (i_ .i64 0):=by simp
 have r2:(w.alloc (o_ #[.int .i64 0,.int .i64 0,.int .i64 0,.string ⟨#[]⟩] 99)).cell? ⟨w.heap.size,2,none⟩=some (i_ .i64 0):=by simp
 have r3:(w.alloc (o_ #[.int .i64 0,.int .i64 0,.int .i64 0,.string ⟨#[]⟩] 99)).cell? ⟨w.heap.size,3,none⟩=some (v_ ⟨#[]⟩):=by simp
 have hlt:w.heap.size<(w.alloc (o_ #[.int .i64 0,.int .i64 0,.int .i64 0,.string ⟨#[]⟩] 99)).heap.size:=by simp
 go_enter Tryz.func177,Tryz.ntmps177;go_wp2_with fail;refine(K1.out _ (iL HT.out hB)).mono ?_;rintro e w1 ⟨rfl,hb1⟩;replace hB:=aB hB (n_ _) hb1;replace fz:=fun j=>aE hb1 hlt (fz j);replace r0:=aA hb1 r0;replace r1:=aA hb1 r1;replace r2:=aA hb1 r2;replace r3:=aA hb1 r3;replace hlt:=Nat.lt_of_lt_of_le hlt hb1.size;have hb2:=a_ w1 (o_ #[.int .i64 k,.int .i64 x,.int .i64 y,.string r] 99);replace hB:=aB hB (n_ _) hb2;replace fz:=fun j=>aE hb2 hlt (fz j);replace r0:=aA hb2 r0;replace r1:=aA hb2 r1;replace r2:=aA hb2 r2;replace r3:=aA hb2 r3;have q0:(w1.alloc (o_ #[.int .i64 k,.int .i64 x,.int .i64 y,.string r] 99)).cell? ⟨w1.heap.size,0,none⟩=some (i_ .i64 k):=by simp
 have q1:(w1.alloc (o_ #[.int .i64 k,.int .i64 x,.int .i64 y,.string r] 99)).cell? ⟨w1.heap.size,1,none⟩=some (i_ .i64 x):=by simp
 have q2:(w1.alloc (o_ #[.int .i64 k,.int .i64 x,.int .i64 y,.string r] 99)).cell? ⟨w1.heap.size,2,none⟩=some (i_ .i64 y):=by simp
 have q3:(w1.alloc (o_ #[.int .i64 k,.int .i64 x,.int .i64 y,.string r] 99)).cell? ⟨w1.heap.size,3,none⟩=some (v_ r):=by simp
 replace hlt:=Nat.lt_of_lt_of_le hlt hb2.size;go_wp2_with fail;refine(K2.out _ (iL HT.out hB)).mono ?_;rintro e w2 ⟨rfl,hb3⟩;replace hB:=aB hB (n_ _) hb3;replace fz:=fun j=>aE hb3 hlt (fz j);replace r0:=aA hb3 r0;replace r1:=aA hb3 r1;replace r2:=aA hb3 r2;replace r3:=aA hb3 r3;replace q0:=aA hb3 q0;replace q1:=aA hb3 q1;replace q2:=aA hb3 q2;replace q3:=aA hb3 q3;clear hb1 hb2 hb3 hlt;go_wp2;exact bodyPost_ret (v:=.tuple #[.agg #[.int .i64 0,.int .i64 0,.int .i64 0,.string ⟨#[]⟩],.iface 114 (.int .i64 4)]) (by simp[results,Tryz.results177,go_sem,r0,r1,r2,r3]) rfl ⟨rfl,((((hB.setCell (n_ _) _).setCell (n_ _) _).setCell (n_ _) _).setCell (n_ _) _)⟩
end
def valL (l:List UInt8):Nat:=l.foldl (fun a c=>10*a+(c.toNat-48)) 0
theorem zOe (l:List UInt8) (c:UInt8):valL (l++[c])=10*valL l+(c.toNat-48):=by simp[valL]
theorem zOJ (n:Nat):1<=n->(Lib.decDigits n).head?≠some 48:=by
 induction n using Nat.strongRecOn with
 | _ n ih=>
  intro h;by_cases h10:n<10
  ·rw[Lib.decDigits_one h10];simp;intro e;have:=congrArg UInt8.toNat e;simp at this;omega
  ·rw[Lib.decDigits,dif_neg h10,List.head?_append];have:=ih (n / 10) (by omega) (by omega);have hne:=zMO (n / 10)
   cases hd:Lib.decDigits (n / 10) with
   | nil=>exact absurd hd hne
   | cons a r=>rw[hd] at this;simpa using this
theorem zOt (n:Nat):valL (Lib.decDigits n)=n:=by
 induction n using Nat.strongRecOn with
 | _ n ih=>
  by_cases h10:n<10
  ·rw[Lib.decDigits_one h10];simp[valL];omega
  ·rw[Lib.decDigits,dif_neg h10,zOe,ih (n / 10) (by omega)];simp;omega
theorem zNu (n:Nat):∀ c∈Lib.decDigits n,c≠32:=fun c hc=>rM (zAu n c hc) 32 (by decide)
def pO (n t:Nat) (d:ByteArray):Prop:=n<=999999/\1<=t/\t<=9/\(d.toList.isEmpty=true∨(d.toList.isEmpty=false/\bK d.data.toList=true))
def oX (t u:Nat) (d:ByteArray):Prop:=t<=9/\u<=2000000/\d.size<=28
section
open Go.RowKit Go.Joins
theorem zAD (c:UInt8):mL c=true↔97<=(c.toNat:Int)/\(c.toNat:Int)<=122:=by
 simp only[mL,Bool.and_eq_true,decide_eq_true_eq];omega
theorem zML (c:UInt8):eZ c=true↔48<=(c.toNat:Int)/\(c.toNat:Int)<=57:=by
 simp only[eZ,Bool.and_eq_true,decide_eq_true_eq];omega
theorem zGl {s:ByteArray} (h1:0<s.size) (h:mL s[0]=false):bK s.data.toList=false:=by
 rw[bK,fR,uD (k:=1) (by omega) (by rw[rG,vR s 0 h1];simp[gR,h]),Bool.and_false]
theorem rC (s:ByteArray) (w:World):
  Calls p_ 108 #[.string s] w fun e w'=>e=.returned (.bool (bK s.data.toList))/\w'=w:=by
 by_cases h1:1<=s.size
 ·have hz:0<s.size:=h1;by_cases h6:s.size<=6
  ·cases hc:mL s[0] with
   | false=>
    have hN:=zGl hz hc;have hL:=mt (zAD s[0]).2 (by rw[hc];simp);rw[hN];clear hN hc;go_enter Tryz.func108,Tryz.ntmps108;go_wp2
    all_goals first
     | (go_ret;exact⟨rfl,rfl⟩)
     | (exfalso;omega)
   | true=>
    obtain⟨l1,l2⟩:=(zAD s[0]).1 hc;go_enter Tryz.func108,Tryz.ntmps108;go_wp2
    go_loop [3] (fun i=>∃ k:Nat,k<=s.size/\i=.int .i64 k/\jJ s.data.toList k=true) (fun i=>s.size-(intOf i).toNat)
    case atStart=>exact⟨0,Nat.zero_le _,rfl,rfl⟩
    case round=>
     obtain⟨k,hk,rfl,hd⟩:=hrel;have HD:=hide hd;clear hd;by_cases hlt:k<s.size
     ·have HS:=hide (rG s.data.toList k);have HB:=hide (vR s k hlt);have HC:=hide hc;have HY:Hid (mL s[k]=true∨eZ s[k]=true->jJ s.data.toList (k+1)=true):=fun h=>by
       rw[HS.out,HD.out,HB.out];rcases h with h|h
       ·simp[gR,h]
       ·by_cases k0:k=0
        ·subst k0;simp[gR,HC.out]
        ·simp[gR,h,k0]
      have HN:Hid (mL s[k]=false->eZ s[k]=false->bK s.data.toList=false):=fun h h'=>by
       rw[bK,fR,uD (k:=k+1) (by omega) (by rw[HS.out,HB.out];simp[gR,h,h']),Bool.and_false]
      have HL:=hide (zAD s[k]);have HG:=hide (zML s[k]);clear hc;have hb8:(s[k].toNat:Int)<48∨(48<=(s[k].toNat:Int)/\(s[k].toNat:Int)<=57)∨(58<=(s[k].toNat:Int)/\(s[k].toNat:Int)<97)∨(97<=(s[k].toNat:Int)/\(s[k].toNat:Int)<=122)∨123<=(s[k].toNat:Int):=by omega
      rcases hb8 with b|⟨b,b'⟩|⟨b,b'⟩|⟨b,b'⟩|b
      ·replace HN:=hide (HN.out (Bool.eq_false_iff.2 fun h=>by have:=HL.out.1 h;omega) (Bool.eq_false_iff.2 fun h=>by have:=HG.out.1 h;omega));go_wp2
       all_goals first
        | (exfalso;simp only[Bool.not_eq_eq_eq_not,Bool.not_false,Bool.not_true,decide_eq_true_eq,decide_eq_false_iff_not] at *;omega)
        | (go_ret;exact⟨bB HN.out.symm,rfl⟩)
      ·replace HY:=hide (HY.out (.inr (HG.out.2 ⟨b,b'⟩)));go_wp2
       all_goals
        go_round
        case rel=>exact⟨k+1,by omega,by go_num,HY.out⟩
        case measure=>simp[intOf];omega
      ·replace HN:=hide (HN.out (Bool.eq_false_iff.2 fun h=>by have:=HL.out.1 h;omega) (Bool.eq_false_iff.2 fun h=>by have:=HG.out.1 h;omega));go_wp2
       all_goals first
        | (exfalso;simp only[Bool.not_eq_eq_eq_not,Bool.not_false,Bool.not_true,decide_eq_true_eq,decide_eq_false_iff_not] at *;omega)
        | (go_ret;exact⟨bB HN.out.symm,rfl⟩)
      ·replace HY:=hide (HY.out (.inl (HL.out.2 ⟨b,b'⟩)));go_wp2
       all_goals
        go_round
        case rel=>exact⟨k+1,by omega,by go_num,HY.out⟩
        case measure=>simp[intOf];omega
      ·replace HN:=hide (HN.out (Bool.eq_false_iff.2 fun h=>by have:=HL.out.1 h;omega) (Bool.eq_false_iff.2 fun h=>by have:=HG.out.1 h;omega));go_wp2
       all_goals first
        | (exfalso;simp only[Bool.not_eq_eq_eq_not,Bool.not_false,Bool.not_true,decide_eq_true_eq,decide_eq_false_iff_not] at *;omega)
        | (go_ret;exact⟨bB HN.out.symm,rfl⟩)
     ·go_wp2;go_ret;refine⟨bB ?_,rfl⟩;have e:k=s.size:=by omega
      have:=HD.out;rw[e] at this;rw[bK,fR,this];simp[h1,h6]
  ·go_enter Tryz.func108,Tryz.ntmps108;go_wp2;go_ret;exact⟨bB (by simp[bK,h6]),rfl⟩
 ·go_enter Tryz.func108,Tryz.ntmps108;go_wp2;go_ret;exact⟨bB (by simp[bK];omega),rfl⟩
end
end Go.Proofs.YtnboipekkahmnaaGreatDoor
