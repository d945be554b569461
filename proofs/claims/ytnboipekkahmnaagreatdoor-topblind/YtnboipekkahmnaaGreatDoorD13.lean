import Derived.Test.YtnboipekkahmnaaGreatDoorD12
set_option maxHeartbeats 8000000
set_option maxRecDepth 100000
namespace Go.Proofs
section
open Go.Shelf
def Tryz.lays172_ren:Go.Shelf.Ren:=⟨fun|172=>220|244=>258|245=>259|247=>292|279=>293|280=>294|281=>295|282=>296|287=>319|316=>320|171=>178|205=>321|321=>337|322=>338|243=>234|246=>272|283=>310|284=>311|285=>312|286=>313|129=>306|317=>332|318=>333|319=>334|320=>335|337=>342|338=>343|n=>n,fun|9=>9|3=>3|75=>42|76=>45|4=>4|5=>5|167=>367|37=>247|0=>0|85=>368|2=>2|168=>370|53=>35|175=>393|46=>311|210=>396|127=>339|145=>411|143=>409|21=>21|171=>383|173=>385|212=>405|51=>350|20=>20|213=>406|232=>415|233=>416|80=>267|n=>n,fun|15=>1|16=>2|17=>3|18=>4|19=>5|n=>n⟩
theorem Tryz.lays172:Go.Proofs.Lays.n172 Tryz.prog Tryz.lays172_ren:={
 mixed:=by kernel_rfl
 f129:=Tryz.func306.trans (congrArg some (by kernel_rfl))
 f171:=Tryz.func178.trans (congrArg some (by kernel_rfl))
 f172:=Tryz.func220.trans (congrArg some (by kernel_rfl))
 f205:=Tryz.func321.trans (congrArg some (by kernel_rfl))
 f243:=Tryz.func234.trans (congrArg some (by kernel_rfl))
 f244:=Tryz.func258.trans (congrArg some (by kernel_rfl))
 f245:=Tryz.func259.trans (congrArg some (by kernel_rfl))
 f246:=Tryz.func272.trans (congrArg some (by kernel_rfl))
 f247:=Tryz.func292.trans (congrArg some (by kernel_rfl))
 f279:=Tryz.func293.trans (congrArg some (by kernel_rfl))
 f280:=Tryz.func294.trans (congrArg some (by kernel_rfl))
 f281:=Tryz.func295.trans (congrArg some (by kernel_rfl))
 f282:=Tryz.func296.trans (congrArg some (by kernel_rfl))
 f283:=Tryz.func310.trans (congrArg some (by kernel_rfl))
 f284:=Tryz.func311.trans (congrArg some (by kernel_rfl))
 f285:=Tryz.func312.trans (congrArg some (by kernel_rfl))
 f286:=Tryz.func313.trans (congrArg some (by kernel_rfl))
 f287:=Tryz.func319.trans (congrArg some (by kernel_rfl))
 f316:=Tryz.func320.trans (congrArg some (by kernel_rfl))
 f317:=Tryz.func332.trans (congrArg some (by kernel_rfl))
 f318:=Tryz.func333.trans (congrArg some (by kernel_rfl))
 f319:=Tryz.func334.trans (congrArg some (by kernel_rfl))
 f320:=Tryz.func335.trans (congrArg some (by kernel_rfl))
 f321:=Tryz.func337.trans (congrArg some (by kernel_rfl))
 f322:=Tryz.func338.trans (congrArg some (by kernel_rfl))
 f337:=Tryz.func342.trans (congrArg some (by kernel_rfl))
 f338:=Tryz.func343.trans (congrArg some (by kernel_rfl))
 t0:=Tryz.underlying0
 a0:=Tryz.isAgg0
 z0:=Tryz.sizeOf0
 v0:=Tryz.zeroValue0
 t2:=Tryz.underlying2
 a2:=Tryz.isAgg2
 z2:=Tryz.sizeOf2
 v2:=Tryz.zeroValue2
 t3:=Tryz.underlying3
 a3:=Tryz.isAgg3
 z3:=Tryz.sizeOf3
 v3:=Tryz.zeroValue3
 t4:=Tryz.underlying4
 a4:=Tryz.isAgg4
 z4:=Tryz.sizeOf4
 v4:=Tryz.zeroValue4
 t5:=Tryz.underlying5
 a5:=Tryz.isAgg5
 z5:=Tryz.sizeOf5
 v5:=Tryz.zeroValue5
 t9:=Tryz.underlying9
 a9:=Tryz.isAgg9
 z9:=Tryz.sizeOf9
 v9:=Tryz.zeroValue9
 t20:=Tryz.underlying20
 a20:=Tryz.isAgg20
 z20:=Tryz.sizeOf20
 v20:=Tryz.zeroValue20
 t21:=Tryz.underlying21
 a21:=Tryz.isAgg21
 z21:=Tryz.sizeOf21
 v21:=Tryz.zeroValue21
 t37:=Tryz.underlying247
 a37:=Tryz.isAgg247
 z37:=Tryz.sizeOf247
 v37:=Tryz.zeroValue247
 t46:=Tryz.underlying311
 a46:=Tryz.isAgg311
 z46:=Tryz.sizeOf311
 v46:=Tryz.zeroValue311
 t51:=Tryz.underlying350
 a51:=Tryz.isAgg350
 z51:=Tryz.sizeOf350
 v51:=Tryz.zeroValue350
 t53:=Tryz.underlying35
 a53:=Tryz.isAgg35
 z53:=Tryz.sizeOf35
 v53:=Tryz.zeroValue35
 t75:=Tryz.underlying42
 a75:=Tryz.isAgg42
 z75:=Tryz.sizeOf42
 v75:=Tryz.zeroValue42
 t76:=Tryz.underlying45
 a76:=Tryz.isAgg45
 z76:=Tryz.sizeOf45
 v76:=Tryz.zeroValue45
 t85:=Tryz.underlying368
 a85:=Tryz.isAgg368
 z85:=Tryz.sizeOf368
 v85:=Tryz.zeroValue368
 t127:=Tryz.underlying339
 a127:=Tryz.isAgg339
 z127:=Tryz.sizeOf339
 v127:=Tryz.zeroValue339
 t143:=Tryz.underlying409
 a143:=Tryz.isAgg409
 z143:=Tryz.sizeOf409
 v143:=Tryz.zeroValue409
 t145:=Tryz.underlying411
 a145:=Tryz.isAgg411
 z145:=Tryz.sizeOf411
 v145:=Tryz.zeroValue411
 t167:=Tryz.underlying367
 a167:=Tryz.isAgg367
 z167:=Tryz.sizeOf367
 v167:=Tryz.zeroValue367
 t168:=Tryz.underlying370
 a168:=Tryz.isAgg370
 z168:=Tryz.sizeOf370
 v168:=Tryz.zeroValue370
 t171:=Tryz.underlying383
 a171:=Tryz.isAgg383
 z171:=Tryz.sizeOf383
 v171:=Tryz.zeroValue383
 t173:=Tryz.underlying385
 a173:=Tryz.isAgg385
 z173:=Tryz.sizeOf385
 v173:=Tryz.zeroValue385
 t175:=Tryz.underlying393
 a175:=Tryz.isAgg393
 z175:=Tryz.sizeOf393
 v175:=Tryz.zeroValue393
 t210:=Tryz.underlying396
 a210:=Tryz.isAgg396
 z210:=Tryz.sizeOf396
 v210:=Tryz.zeroValue396
 t212:=Tryz.underlying405
 a212:=Tryz.isAgg405
 z212:=Tryz.sizeOf405
 v212:=Tryz.zeroValue405
 t213:=Tryz.underlying406
 a213:=Tryz.isAgg406
 z213:=Tryz.sizeOf406
 t232:=Tryz.underlying415
 a232:=Tryz.isAgg415
 z232:=Tryz.sizeOf415
 v232:=Tryz.zeroValue415
 t233:=Tryz.underlying416
 a233:=Tryz.isAgg416
 z233:=Tryz.sizeOf416
 v233:=Tryz.zeroValue416
 g15:=by kernel_rfl
 g16:=by kernel_rfl
 g17:=by kernel_rfl
 g18:=by kernel_rfl
 g19:=by kernel_rfl }
open Go.RowKit in
theorem Tryz.strconv_Atoi (s:ByteArray) (n:Int) (hl:s.size<=18) (h:Lib.atoi s.data.toList=some n) (w:World):
  Calls Tryz.prog 220 #[.string s] w fun e w'=>e=.returned (.tuple #[.int .i64 n,.nilIface])/\∃ t,w'=Lib.bytesWorld w 5 t:=Any.strconv_Atoi Tryz.lays172 s n hl h w
end
end Go.Proofs
namespace Go.Proofs.YtnboipekkahmnaaGreatDoor
section
open Go.RowKit Go.Joins
theorem zDu (v:Value) (W:World):(Instr.typeAssert (.iface 114 v) 42 114 true).run Tryz.prog W=.ok (.tuple #[v,.bool true]) W:=by kernel_rfl
theorem rD (u:TypeId) (v:Value) (W:World):(binOp .eql 42 (.iface u v) .nilIface).run Tryz.prog W=.ok (.bool false) W:=by kernel_rfl
theorem bM (u:TypeId) (v:Value) (W:World):(binOp .neq 42 (.iface u v) .nilIface).run Tryz.prog W=.ok (.bool true) W:=by kernel_rfl
theorem eG (W:World):(binOp .neq 42 .nilIface .nilIface).run Tryz.prog W=.ok (.bool false) W:=by kernel_rfl
theorem zDF (n:Nat) (w:World) (hn:n<=9999999):
  Calls Tryz.prog 220 #[.string (decB n)] w fun e w'=>(∃ ev,e=.returned (.tuple #[.int .i64 n,ev]))/\Below w.heap.size w w':=
 (Tryz.strconv_Atoi (decB n) n (by rw[Lib.size_eq,eM];have:=eQ n hn;omega) (by rw[eM];exact zJY n) w).mono fun e w' ⟨he,t,hw⟩=>
  ⟨⟨_,he⟩,by rw[hw];exact below_bytesWorld _ w 5 t (Nat.le_refl _)⟩
theorem yR (a b:Nat) (r:ByteArray) (w:World) (ha:a<=9999999) (hb:b<=9999999) (hr:r.size<=1000):
  Calls Tryz.prog 216 #[.string (dA a b r)] w fun e w'=>e=.returned (.tuple #[.int .i64 a,.int .i64 b,.string r])/\Below w.heap.size w w':=
 have hs:=zIl a b r ha hb
 zDs (dA a b r) (decB a) (mP b r) (decB b) r true true a b w (by unfold maxLen;omega) (by unfold maxLen;omega) (zKT a b r) (zJH b r)
  (fun w' _=>zDF a w' ha) (fun w' _=>zDF b w' hb)
theorem yV (n t:Nat) (d:ByteArray) (w:World) (hn:n<=999999) (ht:1<=t) (ht':t<=9) (hd:d.toList.isEmpty=true∨(d.toList.isEmpty=false/\bK d.data.toList=true)) (hs:d.size<=1000) (htab:Lib.TabIs Tryz.prog w "internal/strconv.uint64pow10" .u64 Lib.pow10Tab):
  Calls Tryz.prog 152 #[.string (dA n t d)] w fun e w'=>e=.returned (.tuple #[.agg #[.int .i64 n,.int .i64 t,.string d],.nilIface])/\Below w.heap.size w w':=by
 have k1:=fun w=>yR n t d w (by omega) (by omega) hs;have k2:=fun w=>kH n t d w hn ht ht' hd hs;have K1:=hide k1;have K2:=hide k2;have HT:=hide htab;have n1:=eG;clear k1 k2 htab hd;generalize dA n t d=s at *;have hB:=below_alloc1 w (Obj.cells #[.int .i64 0,.int .i64 0,.string ⟨#[]⟩] 145);have fz:=aQ w #[Value.int .i64 0,Value.int .i64 0,Value.string ⟨#[]⟩] 145;have r0:(w.alloc (Obj.cells #[.int .i64 0,.int .i64 0,.string ⟨#[]⟩] 145)).cell? ⟨w.heap.size,0,none⟩=some (Value.int .i64 0):=by simp
 have r1:(w.alloc (Obj.cells #[.int .i64 0,.int .i64 0,.string ⟨#[]⟩] 145)).cell? ⟨w.heap.size,1,none⟩=some (Value.int .i64 0):=by simp
 have r2:(w.alloc (Obj.cells #[.int .i64 0,.int .i64 0,.string ⟨#[]⟩] 145)).cell? ⟨w.heap.size,2,none⟩=some (Value.string ⟨#[]⟩):=by simp
 have hlt:w.heap.size<(w.alloc (Obj.cells #[.int .i64 0,.int .i64 0,.string ⟨#[]⟩] 145)).heap.size:=by simp
 go_enter Tryz.func152,Tryz.ntmps152;go_wp2_with fail;refine(K1.out _).mono ?_;rintro e w1 ⟨rfl,hb1⟩;replace hB:=aB hB (Nat.le_refl _) hb1;replace fz:=fun j=>aE hb1 hlt (fz j);replace r0:=aA hb1 r0;replace r1:=aA hb1 r1;replace r2:=aA hb1 r2;replace hlt:=Nat.lt_of_lt_of_le hlt hb1.size;have hb2:=below_alloc1 w1 (Obj.cells #[.int .i64 n,.int .i64 t,.string d] 145);replace hB:=aB hB (Nat.le_refl _) hb2;replace fz:=fun j=>aE hb2 hlt (fz j);replace r0:=aA hb2 r0;replace r1:=aA hb2 r1;replace r2:=aA hb2 r2;have q0:(w1.alloc (Obj.cells #[.int .i64 n,.int .i64 t,.string d] 145)).cell? ⟨w1.heap.size,0,none⟩=some (Value.int .i64 n):=by simp
 have q1:(w1.alloc (Obj.cells #[.int .i64 n,.int .i64 t,.string d] 145)).cell? ⟨w1.heap.size,1,none⟩=some (Value.int .i64 t):=by simp
 have q2:(w1.alloc (Obj.cells #[.int .i64 n,.int .i64 t,.string d] 145)).cell? ⟨w1.heap.size,2,none⟩=some (Value.string d):=by simp
 replace hlt:=Nat.lt_of_lt_of_le hlt hb2.size;go_wp2_with fail;refine(K2.out _ (rQ HT.out hB)).mono ?_;rintro e w2 ⟨rfl,hb3⟩;replace hB:=aB hB (Nat.le_refl _) hb3;replace fz:=fun j=>aE hb3 hlt (fz j);replace r0:=aA hb3 r0;replace r1:=aA hb3 r1;replace r2:=aA hb3 r2;replace q0:=aA hb3 q0;replace q1:=aA hb3 q1;replace q2:=aA hb3 q2;clear hb1 hb2 hb3 hlt;go_wp2;exact bodyPost_ret (v:=.tuple #[.agg #[.int .i64 n,.int .i64 t,.string d],.nilIface]) (by simp[results,Tryz.results152,go_sem,r0,r1,r2]) rfl ⟨rfl,(((hB.setCell (Nat.le_refl _) _).setCell (Nat.le_refl _) _).setCell (Nat.le_refl _) _)⟩
theorem vV (k:Int) (t u:Nat) (d:ByteArray) (w:World) (ht:t<=9) (hu:u<=2000000) (hs:d.size<=28) (htab:Lib.TabIs Tryz.prog w "internal/strconv.uint64pow10" .u64 Lib.pow10Tab):
  Calls Tryz.prog 177 #[.int .i64 k,.string (dA t u d)] w fun e w'=>e=.returned (.tuple #[.agg #[.int .i64 k,.int .i64 t,.int .i64 u,.string d],.nilIface])/\Below w.heap.size w w':=by
 have k1:=fun w=>yR t u d w (by omega) (by omega) (by omega);have k2:=fun w=>nE k t u d w ht hu hs;have K1:=hide k1;have K2:=hide k2;have HT:=hide htab;have n1:=eG;clear k1 k2 htab;generalize dA t u d=s at *;have hB:=below_alloc1 w (Obj.cells #[.int .i64 0,.int .i64 0,.int .i64 0,.string ⟨#[]⟩] 99);have fz:=aQ w #[Value.int .i64 0,Value.int .i64 0,Value.int .i64 0,Value.string ⟨#[]⟩] 99;have r0:(w.alloc (Obj.cells #[.int .i64 0,.int .i64 0,.int .i64 0,.string ⟨#[]⟩] 99)).cell? ⟨w.heap.size,0,none⟩=some (Value.int .i64 0):=by simp
 have r1:(w.alloc (Obj.cells #[.int .i64 0,.int .i64 0,.int .i64 0,.string ⟨#[]⟩] 99)).cell? ⟨w.heap.size,1,none⟩=some (Value.int .i64 0):=by simp
 have r2:(w.alloc (Obj.cells #[.int .i64 0,.int .i64 0,.int .i64 0,.string ⟨#[]⟩] 99)).cell? ⟨w.heap.size,2,none⟩=some (Value.int .i64 0):=by simp
 have r3:(w.alloc (Obj.cells #[.int .i64 0,.int .i64 0,.int .i64 0,.string ⟨#[]⟩] 99)).cell? ⟨w.heap.size,3,none⟩=some (Value.string ⟨#[]⟩):=by simp
 have hlt:w.heap.size<(w.alloc (Obj.cells #[.int .i64 0,.int .i64 0,.int .i64 0,.string ⟨#[]⟩] 99)).heap.size:=by simp
 go_enter Tryz.func177,Tryz.ntmps177;go_wp2_with fail;refine(K1.out _).mono ?_;rintro e w1 ⟨rfl,hb1⟩;replace hB:=aB hB (Nat.le_refl _) hb1;replace fz:=fun j=>aE hb1 hlt (fz j);replace r0:=aA hb1 r0;replace r1:=aA hb1 r1;replace r2:=aA hb1 r2;replace r3:=aA hb1 r3;replace hlt:=Nat.lt_of_lt_of_le hlt hb1.size;have hb2:=below_alloc1 w1 (Obj.cells #[.int .i64 k,.int .i64 t,.int .i64 u,.string d] 99);replace hB:=aB hB (Nat.le_refl _) hb2;replace fz:=fun j=>aE hb2 hlt (fz j);replace r0:=aA hb2 r0;replace r1:=aA hb2 r1;replace r2:=aA hb2 r2;replace r3:=aA hb2 r3;have q0:(w1.alloc (Obj.cells #[.int .i64 k,.int .i64 t,.int .i64 u,.string d] 99)).cell? ⟨w1.heap.size,0,none⟩=some (Value.int .i64 k):=by simp
 have q1:(w1.alloc (Obj.cells #[.int .i64 k,.int .i64 t,.int .i64 u,.string d] 99)).cell? ⟨w1.heap.size,1,none⟩=some (Value.int .i64 t):=by simp
 have q2:(w1.alloc (Obj.cells #[.int .i64 k,.int .i64 t,.int .i64 u,.string d] 99)).cell? ⟨w1.heap.size,2,none⟩=some (Value.int .i64 u):=by simp
 have q3:(w1.alloc (Obj.cells #[.int .i64 k,.int .i64 t,.int .i64 u,.string d] 99)).cell? ⟨w1.heap.size,3,none⟩=some (Value.string d):=by simp
 replace hlt:=Nat.lt_of_lt_of_le hlt hb2.size;go_wp2_with fail;refine(K2.out _ (rQ HT.out hB)).mono ?_;rintro e w2 ⟨rfl,hb3⟩;replace hB:=aB hB (Nat.le_refl _) hb3;replace fz:=fun j=>aE hb3 hlt (fz j);replace r0:=aA hb3 r0;replace r1:=aA hb3 r1;replace r2:=aA hb3 r2;replace r3:=aA hb3 r3;replace q0:=aA hb3 q0;replace q1:=aA hb3 q1;replace q2:=aA hb3 q2;replace q3:=aA hb3 q3;clear hb1 hb2 hb3 hlt;go_wp2;exact bodyPost_ret (v:=.tuple #[.agg #[.int .i64 k,.int .i64 t,.int .i64 u,.string d],.nilIface]) (by simp[results,Tryz.results177,go_sem,r0,r1,r2,r3]) rfl ⟨rfl,((((hB.setCell (Nat.le_refl _) _).setCell (Nat.le_refl _) _).setCell (Nat.le_refl _) _).setCell (Nat.le_refl _) _)⟩
theorem zAn (s:ByteArray) (x y:Int) (r:ByteArray) (c:Int) (w:World) (hL:Laid w)
  (k1:∀ w',Laid w'->Calls Tryz.prog 216 #[.string s] w' fun e w''=>e=.returned (.tuple #[.int .i64 x,.int .i64 y,.string r])/\Below w'.heap.size w' w'')
  (k2:∀ w',Laid w'->Calls Tryz.prog 172 #[.agg #[.int .i64 x,.int .i64 y,.string r]] w' fun e w''=>e=.returned (.tuple #[.string ⟨#[]⟩,.iface 114 (.int .i64 c)])/\Below w'.heap.size w' w''):
  Calls Tryz.prog 152 #[.string s] w fun e w'=>e=.returned (.tuple #[.agg #[.int .i64 0,.int .i64 0,.string ⟨#[]⟩],.iface 114 (.int .i64 4)])/\Below w.heap.size w w':=by
 have K1:=hide k1;have K2:=hide k2;have HT:=hide hL;have n1:=bM 114;clear k1 k2 hL;have hB:=below_alloc1 w (Obj.cells #[.int .i64 0,.int .i64 0,.string ⟨#[]⟩] 145);have fz:=aQ w #[Value.int .i64 0,Value.int .i64 0,Value.string ⟨#[]⟩] 145;have r0:(w.alloc (Obj.cells #[.int .i64 0,.int .i64 0,.string ⟨#[]⟩] 145)).cell? ⟨w.heap.size,0,none⟩=some (Value.int .i64 0):=by simp
 have r1:(w.alloc (Obj.cells #[.int .i64 0,.int .i64 0,.string ⟨#[]⟩] 145)).cell? ⟨w.heap.size,1,none⟩=some (Value.int .i64 0):=by simp
 have r2:(w.alloc (Obj.cells #[.int .i64 0,.int .i64 0,.string ⟨#[]⟩] 145)).cell? ⟨w.heap.size,2,none⟩=some (Value.string ⟨#[]⟩):=by simp
 have hlt:w.heap.size<(w.alloc (Obj.cells #[.int .i64 0,.int .i64 0,.string ⟨#[]⟩] 145)).heap.size:=by simp
 go_enter Tryz.func152,Tryz.ntmps152;go_wp2_with fail;refine(K1.out _ (iL HT.out hB)).mono ?_;rintro e w1 ⟨rfl,hb1⟩;replace hB:=aB hB (Nat.le_refl _) hb1;replace fz:=fun j=>aE hb1 hlt (fz j);replace r0:=aA hb1 r0;replace r1:=aA hb1 r1;replace r2:=aA hb1 r2;replace hlt:=Nat.lt_of_lt_of_le hlt hb1.size;have hb2:=below_alloc1 w1 (Obj.cells #[.int .i64 x,.int .i64 y,.string r] 145);replace hB:=aB hB (Nat.le_refl _) hb2;replace fz:=fun j=>aE hb2 hlt (fz j);replace r0:=aA hb2 r0;replace r1:=aA hb2 r1;replace r2:=aA hb2 r2;have q0:(w1.alloc (Obj.cells #[.int .i64 x,.int .i64 y,.string r] 145)).cell? ⟨w1.heap.size,0,none⟩=some (Value.int .i64 x):=by simp
 have q1:(w1.alloc (Obj.cells #[.int .i64 x,.int .i64 y,.string r] 145)).cell? ⟨w1.heap.size,1,none⟩=some (Value.int .i64 y):=by simp
 have q2:(w1.alloc (Obj.cells #[.int .i64 x,.int .i64 y,.string r] 145)).cell? ⟨w1.heap.size,2,none⟩=some (Value.string r):=by simp
 replace hlt:=Nat.lt_of_lt_of_le hlt hb2.size;go_wp2_with fail;refine(K2.out _ (iL HT.out hB)).mono ?_;rintro e w2 ⟨rfl,hb3⟩;replace hB:=aB hB (Nat.le_refl _) hb3;replace fz:=fun j=>aE hb3 hlt (fz j);replace r0:=aA hb3 r0;replace r1:=aA hb3 r1;replace r2:=aA hb3 r2;replace q0:=aA hb3 q0;replace q1:=aA hb3 q1;replace q2:=aA hb3 q2;clear hb1 hb2 hb3 hlt;go_wp2;exact bodyPost_ret (v:=.tuple #[.agg #[.int .i64 0,.int .i64 0,.string ⟨#[]⟩],.iface 114 (.int .i64 4)]) (by simp[results,Tryz.results152,go_sem,r0,r1,r2]) rfl ⟨rfl,(((hB.setCell (Nat.le_refl _) _).setCell (Nat.le_refl _) _).setCell (Nat.le_refl _) _)⟩
theorem zCh (s:ByteArray) (x y:Int) (r:ByteArray) (T:ByteArray) (hne:¬T.toList=s.toList) (w:World) (hL:Laid w)
  (k1:∀ w',Laid w'->Calls Tryz.prog 216 #[.string s] w' fun e w''=>e=.returned (.tuple #[.int .i64 x,.int .i64 y,.string r])/\Below w'.heap.size w' w'')
  (k2:∀ w',Laid w'->Calls Tryz.prog 172 #[.agg #[.int .i64 x,.int .i64 y,.string r]] w' fun e w''=>e=.returned (.tuple #[.string T,.nilIface])/\Below w'.heap.size w' w''):
  Calls Tryz.prog 152 #[.string s] w fun e w'=>e=.returned (.tuple #[.agg #[.int .i64 0,.int .i64 0,.string ⟨#[]⟩],.iface 114 (.int .i64 4)])/\Below w.heap.size w w':=by
 have K1:=hide k1;have K2:=hide k2;have HT:=hide hL;have n1:=eG;have hn2:(T.toList==s.toList)=false:=beq_eq_false_iff_ne.2 hne;have hn3:(T.toList != s.toList)=true:=bne_iff_ne.2 hne;clear k1 k2 hL;have hB:=below_alloc1 w (Obj.cells #[.int .i64 0,.int .i64 0,.string ⟨#[]⟩] 145);have fz:=aQ w #[Value.int .i64 0,Value.int .i64 0,Value.string ⟨#[]⟩] 145;have r0:(w.alloc (Obj.cells #[.int .i64 0,.int .i64 0,.string ⟨#[]⟩] 145)).cell? ⟨w.heap.size,0,none⟩=some (Value.int .i64 0):=by simp
 have r1:(w.alloc (Obj.cells #[.int .i64 0,.int .i64 0,.string ⟨#[]⟩] 145)).cell? ⟨w.heap.size,1,none⟩=some (Value.int .i64 0):=by simp
 have r2:(w.alloc (Obj.cells #[.int .i64 0,.int .i64 0,.string ⟨#[]⟩] 145)).cell? ⟨w.heap.size,2,none⟩=some (Value.string ⟨#[]⟩):=by simp
 have hlt:w.heap.size<(w.alloc (Obj.cells #[.int .i64 0,.int .i64 0,.string ⟨#[]⟩] 145)).heap.size:=by simp
 go_enter Tryz.func152,Tryz.ntmps152;go_wp2_with fail;refine(K1.out _ (iL HT.out hB)).mono ?_;rintro e w1 ⟨rfl,hb1⟩;replace hB:=aB hB (Nat.le_refl _) hb1;replace fz:=fun j=>aE hb1 hlt (fz j);replace r0:=aA hb1 r0;replace r1:=aA hb1 r1;replace r2:=aA hb1 r2;replace hlt:=Nat.lt_of_lt_of_le hlt hb1.size;have hb2:=below_alloc1 w1 (Obj.cells #[.int .i64 x,.int .i64 y,.string r] 145);replace hB:=aB hB (Nat.le_refl _) hb2;replace fz:=fun j=>aE hb2 hlt (fz j);replace r0:=aA hb2 r0;replace r1:=aA hb2 r1;replace r2:=aA hb2 r2;have q0:(w1.alloc (Obj.cells #[.int .i64 x,.int .i64 y,.string r] 145)).cell? ⟨w1.heap.size,0,none⟩=some (Value.int .i64 x):=by simp
 have q1:(w1.alloc (Obj.cells #[.int .i64 x,.int .i64 y,.string r] 145)).cell? ⟨w1.heap.size,1,none⟩=some (Value.int .i64 y):=by simp
 have q2:(w1.alloc (Obj.cells #[.int .i64 x,.int .i64 y,.string r] 145)).cell? ⟨w1.heap.size,2,none⟩=some (Value.string r):=by simp
 replace hlt:=Nat.lt_of_lt_of_le hlt hb2.size;go_wp2_with fail;refine(K2.out _ (iL HT.out hB)).mono ?_;rintro e w2 ⟨rfl,hb3⟩;replace hB:=aB hB (Nat.le_refl _) hb3;replace fz:=fun j=>aE hb3 hlt (fz j);replace r0:=aA hb3 r0;replace r1:=aA hb3 r1;replace r2:=aA hb3 r2;replace q0:=aA hb3 q0;replace q1:=aA hb3 q1;replace q2:=aA hb3 q2;clear hb1 hb2 hb3 hlt;go_wp2;exact bodyPost_ret (v:=.tuple #[.agg #[.int .i64 0,.int .i64 0,.string ⟨#[]⟩],.iface 114 (.int .i64 4)]) (by simp[results,Tryz.results152,go_sem,r0,r1,r2]) rfl ⟨rfl,(((hB.setCell (Nat.le_refl _) _).setCell (Nat.le_refl _) _).setCell (Nat.le_refl _) _)⟩
theorem xZ (s:ByteArray) (k:Int) (x y:Int) (r:ByteArray) (c:Int) (w:World) (hL:Laid w)
  (k1:∀ w',Laid w'->Calls Tryz.prog 216 #[.string s] w' fun e w''=>e=.returned (.tuple #[.int .i64 x,.int .i64 y,.string r])/\Below w'.heap.size w' w'')
  (k2:∀ w',Laid w'->Calls Tryz.prog 213 #[.agg #[.int .i64 k,.int .i64 x,.int .i64 y,.string r]] w' fun e w''=>e=.returned (.tuple #[.string ⟨#[]⟩,.iface 114 (.int .i64 c)])/\Below w'.heap.size w' w''):
  Calls Tryz.prog 177 #[.int .i64 k,.string s] w fun e w'=>e=.returned (.tuple #[.agg #[.int .i64 0,.int .i64 0,.int .i64 0,.string ⟨#[]⟩],.iface 114 (.int .i64 4)])/\Below w.heap.size w w':=by
 have K1:=hide k1;have K2:=hide k2;have HT:=hide hL;have n1:=bM 114;clear k1 k2 hL;have hB:=below_alloc1 w (Obj.cells #[.int .i64 0,.int .i64 0,.int .i64 0,.string ⟨#[]⟩] 99);have fz:=aQ w #[Value.int .i64 0,Value.int .i64 0,Value.int .i64 0,Value.string ⟨#[]⟩] 99;have r0:(w.alloc (Obj.cells #[.int .i64 0,.int .i64 0,.int .i64 0,.string ⟨#[]⟩] 99)).cell? ⟨w.heap.size,0,none⟩=some (Value.int .i64 0):=by simp
 have r1:(w.alloc (Obj.cells #[.int .i64 0,.int .i64 0,.int .i64 0,.string ⟨#[]⟩] 99)).cell? ⟨w.heap.size,1,none⟩=some (Value.int .i64 0):=by simp
 have r2:(w.alloc (Obj.cells #[.int .i64 0,.int .i64 0,.int .i64 0,.string ⟨#[]⟩] 99)).cell? ⟨w.heap.size,2,none⟩=some (Value.int .i64 0):=by simp
 have r3:(w.alloc (Obj.cells #[.int .i64 0,.int .i64 0,.int .i64 0,.string ⟨#[]⟩] 99)).cell? ⟨w.heap.size,3,none⟩=some (Value.string ⟨#[]⟩):=by simp
 have hlt:w.heap.size<(w.alloc (Obj.cells #[.int .i64 0,.int .i64 0,.int .i64 0,.string ⟨#[]⟩] 99)).heap.size:=by simp
 go_enter Tryz.func177,Tryz.ntmps177;go_wp2_with fail;refine(K1.out _ (iL HT.out hB)).mono ?_;rintro e w1 ⟨rfl,hb1⟩;replace hB:=aB hB (Nat.le_refl _) hb1;replace fz:=fun j=>aE hb1 hlt (fz j);replace r0:=aA hb1 r0;replace r1:=aA hb1 r1;replace r2:=aA hb1 r2;replace r3:=aA hb1 r3;replace hlt:=Nat.lt_of_lt_of_le hlt hb1.size;have hb2:=below_alloc1 w1 (Obj.cells #[.int .i64 k,.int .i64 x,.int .i64 y,.string r] 99);replace hB:=aB hB (Nat.le_refl _) hb2;replace fz:=fun j=>aE hb2 hlt (fz j);replace r0:=aA hb2 r0;replace r1:=aA hb2 r1;replace r2:=aA hb2 r2;replace r3:=aA hb2 r3;have q0:(w1.alloc (Obj.cells #[.int .i64 k,.int .i64 x,.int .i64 y,.string r] 99)).cell? ⟨w1.heap.size,0,none⟩=some (Value.int .i64 k):=by simp
 have q1:(w1.alloc (Obj.cells #[.int .i64 k,.int .i64 x,.int .i64 y,.string r] 99)).cell? ⟨w1.heap.size,1,none⟩=some (Value.int .i64 x):=by simp
 have q2:(w1.alloc (Obj.cells #[.int .i64 k,.int .i64 x,.int .i64 y,.string r] 99)).cell? ⟨w1.heap.size,2,none⟩=some (Value.int .i64 y):=by simp
 have q3:(w1.alloc (Obj.cells #[.int .i64 k,.int .i64 x,.int .i64 y,.string r] 99)).cell? ⟨w1.heap.size,3,none⟩=some (Value.string r):=by simp
 replace hlt:=Nat.lt_of_lt_of_le hlt hb2.size;go_wp2_with fail;refine(K2.out _ (iL HT.out hB)).mono ?_;rintro e w2 ⟨rfl,hb3⟩;replace hB:=aB hB (Nat.le_refl _) hb3;replace fz:=fun j=>aE hb3 hlt (fz j);replace r0:=aA hb3 r0;replace r1:=aA hb3 r1;replace r2:=aA hb3 r2;replace r3:=aA hb3 r3;replace q0:=aA hb3 q0;replace q1:=aA hb3 q1;replace q2:=aA hb3 q2;replace q3:=aA hb3 q3;clear hb1 hb2 hb3 hlt;go_wp2;exact bodyPost_ret (v:=.tuple #[.agg #[.int .i64 0,.int .i64 0,.int .i64 0,.string ⟨#[]⟩],.iface 114 (.int .i64 4)]) (by simp[results,Tryz.results177,go_sem,r0,r1,r2,r3]) rfl ⟨rfl,((((hB.setCell (Nat.le_refl _) _).setCell (Nat.le_refl _) _).setCell (Nat.le_refl _) _).setCell (Nat.le_refl _) _)⟩
theorem zP (s:ByteArray) (k:Int) (x y:Int) (r:ByteArray) (T:ByteArray) (hne:¬T.toList=s.toList) (w:World) (hL:Laid w)
  (k1:∀ w',Laid w'->Calls Tryz.prog 216 #[.string s] w' fun e w''=>e=.returned (.tuple #[.int .i64 x,.int .i64 y,.string r])/\Below w'.heap.size w' w'')
  (k2:∀ w',Laid w'->Calls Tryz.prog 213 #[.agg #[.int .i64 k,.int .i64 x,.int .i64 y,.string r]] w' fun e w''=>e=.returned (.tuple #[.string T,.nilIface])/\Below w'.heap.size w' w''):
  Calls Tryz.prog 177 #[.int .i64 k,.string s] w fun e w'=>e=.returned (.tuple #[.agg #[.int .i64 0,.int .i64 0,.int .i64 0,.string ⟨#[]⟩],.iface 114 (.int .i64 4)])/\Below w.heap.size w w':=by
 have K1:=hide k1;have K2:=hide k2;have HT:=hide hL;have n1:=eG;have hn2:(T.toList==s.toList)=false:=beq_eq_false_iff_ne.2 hne;have hn3:(T.toList != s.toList)=true:=bne_iff_ne.2 hne;clear k1 k2 hL;have hB:=below_alloc1 w (Obj.cells #[.int .i64 0,.int .i64 0,.int .i64 0,.string ⟨#[]⟩] 99);have fz:=aQ w #[Value.int .i64 0,Value.int .i64 0,Value.int .i64 0,Value.string ⟨#[]⟩] 99;have r0:(w.alloc (Obj.cells #[.int .i64 0,.int .i64 0,.int .i64 0,.string ⟨#[]⟩] 99)).cell? ⟨w.heap.size,0,none⟩=some (Value.int .i64 0):=by simp
 have r1:(w.alloc (Obj.cells #[.int .i64 0,.int .i64 0,.int .i64 0,.string ⟨#[]⟩] 99)).cell? ⟨w.heap.size,1,none⟩=some (Value.int .i64 0):=by simp
 have r2:(w.alloc (Obj.cells #[.int .i64 0,.int .i64 0,.int .i64 0,.string ⟨#[]⟩] 99)).cell? ⟨w.heap.size,2,none⟩=some (Value.int .i64 0):=by simp
 have r3:(w.alloc (Obj.cells #[.int .i64 0,.int .i64 0,.int .i64 0,.string ⟨#[]⟩] 99)).cell? ⟨w.heap.size,3,none⟩=some (Value.string ⟨#[]⟩):=by simp
 have hlt:w.heap.size<(w.alloc (Obj.cells #[.int .i64 0,.int .i64 0,.int .i64 0,.string ⟨#[]⟩] 99)).heap.size:=by simp
 go_enter Tryz.func177,Tryz.ntmps177;go_wp2_with fail;refine(K1.out _ (iL HT.out hB)).mono ?_;rintro e w1 ⟨rfl,hb1⟩;replace hB:=aB hB (Nat.le_refl _) hb1;replace fz:=fun j=>aE hb1 hlt (fz j);replace r0:=aA hb1 r0;replace r1:=aA hb1 r1;replace r2:=aA hb1 r2;replace r3:=aA hb1 r3;replace hlt:=Nat.lt_of_lt_of_le hlt hb1.size;have hb2:=below_alloc1 w1 (Obj.cells #[.int .i64 k,.int .i64 x,.int .i64 y,.string r] 99);replace hB:=aB hB (Nat.le_refl _) hb2;replace fz:=fun j=>aE hb2 hlt (fz j);replace r0:=aA hb2 r0;replace r1:=aA hb2 r1;replace r2:=aA hb2 r2;replace r3:=aA hb2 r3;have q0:(w1.alloc (Obj.cells #[.int .i64 k,.int .i64 x,.int .i64 y,.string r] 99)).cell? ⟨w1.heap.size,0,none⟩=some (Value.int .i64 k):=by simp
 have q1:(w1.alloc (Obj.cells #[.int .i64 k,.int .i64 x,.int .i64 y,.string r] 99)).cell? ⟨w1.heap.size,1,none⟩=some (Value.int .i64 x):=by simp
 have q2:(w1.alloc (Obj.cells #[.int .i64 k,.int .i64 x,.int .i64 y,.string r] 99)).cell? ⟨w1.heap.size,2,none⟩=some (Value.int .i64 y):=by simp
 have q3:(w1.alloc (Obj.cells #[.int .i64 k,.int .i64 x,.int .i64 y,.string r] 99)).cell? ⟨w1.heap.size,3,none⟩=some (Value.string r):=by simp
 replace hlt:=Nat.lt_of_lt_of_le hlt hb2.size;go_wp2_with fail;refine(K2.out _ (iL HT.out hB)).mono ?_;rintro e w2 ⟨rfl,hb3⟩;replace hB:=aB hB (Nat.le_refl _) hb3;replace fz:=fun j=>aE hb3 hlt (fz j);replace r0:=aA hb3 r0;replace r1:=aA hb3 r1;replace r2:=aA hb3 r2;replace r3:=aA hb3 r3;replace q0:=aA hb3 q0;replace q1:=aA hb3 q1;replace q2:=aA hb3 q2;replace q3:=aA hb3 q3;clear hb1 hb2 hb3 hlt;go_wp2;exact bodyPost_ret (v:=.tuple #[.agg #[.int .i64 0,.int .i64 0,.int .i64 0,.string ⟨#[]⟩],.iface 114 (.int .i64 4)]) (by simp[results,Tryz.results177,go_sem,r0,r1,r2,r3]) rfl ⟨rfl,((((hB.setCell (Nat.le_refl _) _).setCell (Nat.le_refl _) _).setCell (Nat.le_refl _) _).setCell (Nat.le_refl _) _)⟩
end
def valL (l:List UInt8):Nat:=l.foldl (fun a c=>10*a+(c.toNat-48)) 0
theorem zNV (l:List UInt8) (c:UInt8):valL (l++[c])=10*valL l+(c.toNat-48):=by simp[valL]
theorem zN3 (n:Nat):1<=n->(Lib.decDigits n).head?≠some 48:=by
 induction n using Nat.strongRecOn with
 | _ n ih=>
  intro h;by_cases h10:n<10
  ·rw[Lib.decDigits_one h10];simp;intro e;have:=congrArg UInt8.toNat e;simp at this;omega
  ·rw[Lib.decDigits,dif_neg h10,List.head?_append];have:=ih (n / 10) (by omega) (by omega);have hne:=zMO (n / 10)
   cases hd:Lib.decDigits (n / 10) with
   | nil=>exact absurd hd hne
   | cons a r=>rw[hd] at this;simpa using this
theorem zNZ (n:Nat):valL (Lib.decDigits n)=n:=by
 induction n using Nat.strongRecOn with
 | _ n ih=>
  by_cases h10:n<10
  ·rw[Lib.decDigits_one h10];simp[valL];omega
  ·rw[Lib.decDigits,dif_neg h10,zNV,ih (n / 10) (by omega)];simp;omega
theorem zHT (n:Nat):∀ c∈Lib.decDigits n,c≠32:=fun c hc=>rM (zAu n c hc) 32 (by decide)
def pO (n t:Nat) (d:ByteArray):Prop:=n<=999999/\1<=t/\t<=9/\(d.toList.isEmpty=true∨(d.toList.isEmpty=false/\bK d.data.toList=true))
def oX (t u:Nat) (d:ByteArray):Prop:=t<=9/\u<=2000000/\d.size<=28
theorem xH (k:List UInt8) (a b:UInt8):Lib.hasPrefix k [a,b]=(k.take 2==[a,b]):=by
 match k with
 | []=>simp[Lib.hasPrefix]
 | [x]=>simp[Lib.hasPrefix,List.isPrefixOf]
 | x::y::r=>
  rw[Bool.eq_iff_iff];simp[Lib.hasPrefix];constructor
  ·rintro⟨rfl,rfl⟩;exact⟨rfl,rfl⟩
  ·rintro⟨rfl,rfl⟩;exact⟨rfl,rfl⟩
theorem zAe (k:List UInt8) (a b:UInt8):jE k [a,b]=((k.take 2==[a,b])&&bK (k.drop 2)):=by
 unfold jE;rw[xH]
 cases h:k.take 2==[a,b] with
 | false=>rfl
 | true=>
  have:Lib.hasPrefix k [a,b]=true:=by rw[xH,h]
  rw[Lib.trimPrefix,if_pos this];rfl
theorem zAw (k:List UInt8):kW k=(decide (10<=k.length)&&((k.take 2==[109,47])&&((k.getD (k.length-7) 0==47)&&(bK ((k.drop 2).take (k.length-9))&&qN (k.drop (k.length-6)) 6)))):=by
 unfold kW;rw[xH]
 cases h:k.take 2==[109,47] with
 | false=>simp
 | true=>
  have hp:Lib.hasPrefix k [109,47]=true:=by rw[xH,h]
  rw[Lib.trimPrefix,if_pos hp];have hk:∃ r,k=109::47::r:=by
   match k,h with
   | [],h=>simp at h
   | [x],h=>simp at h
   | x::y::r,h=>
    simp at h;exact⟨r,by rw[h.1,h.2]⟩
  obtain⟨r,rfl⟩:=hk;simp only[List.length_cons,List.length_nil,Nat.zero_add,Nat.reduceAdd,List.drop_succ_cons,List.drop_zero,Bool.true_and];rw[Bool.eq_iff_iff];simp only[nY,Bool.and_eq_true,decide_eq_true_eq,beq_iff_eq];constructor
  ·rintro⟨h0,hn,hs⟩;obtain⟨i,hi⟩:∃ i:Nat,Lib.indexByte r 47=i:=⟨_,(Int.toNat_of_nonneg h0).symm⟩;rw[hi,Int.toNat_natCast] at hn hs;have hs':=hs;have hn':=hn;simp only[sixL,Bool.and_eq_true,decide_eq_true_eq,List.length_drop] at hs';simp only[bK,Bool.and_eq_true,decide_eq_true_eq,List.length_take] at hn';have hlen:r.length=i+7:=by omega
   have hat:r[i]?=some 47:=(Lib.indexByte_some hi).1;refine⟨by omega,?_,?_,?_⟩
   ·have e:r.length+1+1-7=i+2:=by omega
    rw[e,List.getD_eq_getElem?_getD];simp[hat]
   ·have e:r.length+1+1-9=i:=by omega
    rw[e];exact hn
   ·have e:r.length+1+1-6=i+1+2:=by omega
    rw[e];simp only[List.drop_succ_cons];have:=hs'.2;rwa [show r.length-(i+1)=6 by omega] at this
  ·rintro⟨h10,hc,hn,hd⟩;obtain⟨i,hlen⟩:∃ i,r.length=i+7:=⟨r.length-7,by omega⟩;have e1:r.length+1+1-7=i+2:=by omega
   have e2:r.length+1+1-9=i:=by omega
   have e3:r.length+1+1-6=i+1+2:=by omega
   rw[e1] at hc;rw[e2] at hn;rw[e3] at hd;simp only[List.drop_succ_cons] at hd;have hi:i<r.length:=by omega
   have hat:r[i]=47:=by
    rw[List.getD_eq_getElem?_getD] at hc;simpa[List.getElem?_eq_getElem hi] using hc
   have hr:r=r.take i++47::r.drop (i+1):=by
    rw[<-hat,List.getElem_cons_drop,List.take_append_drop]
   have hidx:Lib.indexByte r 47=(i:Int):=by
    rw[hr,sM (xC hn)];simp;omega
   rw[hidx,Int.toNat_natCast];refine⟨by omega,hn,?_⟩;simp only[sixL,Bool.and_eq_true,decide_eq_true_eq,List.length_drop];refine⟨by omega,?_⟩;rw[show r.length-(i+1)=6 by omega];exact hd
theorem zNR {k:List UInt8} (h:k.take 2=[116,47]∨k.take 2=[113,47]):keyL k=bK (k.drop 2):=by
 unfold keyL;rw[zAe,zAe,zAw];rcases h with h|h<;>simp[h]
theorem zIs {k:List UInt8} (h:k.take 2≠[116,47]) (h':k.take 2≠[113,47]):keyL k=kW k:=by
 unfold keyL;rw[zAe,zAe];simp[beq_eq_false_iff_ne.2 h,beq_eq_false_iff_ne.2 h']
theorem zNS {k:List UInt8} (h:k.length<=2):keyL k=false:=by
 unfold keyL;rw[zAe,zAe,zAw];have e:bK (k.drop 2)=false:=by rw[List.drop_eq_nil_of_le h];rfl
 rw[e];simp;omega
section
open Go.RowKit Go.Joins
theorem zAD (c:UInt8):mL c=true↔97<=(c.toNat:Int)/\(c.toNat:Int)<=122:=by
 simp only[mL,Bool.and_eq_true,decide_eq_true_eq];omega
theorem zML (c:UInt8):eZ c=true↔48<=(c.toNat:Int)/\(c.toNat:Int)<=57:=by
 simp only[eZ,Bool.and_eq_true,decide_eq_true_eq];omega
theorem zGl {s:ByteArray} (h1:0<s.size) (h:mL s[0]=false):bK s.data.toList=false:=by
 rw[bK,fR,uD (k:=1) (by omega) (by rw[rG,vR s 0 h1];simp[gR,h]),Bool.and_false]
theorem rC (s:ByteArray) (w:World):
  Calls Tryz.prog 108 #[.string s] w fun e w'=>e=.returned (.bool (bK s.data.toList))/\w'=w:=by
 by_cases h1:1<=s.size
 ·have hz:0<s.size:=h1;by_cases h6:s.size<=6
  ·cases hc:mL s[0] with
   | false=>
    have hN:=zGl hz hc;have hL:=mt (zAD s[0]).2 (by rw[hc];simp);rw[hN];clear hN hc;go_enter Tryz.func108,Tryz.ntmps108;go_wp2
    all_goals first
     | (go_ret;exact⟨rfl,rfl⟩)
     | (exfalso;omega)
   | true=>
    obtain⟨l1,l2⟩:=(zAD s[0]).1 hc;go_enter Tryz.func108,Tryz.ntmps108;go_wp2
    go_loop [3] (fun i=>∃ k:Nat,k<=s.size/\i=.int .i64 k/\jJ s.data.toList k=true) (fun i=>s.size-(intOf i).toNat)
    case atStart=>exact⟨0,Nat.zero_le _,rfl,rfl⟩
    case round=>
     obtain⟨k,hk,rfl,hd⟩:=hrel;have HD:=hide hd;clear hd;by_cases hlt:k<s.size
     ·have HS:=hide (rG s.data.toList k);have HB:=hide (vR s k hlt);have HC:=hide hc;have HY:Hid (mL s[k]=true∨eZ s[k]=true->jJ s.data.toList (k+1)=true):=fun h=>by
       rw[HS.out,HD.out,HB.out];rcases h with h|h
       ·simp[gR,h]
       ·by_cases k0:k=0
        ·subst k0;simp[gR,HC.out]
        ·simp[gR,h,k0]
      have HN:Hid (mL s[k]=false->eZ s[k]=false->bK s.data.toList=false):=fun h h'=>by
       rw[bK,fR,uD (k:=k+1) (by omega) (by rw[HS.out,HB.out];simp[gR,h,h']),Bool.and_false]
      have HL:=hide (zAD s[k]);have HG:=hide (zML s[k]);clear hc;have hb8:(s[k].toNat:Int)<48∨(48<=(s[k].toNat:Int)/\(s[k].toNat:Int)<=57)∨(58<=(s[k].toNat:Int)/\(s[k].toNat:Int)<97)∨(97<=(s[k].toNat:Int)/\(s[k].toNat:Int)<=122)∨123<=(s[k].toNat:Int):=by omega
      rcases hb8 with b|⟨b,b'⟩|⟨b,b'⟩|⟨b,b'⟩|b
      ·replace HN:=hide (HN.out (Bool.eq_false_iff.2 fun h=>by have:=HL.out.1 h;omega) (Bool.eq_false_iff.2 fun h=>by have:=HG.out.1 h;omega));go_wp2
       all_goals first
        | (exfalso;simp only[Bool.not_eq_eq_eq_not,Bool.not_false,Bool.not_true,decide_eq_true_eq,decide_eq_false_iff_not] at *;omega)
        | (go_ret;exact⟨bB HN.out.symm,rfl⟩)
      ·replace HY:=hide (HY.out (.inr (HG.out.2 ⟨b,b'⟩)));go_wp2
       all_goals
        go_round
        case rel=>exact⟨k+1,by omega,by go_num,HY.out⟩
        case measure=>simp[intOf];omega
      ·replace HN:=hide (HN.out (Bool.eq_false_iff.2 fun h=>by have:=HL.out.1 h;omega) (Bool.eq_false_iff.2 fun h=>by have:=HG.out.1 h;omega));go_wp2
       all_goals first
        | (exfalso;simp only[Bool.not_eq_eq_eq_not,Bool.not_false,Bool.not_true,decide_eq_true_eq,decide_eq_false_iff_not] at *;omega)
        | (go_ret;exact⟨bB HN.out.symm,rfl⟩)
      ·replace HY:=hide (HY.out (.inl (HL.out.2 ⟨b,b'⟩)));go_wp2
       all_goals
        go_round
        case rel=>exact⟨k+1,by omega,by go_num,HY.out⟩
        case measure=>simp[intOf];omega
      ·replace HN:=hide (HN.out (Bool.eq_false_iff.2 fun h=>by have:=HL.out.1 h;omega) (Bool.eq_false_iff.2 fun h=>by have:=HG.out.1 h;omega));go_wp2
       all_goals first
        | (exfalso;simp only[Bool.not_eq_eq_eq_not,Bool.not_false,Bool.not_true,decide_eq_true_eq,decide_eq_false_iff_not] at *;omega)
        | (go_ret;exact⟨bB HN.out.symm,rfl⟩)
     ·go_wp2;go_ret;refine⟨bB ?_,rfl⟩;have e:k=s.size:=by omega
      have:=HD.out;rw[e] at this;rw[bK,fR,this];simp[h1,h6]
  ·go_enter Tryz.func108,Tryz.ntmps108;go_wp2;go_ret;exact⟨bB (by simp[bK,h6]),rfl⟩
 ·go_enter Tryz.func108,Tryz.ntmps108;go_wp2;go_ret;exact⟨bB (by simp[bK];omega),rfl⟩
def tG (k:List UInt8):Nat:=if keyL k then 0 else 3
theorem zNJ (l:List UInt8) (n k:Nat):qN (l.drop n) k=(List.range k).all fun i=>eZ (l.getD (n+i) 0):=by
 unfold qN;congr 1;funext i;simp[List.getD_eq_getElem?_getD]
theorem zF9 {n:Nat} (h:n<10):decB n=⟨#[UInt8.ofNat (48+n)]⟩:=by
 unfold decB;rw[Lib.decDigits_one h]
theorem zKM {n:Nat} (h:¬n<10):decB n=decB (n / 10)++⟨#[UInt8.ofNat (48+n % 10)]⟩:=by
 apply kG;rw[ByteArray.data_append];simp only[decB];rw[Lib.decDigits,dif_neg h];simp
theorem iD (n:Nat):∀ (w:World),n<=9999999->
  Calls Tryz.prog 96 #[.int .i64 n] w fun e w'=>e=.returned (.string (decB n))/\Below w.heap.size w w':=by
 induction n using Nat.strongRecOn with
 | _ n ih=>
  intro w hn;by_cases h:n<10
  ·have g1:¬(n:Int)<0:=by omega
   have g2:(n:Int)<10:=by omega
   have w1:wrap64 (48+(n:Int))=48+n:=by unfold wrap64;omega
   have w2:(48+(n:Int)) % 256=48+n:=by omega
   have hX:=below_alloc1 w (Obj.cells #[.int .u8 (48+(n:Int))] 5);have hcv:=run_convert_bytes_back (P:=Tryz.prog) (w.alloc (Obj.cells #[.int .u8 (48+(n:Int))] 5)) 247 9 5 ⟨w.heap.size,0,none⟩ 1 [UInt8.ofNat (48+n)] Tryz.underlying247 Tryz.underlying5 Tryz.underlying9 (fun j hj=>by
    have hj2:j=0:=by simp at hj;omega
    subst hj2;simp[Addr.add];omega)
   simp only[List.length_cons,List.length_nil,Nat.zero_add] at hcv;rw[zF9 h];clear ih;go_enter Tryz.func96,Tryz.ntmps96;go_wp2;go_ret;exact⟨rfl,hX⟩
  ·have HI:=fun w'=>hide (ih (n / 10) (by omega) w' (by omega));rw[zKM h];clear ih;have q1:(n:Int).tdiv 10=((n / 10:Nat):Int):=by rw[Int.tdiv_eq_ediv_of_nonneg (by omega)];omega
   have q2:(n:Int).tmod 10=((n % 10:Nat):Int):=by rw[Int.tmod_eq_emod_of_nonneg (by omega)];omega
   have hlen:(decB (n / 10)).size<=7:=by rw[Lib.size_eq,eM];exact eQ _ (by omega)
   have g1:decide ((n:Int)<0)=false:=by simp
   have g2:decide ((n:Int)<10)=false:=by simp;omega
   have hm:n / 10<=999999:=by omega
   have hd:n % 10<10:=by omega
   generalize decB (n / 10)=D at *;generalize n / 10=m at *;generalize n % 10=d at *;obtain⟨x,hx⟩:∃ x:Nat,x=48+d:=⟨_,rfl⟩;have k1:IntKind.i64.wrap (m:Int)=m:=by simp[IntKind.wrap,IntKind.bits];omega
   have k2:IntKind.i64.wrap (48+(d:Int))=(x:Int):=by simp[IntKind.wrap,IntKind.bits];omega
   have k3:IntKind.u8.wrap (x:Int)=x:=by simp[IntKind.wrap,IntKind.bits];omega
   have hcv:=fun (W:World) (b:Nat) (h:W.cell? ⟨b,0,none⟩=some (.int .u8 (x:Int)))=>run_convert_bytes_back (P:=Tryz.prog) W 247 9 5 ⟨b,0,none⟩ 1 [UInt8.ofNat x] Tryz.underlying247 Tryz.underlying5 Tryz.underlying9 (fun j hj=>by
    have hj2:j=0:=by simp at hj;omega
    subst hj2;have e:(⟨b,0,none⟩:Addr).add 0=⟨b,0,none⟩:=by simp[Addr.add]
    rw[e,h];simp;omega)
   simp only[List.length_cons,List.length_nil,Nat.zero_add] at hcv;have hcv1:=hcv (w.drew.alloc (Obj.cells #[.int .u8 (x:Int)] 5)) w.heap.size (aC w.drew #[Value.int .u8 (x:Int)] 5 0);rw[<-hx];have s1:¬9223372036854775807<D.size+1:=by omega
   have hb0:Below w.heap.size w (w.drew.alloc (Obj.cells #[.int .u8 (x:Int)] 5)):=aB (Below.refl _ _).drew (Nat.le_refl _) (below_alloc1 _ _);clear hx hd hn hm h;go_enter Tryz.func96,Tryz.ntmps96;go_wp2
   go_region_with (first|(go_at_call_of 96 (Value.int IntKind.i64 (m:Int));refine((HI _).out).mono ?_;rintro e w1 ⟨rfl,hb⟩;first|(have z0:w1.cell? ⟨w.heap.size,0,none⟩=some (.int .u8 (x:Int)):=aA hb (aC w.drew #[Value.int .u8 (x:Int)] 5 0);have hcv2:=hcv w1 w.heap.size z0;replace hb:=aB hb0 (Nat.le_refl _) hb)|(have hcv3:=hcv (w1.alloc (Obj.cells #[.int .u8 (x:Int)] 5)) w1.heap.size (aC w1 #[Value.int .u8 (x:Int)] 5 0);replace hb:Below w.heap.size w w1:=aB (Below.refl _ _).drew (Nat.le_refl _) hb);dsimp only))
   go_wp2
   all_goals
    go_ret;exact⟨rfl,by first|exact hb|exact aB hb (Nat.le_refl _) (below_alloc1 _ _)⟩
theorem tH (n t:Nat) (d:ByteArray) (hn:n<=999999) (ht:1<=t) (ht':t<=9) (hd:d.toList.isEmpty=true∨(d.toList.isEmpty=false/\bK d.data.toList=true)) (hs:d.size<=1000) (w:World):
  Calls Tryz.prog 211 #[.agg #[.int .i64 n,.int .i64 t,.string d]] w fun e w'=>e=.returned (.tuple #[.string (dA n t d),.int .i64 0])/\Below w.heap.size w w':=by
 have hB:=below_alloc1 w (Obj.cells #[.int .i64 n,.int .i64 t,.string d] 145);have ea:(decB n).size<=7:=by rw[Lib.size_eq,eM];exact eQ _ (by omega)
 have eb:(decB t).size<=7:=by rw[Lib.size_eq,eM];exact eQ _ (by omega)
 unfold dA;have HA:=fun w'=>hide (iD n w' (by omega));have HC:=fun w'=>hide (iD t w' (by omega));generalize decB n=A at *;generalize decB t=D at *;rcases hd with hd|⟨hd,hd'⟩
 all_goals
  go_enter Tryz.func211,Tryz.ntmps211;go_wp2_with (go_at_call 108;refine(rC _ _).mono ?_;rintro e w1 ⟨rfl,rfl⟩)
  have nS:=OnW.some (w.alloc (Obj.cells #[.int .i64 n,.int .i64 t,.string d] 145));have n0:∀ z:OnW (w.alloc (Obj.cells #[.int .i64 n,.int .i64 t,.string d] 145)),z.w.cell? ⟨w.heap.size,0,none⟩=some (Value.int .i64 n):=fun z=>z.cell (by simp);have n1:∀ z:OnW (w.alloc (Obj.cells #[.int .i64 n,.int .i64 t,.string d] 145)),z.w.cell? ⟨w.heap.size,1,none⟩=some (Value.int .i64 t):=fun z=>z.cell (by simp);have n2:∀ z:OnW (w.alloc (Obj.cells #[.int .i64 n,.int .i64 t,.string d] 145)),z.w.cell? ⟨w.heap.size,2,none⟩=some (Value.string d):=fun z=>z.cell (by simp);refine dE (by kernel_rfl) (by kernel_rfl) ?_
  repeat (go_big_quiet_step ((first
   | (go_at_call_of 96 (Value.int .i64 (n:Int));exact fF ((HA _).out))
   | (go_at_call_of 96 (Value.int .i64 (t:Int));exact fF ((HC _).out)))))
  refine wpQuiet_nil ?_;intro w3 hw3;replace hw3:=jG hw3;replace hB:=aB hB (Nat.le_refl _) hw3;go_wp2;go_ret2;exact⟨rfl,hB⟩
theorem xK (n t:Int) (d:ByteArray) (w:World) (h:(n<0∨999999<n)∨(0<=n/\n<=999999/\(t<1∨9<t))):
  Calls Tryz.prog 211 #[.agg #[.int .i64 n,.int .i64 t,.string d]] w fun e w'=>e=.returned (.tuple #[.string ⟨#[]⟩,.int .i64 1])/\Below w.heap.size w w':=by
 have hB:=below_alloc1 w (Obj.cells #[.int .i64 n,.int .i64 t,.string d] 145);have h4:n<0∨(0<=n/\999999<n)∨(0<=n/\n<=999999/\t<1)∨(0<=n/\n<=999999/\1<=t/\9<t):=by omega
 rcases h4 with h|⟨h,h'⟩|⟨h,h',h2⟩|⟨h,h',h2,h3⟩
 all_goals
  go_enter Tryz.func211,Tryz.ntmps211;go_wp2;go_ret2;exact⟨rfl,hB⟩
theorem xF (n t:Int) (d:ByteArray) (w:World) (hn:0<=n) (hn':n<=999999) (ht:1<=t) (ht':t<=9) (hd:d.toList.isEmpty=false) (hd':bK d.data.toList=false):
  Calls Tryz.prog 211 #[.agg #[.int .i64 n,.int .i64 t,.string d]] w fun e w'=>e=.returned (.tuple #[.string ⟨#[]⟩,.int .i64 3])/\Below w.heap.size w w':=by
 have hB:=below_alloc1 w (Obj.cells #[.int .i64 n,.int .i64 t,.string d] 145);go_enter Tryz.func211,Tryz.ntmps211;go_wp2_with (go_at_call 108;refine(rC _ _).mono ?_;rintro e w1 ⟨rfl,rfl⟩)
 go_ret2;exact⟨rfl,hB⟩
theorem zW (k:Int) (t u:Nat) (d:ByteArray) (ht:t<=9) (hu:u<=2000000) (hs:d.size<=28) (w:World):
  Calls Tryz.prog 149 #[.agg #[.int .i64 k,.int .i64 t,.int .i64 u,.string d]] w fun e w'=>e=.returned (.tuple #[.string (dA t u d),.int .i64 0])/\Below w.heap.size w w':=by
 have hB:=below_alloc1 w (Obj.cells #[.int .i64 k,.int .i64 t,.int .i64 u,.string d] 99);have ea:(decB t).size<=7:=by rw[Lib.size_eq,eM];exact eQ _ (by omega)
 have eb:(decB u).size<=7:=by rw[Lib.size_eq,eM];exact eQ _ (by omega)
 unfold dA;have HA:=fun w'=>hide (iD t w' (by omega));have HC:=fun w'=>hide (iD u w' (by omega));generalize decB t=A at *;generalize decB u=D at *
 all_goals
  go_enter Tryz.func149,Tryz.ntmps149;go_wp2_with (go_at_call 108;refine(rC _ _).mono ?_;rintro e w1 ⟨rfl,rfl⟩)
  have nS:=OnW.some (w.alloc (Obj.cells #[.int .i64 k,.int .i64 t,.int .i64 u,.string d] 99));have n0:∀ z:OnW (w.alloc (Obj.cells #[.int .i64 k,.int .i64 t,.int .i64 u,.string d] 99)),z.w.cell? ⟨w.heap.size,1,none⟩=some (Value.int .i64 t):=fun z=>z.cell (by simp);have n1:∀ z:OnW (w.alloc (Obj.cells #[.int .i64 k,.int .i64 t,.int .i64 u,.string d] 99)),z.w.cell? ⟨w.heap.size,2,none⟩=some (Value.int .i64 u):=fun z=>z.cell (by simp);have n2:∀ z:OnW (w.alloc (Obj.cells #[.int .i64 k,.int .i64 t,.int .i64 u,.string d] 99)),z.w.cell? ⟨w.heap.size,3,none⟩=some (Value.string d):=fun z=>z.cell (by simp);refine dE (by kernel_rfl) (by kernel_rfl) ?_
  repeat (go_big_quiet_step ((first
   | (go_at_call_of 96 (Value.int .i64 (t:Int));exact fF ((HA _).out))
   | (go_at_call_of 96 (Value.int .i64 (u:Int));exact fF ((HC _).out)))))
  refine wpQuiet_nil ?_;intro w3 hw3;replace hw3:=jG hw3;replace hB:=aB hB (Nat.le_refl _) hw3;go_wp2;go_ret2;exact⟨rfl,hB⟩
theorem tT (k t u:Int) (d:ByteArray) (w:World) (h:(t<0∨9<t)∨(0<=t/\t<=9/\((u<0∨2000000<u)∨(0<=u/\u<=2000000/\28<d.size)))):
  Calls Tryz.prog 149 #[.agg #[.int .i64 k,.int .i64 t,.int .i64 u,.string d]] w fun e w'=>e=.returned (.tuple #[.string ⟨#[]⟩,.int .i64 1])/\Below w.heap.size w w':=by
 have hB:=below_alloc1 w (Obj.cells #[.int .i64 k,.int .i64 t,.int .i64 u,.string d] 99);have h4:t<0∨(0<=t/\9<t)∨(0<=t/\t<=9/\u<0)∨(0<=t/\t<=9/\0<=u/\2000000<u)∨(0<=t/\t<=9/\0<=u/\u<=2000000/\(28:Int)<(d.size:Int)):=by omega
 rcases h4 with h|⟨h,h'⟩|⟨h,h',h2⟩|⟨h,h',h2,h3⟩|⟨h,h',h2,h3,h4⟩
 all_goals
  go_enter Tryz.func149,Tryz.ntmps149;go_wp2;go_ret2;exact⟨rfl,hB⟩
theorem zNO (k:ByteArray) (a:Nat):(k.extract a k.size).data.toList=k.data.toList.drop a:=by
 rw[ByteArray.data_extract];simp only[Array.toList_extract,List.extract_eq_take_drop];exact List.take_of_length_le (by simp)
theorem zNq (k:ByteArray) (a b:Nat):(k.extract a b).data.toList=(k.data.toList.drop a).take (b-a):=by
 rw[ByteArray.data_extract];simp only[Array.toList_extract,List.extract_eq_take_drop]
theorem zAP (k:ByteArray):(k.extract 0 2).toList=k.data.toList.take 2:=by
 rw[Lib.toList_data,zNq];rfl
theorem zCn (k:ByteArray) (w:World) (h2:2<k.size) (h:(k.extract 0 2).toList=[116,47]∨¬(k.extract 0 2).toList=[116,47]/\(k.extract 0 2).toList=[113,47]):
  Calls Tryz.prog 46 #[.string k] w fun e w'=>e=.returned (.int .i64 (tG k.data.toList))/\w'=w:=by
 have hk:keyL k.data.toList=bK (k.data.toList.drop 2):=zNR (by rw[zAP] at h;rcases h with h|h;exact .inl h;exact .inr h.2);have hn:=fun w'=>rC (k.extract 2 k.size) w';rw[zNO,<-hk] at hn;unfold tG;generalize keyL k.data.toList=y at hn ⊢;have HN:=fun w'=>hide (hn w');clear hn hk;have g2:(2:Int)<(k.size:Int):=by omega
 cases y
 all_goals
  rcases h with h|⟨h',h⟩
  all_goals
   go_enter Tryz.func46,Tryz.ntmps46;go_wp2_with (go_at_call 108;refine((HN _).out).mono ?_;rintro e w1 ⟨rfl,rfl⟩)
   go_ret;exact⟨rfl,rfl⟩
theorem zF4 (k:ByteArray) (w:World) (h2:k.size<=2):
  Calls Tryz.prog 46 #[.string k] w fun e w'=>e=.returned (.int .i64 (tG k.data.toList))/\w'=w:=by
 have hk:tG k.data.toList=3:=by unfold tG;rw[zNS (by rwa [fR])];rfl
 rw[hk];clear hk;have g2:¬(2:Int)<(k.size:Int):=by omega
 have g3:(k.size:Int)<10:=by omega
 go_enter Tryz.func46,Tryz.ntmps46;go_wp2;go_ret;exact⟨rfl,rfl⟩
theorem zNr {k:ByteArray} (h1:¬(k.extract 0 2).toList=[116,47]) (h2:¬(k.extract 0 2).toList=[113,47]) (h:kW k.data.toList=false):tG k.data.toList=3:=by
 rw[zAP] at h1 h2;unfold tG;rw[zIs h1 h2,h];rfl
theorem zNQ {k:ByteArray} (h1:¬(k.extract 0 2).toList=[116,47]) (h2:¬(k.extract 0 2).toList=[113,47]) (h:kW k.data.toList=true):tG k.data.toList=0:=by
 rw[zAP] at h1 h2;unfold tG;rw[zIs h1 h2,h];rfl
theorem zCF (k:ByteArray) (w:World) (h2:2<k.size) (h:¬(k.extract 0 2).toList=[116,47]) (h':¬(k.extract 0 2).toList=[113,47]) (hn:k.size<10∨¬(k.extract 0 2).toList=[109,47]):
  Calls Tryz.prog 46 #[.string k] w fun e w'=>e=.returned (.int .i64 (tG k.data.toList))/\w'=w:=by
 have hk:tG k.data.toList=3:=zNr h h' (by
  rw[zAw,fR];rcases hn with hn|hn
  ·simp;omega
  ·rw[zAP] at hn;simp[hn])
 rw[hk];clear hk;have g2:(2:Int)<(k.size:Int):=by omega
 have b1:=beq_eq_false_iff_ne.2 h;have b2:=beq_eq_false_iff_ne.2 h';rcases hn with hn|hn
 ·have g3:(k.size:Int)<10:=by omega
  go_enter Tryz.func46,Tryz.ntmps46;go_wp2;go_ret;exact⟨rfl,rfl⟩
 ·have b3:=beq_eq_false_iff_ne.2 hn;go_enter Tryz.func46,Tryz.ntmps46;go_wp2
  all_goals
   go_ret;exact⟨rfl,rfl⟩
theorem zDJ {n:Int} (h0:0<=n) (h1:n<=100000):wrap64 n=n:=by unfold wrap64;omega
theorem zNK {k:ByteArray} (h10:10<=k.size) (hm:(k.extract 0 2).toList=[109,47]) (h:k.size-7<k.size):
  kW k.data.toList=((k[k.size-7]==47)&&(bK (k.extract 2 (k.size-7)).data.toList&&(List.range 6).all fun i=>eZ (k.data.toList.getD (k.size-6+i) 0))):=by
 rw[zAP] at hm;rw[zAw,fR,hm,vR k _ h,zNq,zNJ];have e:k.size-7-2=k.size-9:=by omega
 rw[e];simp[h10]
theorem zD0 (k:ByteArray) (w:World) (h10:10<=k.size) (hn:k.size<=1000) (hm:(k.extract 0 2).toList=[109,47]):
  Calls Tryz.prog 46 #[.string k] w fun e w'=>e=.returned (.int .i64 (tG k.data.toList))/\w'=w:=by
 have h:¬(k.extract 0 2).toList=[116,47]:=by rw[hm];decide
 have h':¬(k.extract 0 2).toList=[113,47]:=by rw[hm];decide
 have g2:(2:Int)<(k.size:Int):=by omega
 have g10:decide ((k.size:Int)<10)=false:=by simp;omega
 have i7:(k.size:Int)-7=((k.size-7:Nat):Int):=by omega
 have w7:wrap64 ((k.size-7:Nat):Int)=((k.size-7:Nat):Int):=zDJ (by omega) (by omega);have i6:(k.size:Int)-6=((k.size-6:Nat):Int):=by omega
 have w6:wrap64 ((k.size-6:Nat):Int)=((k.size-6:Nat):Int):=zDJ (by omega) (by omega);have l7:k.size-7<k.size:=by omega
 have j7:(2:Int)<=((k.size-7:Nat):Int):=by omega
 have z7:(0:Int)<=((k.size-7:Nat):Int):=by omega
 have y7:((k.size-7:Nat):Int)<(k.size:Int):=by omega
 have x7:((k.size-7:Nat):Int)<=(k.size:Int):=by omega
 have b1:=beq_eq_false_iff_ne.2 h;have b2:=beq_eq_false_iff_ne.2 h';have HM:=hide (zNK h10 hm l7);have HF0:Hid (kW k.data.toList=false->tG k.data.toList=3):=zNr h h';have HF1:Hid (kW k.data.toList=true->tG k.data.toList=0):=zNQ h h';by_cases hc:k[k.size-7]=47
 ·have c47:((k[k.size-7].toNat:Int) != 47)=false:=by rw[hc];rfl
  have hN:=fun w'=>rC (k.extract 2 (k.size-7)) w';generalize hy:bK (k.extract 2 (k.size-7)).data.toList=y at hN;have HN:=fun w'=>hide (hN w');clear hN;have HY:=hide hy;have HC:=hide hc;clear hy hc;cases y
  ·go_enter Tryz.func46,Tryz.ntmps46;go_wp2_with (go_at_call 108;refine((HN _).out).mono ?_;rintro e w1 ⟨rfl,rfl⟩)
   go_ret;exact⟨iJ (by rw[HF0.out (by rw[HM.out,HC.out,HY.out];rfl)];rfl),rfl⟩
  ·replace HM:Hid (kW k.data.toList=(List.range 6).all fun i=>eZ (k.data.toList.getD (k.size-6+i) 0)):=by
    have:=HM.out;rw[HC.out,HY.out] at this;exact this
   go_enter Tryz.func46,Tryz.ntmps46;go_wp2_with (go_at_call 108;refine((HN _).out).mono ?_;rintro e w1 ⟨rfl,rfl⟩)
   go_loop [6] (fun i=>∃ j:Nat,j<=6/\i=.int .i64 ((k.size-6+j:Nat):Int)/\(List.range j).all (fun i=>eZ (k.data.toList.getD (k.size-6+i) 0))=true) (fun i=>k.size-(intOf i).toNat)
   case atStart=>exact⟨0,Nat.zero_le _,rfl,rfl⟩
   case round=>
    obtain⟨j,hj,rfl,hd⟩:=hrel;have HD:=hide hd;clear hd;by_cases hlt:j<6
    ·have hl:k.size-6+j<k.size:=by omega
     have hl':((k.size-6+j:Nat):Int)<(k.size:Int):=by omega
     have hB:=vR k _ hl;have HS:Hid ((List.range (j+1)).all (fun i=>eZ (k.data.toList.getD (k.size-6+i) 0))=eZ k[k.size-6+j]):=by
      show _=_;rw[List.range_succ,List.all_append,HD.out,<-hB];simp
     have HG:=hide (zML k[k.size-6+j]);have hle:∀ b,(List.range (j+1)).all (fun i=>eZ (k.data.toList.getD (k.size-6+i) 0))=b->b=false->(List.range 6).all (fun i=>eZ (k.data.toList.getD (k.size-6+i) 0))=false:=by
      intro b h hb;subst hb;rw[List.all_eq_false] at *;obtain⟨x,hx,h2⟩:=h;exact⟨x,List.mem_range.2 (by have:=List.mem_range.1 hx;omega),h2⟩
     have HE:=hide hle;have wj:wrap64 (((k.size-6+j:Nat):Int)+1)=((k.size-6+(j+1):Nat):Int):=by rw[zDJ]<;>omega
     clear hle hB;generalize k.size-6+j=p at *;have hb8:(k[p].toNat:Int)<48∨(48<=(k[p].toNat:Int)/\(k[p].toNat:Int)<=57)∨58<=(k[p].toNat:Int):=by omega
     rcases hb8 with b|⟨b,b'⟩|b
     ·replace HS:=hide (HE.out _ HS.out (Bool.eq_false_iff.2 fun h=>by have:=HG.out.1 h;omega));go_wp2;go_ret;exact⟨iJ (by rw[HF0.out (HM.out.trans HS.out)];rfl),rfl⟩
     ·replace HS:=hide (HS.out.trans (HG.out.2 ⟨b,b'⟩));go_wp2
      go_round
      case rel=>exact⟨j+1,by omega,by rw[<-wj,zDJ (by omega) (by omega)],HS.out⟩
      case measure=>simp[intOf];omega
     ·replace HS:=hide (HE.out _ HS.out (Bool.eq_false_iff.2 fun h=>by have:=HG.out.1 h;omega));go_wp2;go_ret;exact⟨iJ (by rw[HF0.out (HM.out.trans HS.out)];rfl),rfl⟩
    ·have e:j=6:=by omega
     subst e;have e2:k.size-6+6=k.size:=by omega
     rw[e2];go_wp2;go_ret;exact⟨iJ (by rw[HF1.out (HM.out.trans HD.out)];rfl),rfl⟩
 ·have c47:((k[k.size-7].toNat:Int) != 47)=true:=by
   rw[bne_iff_ne];intro e;exact hc (UInt8.toNat_inj.1 (by simpa using Int.ofNat.inj e))
  have hf:=HF0.out (by rw[HM.out,beq_eq_false_iff_ne.2 hc,Bool.false_and]);rw[hf];clear hf hc;go_enter Tryz.func46,Tryz.ntmps46;go_wp2;go_ret;exact⟨rfl,rfl⟩
theorem zNt (k:ByteArray) (w:World) (hn:k.size<=1000):
  Calls Tryz.prog 46 #[.string k] w fun e w'=>e=.returned (.int .i64 (tG k.data.toList))/\w'=w:=by
 by_cases h2:2<k.size
 ·by_cases ht:(k.extract 0 2).toList=[116,47]
  ·exact zCn k w h2 (.inl ht)
  ·by_cases hq:(k.extract 0 2).toList=[113,47]
   ·exact zCn k w h2 (.inr ⟨ht,hq⟩)
   ·by_cases hm:(k.extract 0 2).toList=[109,47]
    ·by_cases h10:10<=k.size
     ·exact zD0 k w h10 hn hm
     ·exact zCF k w h2 ht hq (.inl (by omega))
    ·exact zCF k w h2 ht hq (.inr hm)
 ·exact zF4 k w (by omega)
theorem zAo (x y:Int) (d:ByteArray) (hd:d.size<=1000):∃ (T:ByteArray) (g:Nat),
  (∀ w,Laid w->Calls Tryz.prog 172 #[.agg #[.int .i64 x,.int .i64 y,.string d]] w fun e w'=>e=.returned (.tuple #[.string T,errV g])/\Below w.heap.size w w')/\
  (∀ w,Calls Tryz.prog 211 #[.agg #[.int .i64 x,.int .i64 y,.string d]] w fun e w'=>e=.returned (.tuple #[.string T,.int .i64 g])/\Below w.heap.size w w')/\
  ((g≠0/\T=⟨#[]⟩)∨(g=0/\∃ n t:Nat,x=n/\y=t/\pO n t d/\T=dA n t d)):=by
 by_cases hb:(x<0∨999999<x)∨(0<=x/\x<=999999/\(y<1∨9<y))
 ·exact⟨⟨#[]⟩,1,fun w _=>qA x y d w hb,fun w=>xK x y d w hb,.inl ⟨by decide,rfl⟩⟩
 ·obtain⟨n,rfl⟩:=Int.eq_ofNat_of_zero_le (show 0<=x by omega);obtain⟨t,rfl⟩:=Int.eq_ofNat_of_zero_le (show 0<=y by omega);have hok:d.toList.isEmpty=true∨(d.toList.isEmpty=false/\bK d.data.toList=true)∨(d.toList.isEmpty=false/\bK d.data.toList=false):=by
   cases d.toList.isEmpty<;>cases bK d.data.toList<;>simp
  rcases hok with h|h|h
  ·exact⟨_,0,fun w hL=>kH n t d w (by omega) (by omega) (by omega) (.inl h) hd hL.tab,fun w=>tH n t d (by omega) (by omega) (by omega) (.inl h) hd w,.inr ⟨rfl,n,t,rfl,rfl,⟨by omega,by omega,by omega,.inl h⟩,rfl⟩⟩
  ·exact⟨_,0,fun w hL=>kH n t d w (by omega) (by omega) (by omega) (.inr h) hd hL.tab,fun w=>tH n t d (by omega) (by omega) (by omega) (.inr h) hd w,.inr ⟨rfl,n,t,rfl,rfl,⟨by omega,by omega,by omega,.inr h⟩,rfl⟩⟩
  ·exact⟨⟨#[]⟩,3,fun w _=>qO n t d w (by omega) (by omega) (by omega) (by omega) h.1 h.2,fun w=>xF n t d w (by omega) (by omega) (by omega) (by omega) h.1 h.2,.inl ⟨by decide,rfl⟩⟩
theorem xW (k x y:Int) (d:ByteArray) (hd:d.size<=1000):∃ (T:ByteArray) (g:Nat),
  (∀ w,Laid w->Calls Tryz.prog 213 #[.agg #[.int .i64 k,.int .i64 x,.int .i64 y,.string d]] w fun e w'=>e=.returned (.tuple #[.string T,errV g])/\Below w.heap.size w w')/\
  (∀ w,Calls Tryz.prog 149 #[.agg #[.int .i64 k,.int .i64 x,.int .i64 y,.string d]] w fun e w'=>e=.returned (.tuple #[.string T,.int .i64 g])/\Below w.heap.size w w')/\
  ((g≠0/\T=⟨#[]⟩)∨(g=0/\∃ t u:Nat,x=t/\y=u/\oX t u d/\T=dA t u d)):=by
 by_cases hb:(x<0∨9<x)∨(0<=x/\x<=9/\((y<0∨2000000<y)∨(0<=y/\y<=2000000/\28<d.size)))
 ·exact⟨⟨#[]⟩,1,fun w _=>oL k x y d w hb,fun w=>tT k x y d w hb,.inl ⟨by decide,rfl⟩⟩
 ·obtain⟨t,rfl⟩:=Int.eq_ofNat_of_zero_le (show 0<=x by omega);obtain⟨u,rfl⟩:=Int.eq_ofNat_of_zero_le (show 0<=y by omega);exact⟨_,0,fun w hL=>nE k t u d w (by omega) (by omega) (by omega) hL.tab,fun w=>zW k t u d (by omega) (by omega) (by omega) w,.inr ⟨rfl,t,u,rfl,rfl,⟨by omega,by omega,by omega⟩,rfl⟩⟩
theorem bJ {g:Nat} (h:g≠0):errV g=.iface 114 (.int .i64 g):=by unfold errV;rw[if_neg h]
def mO (x y:Int) (d:ByteArray):ByteArray×Nat:=
 if 0<=x/\x<=999999/\1<=y/\y<=9 then if d.toList.isEmpty || bK d.data.toList then (dA x.toNat y.toNat d,0) else (⟨#[]⟩,3) else (⟨#[]⟩,1)
def nD (x y:Int) (d:ByteArray):ByteArray×Nat:=
 if 0<=x/\x<=9/\0<=y/\y<=2000000/\d.size<=28 then (dA x.toNat y.toNat d,0) else (⟨#[]⟩,1)
def zCi (l:List UInt8):List UInt8:=(l.dropWhile fun c=>decide (c≠32)).drop 1
def zEk (l:List UInt8):Nat:=valL (l.takeWhile fun c=>decide (c≠32))
def wX (s:ByteArray):Nat×Nat×ByteArray:=(zEk s.data.toList,zEk (zCi s.data.toList),⟨(zCi (zCi s.data.toList)).toArray⟩)
theorem zNs (n:Nat) (l:List UInt8):zEk (Lib.decDigits n++32::l)=n:=by
 unfold zEk;rw[List.takeWhile_append_of_pos (fun c hc=>by simpa using zHT n c hc),List.takeWhile_cons_of_neg (by simp),List.append_nil,zNZ]
theorem zEd (n:Nat) (l:List UInt8):zCi (Lib.decDigits n++32::l)=l:=by
 unfold zCi;rw[List.dropWhile_append_of_pos (fun c hc=>by simpa using zHT n c hc),List.dropWhile_cons_of_neg (by simp)];rfl
theorem zD6 (a b:Nat) (r:ByteArray):wX (dA a b r)=(a,b,r):=by
 unfold wX;rw[vQ,zNs,zEd,zNs,zEd,Array.toArray_toList]
def zDw (x:Nat×Nat×ByteArray):Bool:=decide (x.1<=999999)&&decide (1<=x.2.1)&&decide (x.2.1<=9)&&(x.2.2.toList.isEmpty || bK x.2.2.data.toList)
def zCf (x:Nat×Nat×ByteArray):Bool:=decide (x.1<=9)&&decide (x.2.1<=2000000)&&decide (x.2.2.size<=28)
theorem zDj (n t:Nat) (d:ByteArray):zDw (n,t,d)=true↔pO n t d:=by
 unfold zDw pO;cases h:d.toList.isEmpty<;>simp[and_assoc]
theorem zBW (n t:Nat) (d:ByteArray):zCf (n,t,d)=true↔oX n t d:=by
 unfold zCf oX;simp[and_assoc]
def qOf (s:ByteArray):Int×Int×ByteArray×Nat:=
 if zDw (wX s)=true/\s=dA (wX s).1 (wX s).2.1 (wX s).2.2 then (((wX s).1:Int),((wX s).2.1:Int),(wX s).2.2,0) else (0,0,⟨#[]⟩,4)
def mOf (s:ByteArray) (k:Int):Int×Int×Int×ByteArray×Nat:=
 if zCf (wX s)=true/\s=dA (wX s).1 (wX s).2.1 (wX s).2.2 then (k,((wX s).1:Int),((wX s).2.1:Int),(wX s).2.2,0) else (0,0,0,⟨#[]⟩,4)
theorem zFC (x y:Int) (d:ByteArray) (hd:d.size<=1000) (w:World) (hL:Laid w):Calls Tryz.prog 172 #[.agg #[.int .i64 x,.int .i64 y,.string d]] w fun e w'=>e=.returned (.tuple #[.string (mO x y d).1,errV (mO x y d).2])/\Below w.heap.size w w':=by
 unfold mO;split
 ·rename_i h;obtain⟨n,rfl⟩:=Int.eq_ofNat_of_zero_le (show 0<=x by omega);obtain⟨t,rfl⟩:=Int.eq_ofNat_of_zero_le (show 0<=y by omega)
  cases h1:d.toList.isEmpty with
  | true=>exact kH n t d w (by omega) (by omega) (by omega) (.inl h1) hd hL.tab
  | false=>
   cases h2:bK d.data.toList with
   | true=>exact kH n t d w (by omega) (by omega) (by omega) (.inr ⟨h1,h2⟩) hd hL.tab
   | false=>exact qO n t d w (by omega) (by omega) (by omega) (by omega) h1 h2
 ·exact qA x y d w (by omega)
theorem zG0 (k x y:Int) (d:ByteArray) (w:World) (hL:Laid w):Calls Tryz.prog 213 #[.agg #[.int .i64 k,.int .i64 x,.int .i64 y,.string d]] w fun e w'=>e=.returned (.tuple #[.string (nD x y d).1,errV (nD x y d).2])/\Below w.heap.size w w':=by
 unfold nD;split
 ·rename_i h;obtain⟨n,rfl⟩:=Int.eq_ofNat_of_zero_le (show 0<=x by omega);obtain⟨t,rfl⟩:=Int.eq_ofNat_of_zero_le (show 0<=y by omega);exact nE k n t d w (by omega) (by omega) (by omega) hL.tab
 ·exact oL k x y d w (by omega)
theorem vE (s:ByteArray):(∃ (n t:Nat) (d:ByteArray),qOf s=((n:Int),(t:Int),d,0)/\pO n t d/\s=dA n t d)∨(qOf s=(0,0,⟨#[]⟩,4)/\∀ n t d,pO n t d->s≠dA n t d):=by
 unfold qOf;split
 ·rename_i h;exact .inl ⟨_,_,_,rfl,(zDj _ _ _).1 h.1,h.2⟩
 ·rename_i h;refine .inr ⟨rfl,fun n t d hq e=>h ?_⟩;rw[e,zD6];exact⟨(zDj n t d).2 hq,rfl⟩
theorem oB (s:ByteArray) (k:Int):(∃ (t u:Nat) (d:ByteArray),mOf s k=(k,(t:Int),(u:Int),d,0)/\oX t u d/\s=dA t u d)∨(mOf s k=(0,0,0,⟨#[]⟩,4)/\∀ t u d,oX t u d->s≠dA t u d):=by
 unfold mOf;split
 ·rename_i h;exact .inl ⟨_,_,_,rfl,(zBW _ _ _).1 h.1,h.2⟩
 ·rename_i h;refine .inr ⟨rfl,fun n t d hq e=>h ?_⟩;rw[e,zD6];exact⟨(zBW n t d).2 hq,rfl⟩
theorem zDD {n t:Nat} {d:ByteArray} (hq:pO n t d):d.size<=6:=by
 rcases hq.2.2.2 with h|h
 ·rw[Lib.size_eq,<-Lib.toList_data,List.isEmpty_iff.1 h];simp
 ·exact zBk h.2
theorem zLt (s:ByteArray) (hs:s.size<=100) (w:World) (hL:Laid w):Calls Tryz.prog 152 #[.string s] w fun e w'=>e=.returned (.tuple #[.agg #[.int .i64 (qOf s).1,.int .i64 (qOf s).2.1,.string (qOf s).2.2.1],errV (qOf s).2.2.2])/\Below w.heap.size w w':=by
 rcases vE s with⟨n,t,d,e,hq,rfl⟩|⟨e,hno⟩
 ·rw[e];exact yV n t d w hq.1 hq.2.1 hq.2.2.1 hq.2.2.2 (by have:=zDD hq;omega) hL.tab
 ·rw[e];obtain⟨x,y,r,hr,hsp⟩:=wP s (by omega);obtain⟨T,g,h1,_,h3⟩:=zAo x y r hr;rcases h3 with⟨hg,rfl⟩|⟨rfl,n,t,rfl,rfl,hq,rfl⟩
  ·rw[bJ hg] at h1;exact zAn s x y r g w hL hsp h1
  ·exact zCh s n t r _ (fun e=>hno n t r hq (gV e).symm) w hL hsp h1
theorem zDb (s:ByteArray) (k:Int) (hs:s.size<=100) (w:World) (hL:Laid w):Calls Tryz.prog 177 #[.int .i64 k,.string s] w fun e w'=>e=.returned (.tuple #[.agg #[.int .i64 (mOf s k).1,.int .i64 (mOf s k).2.1,.int .i64 (mOf s k).2.2.1,.string (mOf s k).2.2.2.1],errV (mOf s k).2.2.2.2])/\Below w.heap.size w w':=by
 rcases oB s k with⟨t,u,d,e,hq,rfl⟩|⟨e,hno⟩
 ·rw[e];exact vV k t u d w hq.1 hq.2.1 hq.2.2 hL.tab
 ·rw[e];obtain⟨x,y,r,hr,hsp⟩:=wP s (by omega);obtain⟨T,g,h1,_,h3⟩:=xW k x y r hr;rcases h3 with⟨hg,rfl⟩|⟨rfl,t,u,rfl,rfl,hq,rfl⟩
  ·rw[bJ hg] at h1;exact xZ s k x y r g w hL hsp h1
  ·exact zP s k t u r _ (fun e=>hno t u r hq (gV e).symm) w hL hsp h1
end
end Go.Proofs.YtnboipekkahmnaaGreatDoor
