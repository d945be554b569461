import Derived.Test.YtnboipekkahmnaaGreatDoorE22
set_option maxHeartbeats 8000000
set_option maxRecDepth 100000
namespace Go.Proofs.YtnboipekkahmnaaGreatDoor
section
open Go.RowKit Go.Joins Go.Shelf
attribute [local go_sem ↓] Go.wp_at_zero Go.wp_at_succ
theorem zEN (x:ActL) {B wb:Nat} {S:Nat->Prop} {P:Rws} {since:Sn} {chs:List Chg} {rds:Rws} (w:World) (h:QV w B wb S P since chs rds) (k0:(x.kind.toList==[99,114,101,97,116,101])=true) (hl:fT x):
  Calls Tryz.prog 39 #[.pointer (some ⟨wb,0,none⟩),.agg #[Value.string x.kind,Value.int .i64 x.a,Value.int .i64 x.b,Value.int .i64 x.c,Value.int .u64 x.k,Value.string x.s,Value.string x.t,Value.slice x.ca x.chs.length x.cc,Value.slice x.sa x.sps.length x.sc]] w fun e w'=>e=.returned (.string (eI (fD P chs rds x.s x.a x.t).1))/\ActQ w w' B wb S P since ((fD P chs rds x.s x.a x.t).2.1) ((fD P chs rds x.s x.a x.t).2.2):=by
 have hs:=hl.1
 have ht:=hl.2.1
 have ha0:=hl.2.2.1
 have ha1:=hl.2.2.2
 have y0:(w.alloc (Obj.cells #[.string x.kind,.int .i64 x.a,.int .i64 x.b,.int .i64 x.c,.int .u64 x.k,.string x.s,.string x.t,.slice x.ca x.chs.length x.cc,.slice x.sa x.sps.length x.sc] 39)).cell? ⟨w.heap.size,0,none⟩=some (.string x.kind):=aC _ _ _ 0
 have y5:(w.alloc (Obj.cells #[.string x.kind,.int .i64 x.a,.int .i64 x.b,.int .i64 x.c,.int .u64 x.k,.string x.s,.string x.t,.slice x.ca x.chs.length x.cc,.slice x.sa x.sps.length x.sc] 39)).cell? ⟨w.heap.size,5,none⟩=some (.string x.s):=aC _ _ _ 5
 have y1:(w.alloc (Obj.cells #[.string x.kind,.int .i64 x.a,.int .i64 x.b,.int .i64 x.c,.int .u64 x.k,.string x.s,.string x.t,.slice x.ca x.chs.length x.cc,.slice x.sa x.sps.length x.sc] 39)).cell? ⟨w.heap.size,1,none⟩=some (.int .i64 x.a):=aC _ _ _ 1
 have y6:(w.alloc (Obj.cells #[.string x.kind,.int .i64 x.a,.int .i64 x.b,.int .i64 x.c,.int .u64 x.k,.string x.s,.string x.t,.slice x.ca x.chs.length x.cc,.slice x.sa x.sps.length x.sc] 39)).cell? ⟨w.heap.size,6,none⟩=some (.string x.t):=aC _ _ _ 6
 have hbA:=below_alloc1 w (Obj.cells #[.string x.kind,.int .i64 x.a,.int .i64 x.b,.int .i64 x.c,.int .u64 x.k,.string x.s,.string x.t,.slice x.ca x.chs.length x.cc,.slice x.sa x.sps.length x.sc] 39)
 have HB:=hide (h.on hbA)
 have HP:Hid (∀ w' c r,ActQ (w.alloc (Obj.cells #[.string x.kind,.int .i64 x.a,.int .i64 x.b,.int .i64 x.c,.int .u64 x.k,.string x.s,.string x.t,.slice x.ca x.chs.length x.cc,.slice x.sa x.sps.length x.sc] 39)) w' B wb S P since c r->ActQ w w' B wb S P since c r):=fun w' c r ha=>h.pre hbA ha
 clear h hbA
 have hle:=zHe P chs rds x.s x.a x.t
 have HC:=hide (zEK x.s x.a x.t _ HB.out (by omega) (by omega))
 generalize fD P chs rds x.s x.a x.t=r at *
 go_enter Tryz.func39,Tryz.ntmps39
 go_wp2_with fail
 generalize w.alloc (Obj.cells #[.string x.kind,.int .i64 x.a,.int .i64 x.b,.int .i64 x.c,.int .u64 x.k,.string x.s,.string x.t,.slice x.ca x.chs.length x.cc,.slice x.sa x.sps.length x.sc] 39)=wx at *
 refine HC.out.mono ?_
 rintro e w1 ⟨rfl,ha⟩
 have HA:=hide ha
 clear ha HC
 go_wp2_with fail
 refine(eU _ w1 hle).mono ?_
 rintro e w2 ⟨rfl,hb2⟩
 have HR:=hide (HP.out _ _ _ (HA.out.post hb2))
 clear hb2
 go_wp2
 go_ret
 exact⟨rfl,HR.out⟩
theorem zLf (x:ActL) {B wb:Nat} {S:Nat->Prop} {P:Rws} {since:Sn} {chs:List Chg} {rds:Rws} (w:World) (h:QV w B wb S P since chs rds) (k0:(x.kind.toList==[99,114,101,97,116,101])=false) (k1:(x.kind.toList==[115,101,110,100])=false) (k2:(x.kind.toList==[114,101,99,101,105,118,101])=false) (k3:(x.kind.toList==[97,99,107])=true) (hl:fT x):
  Calls Tryz.prog 39 #[.pointer (some ⟨wb,0,none⟩),.agg #[Value.string x.kind,Value.int .i64 x.a,Value.int .i64 x.b,Value.int .i64 x.c,Value.int .u64 x.k,Value.string x.s,Value.string x.t,Value.slice x.ca x.chs.length x.cc,Value.slice x.sa x.sps.length x.sc]] w fun e w'=>e=.returned (.string (eI (ackQ P chs rds x.s x.a x.b).1))/\ActQ w w' B wb S P since ((ackQ P chs rds x.s x.a x.b).2.1) ((ackQ P chs rds x.s x.a x.b).2.2):=by
 have hs:=hl.1
 have ht:=hl.2.1
 have ha0:=hl.2.2.1
 have ha1:=hl.2.2.2
 have y0:(w.alloc (Obj.cells #[.string x.kind,.int .i64 x.a,.int .i64 x.b,.int .i64 x.c,.int .u64 x.k,.string x.s,.string x.t,.slice x.ca x.chs.length x.cc,.slice x.sa x.sps.length x.sc] 39)).cell? ⟨w.heap.size,0,none⟩=some (.string x.kind):=aC _ _ _ 0
 have y5:(w.alloc (Obj.cells #[.string x.kind,.int .i64 x.a,.int .i64 x.b,.int .i64 x.c,.int .u64 x.k,.string x.s,.string x.t,.slice x.ca x.chs.length x.cc,.slice x.sa x.sps.length x.sc] 39)).cell? ⟨w.heap.size,5,none⟩=some (.string x.s):=aC _ _ _ 5
 have y1:(w.alloc (Obj.cells #[.string x.kind,.int .i64 x.a,.int .i64 x.b,.int .i64 x.c,.int .u64 x.k,.string x.s,.string x.t,.slice x.ca x.chs.length x.cc,.slice x.sa x.sps.length x.sc] 39)).cell? ⟨w.heap.size,1,none⟩=some (.int .i64 x.a):=aC _ _ _ 1
 have y2:(w.alloc (Obj.cells #[.string x.kind,.int .i64 x.a,.int .i64 x.b,.int .i64 x.c,.int .u64 x.k,.string x.s,.string x.t,.slice x.ca x.chs.length x.cc,.slice x.sa x.sps.length x.sc] 39)).cell? ⟨w.heap.size,2,none⟩=some (.int .i64 x.b):=aC _ _ _ 2
 have hbA:=below_alloc1 w (Obj.cells #[.string x.kind,.int .i64 x.a,.int .i64 x.b,.int .i64 x.c,.int .u64 x.k,.string x.s,.string x.t,.slice x.ca x.chs.length x.cc,.slice x.sa x.sps.length x.sc] 39)
 have HB:=hide (h.on hbA)
 have HP:Hid (∀ w' c r,ActQ (w.alloc (Obj.cells #[.string x.kind,.int .i64 x.a,.int .i64 x.b,.int .i64 x.c,.int .u64 x.k,.string x.s,.string x.t,.slice x.ca x.chs.length x.cc,.slice x.sa x.sps.length x.sc] 39)) w' B wb S P since c r->ActQ w w' B wb S P since c r):=fun w' c r ha=>h.pre hbA ha
 clear h hbA
 have hle:=zMr P chs rds x.s x.a x.b
 have HC:=hide (zKS x.s x.a x.b _ HB.out (by omega) ha0 ha1)
 generalize ackQ P chs rds x.s x.a x.b=r at *
 go_enter Tryz.func39,Tryz.ntmps39
 go_wp2_with fail
 generalize w.alloc (Obj.cells #[.string x.kind,.int .i64 x.a,.int .i64 x.b,.int .i64 x.c,.int .u64 x.k,.string x.s,.string x.t,.slice x.ca x.chs.length x.cc,.slice x.sa x.sps.length x.sc] 39)=wx at *
 refine HC.out.mono ?_
 rintro e w1 ⟨rfl,ha⟩
 have HA:=hide ha
 clear ha HC
 go_wp2_with fail
 refine(eU _ w1 hle).mono ?_
 rintro e w2 ⟨rfl,hb2⟩
 have HR:=hide (HP.out _ _ _ (HA.out.post hb2))
 clear hb2
 go_wp2
 go_ret
 exact⟨rfl,HR.out⟩
theorem zI1 (x:ActL) {B wb:Nat} {S:Nat->Prop} {P:Rws} {since:Sn} {chs:List Chg} {rds:Rws} (w:World) (h:QV w B wb S P since chs rds) (k0:(x.kind.toList==[99,114,101,97,116,101])=false) (k1:(x.kind.toList==[115,101,110,100])=false) (k2:(x.kind.toList==[114,101,99,101,105,118,101])=false) (k3:(x.kind.toList==[97,99,107])=false) (k4:(x.kind.toList==[119,97,105,116])=true) (hl:fT x):
  Calls Tryz.prog 39 #[.pointer (some ⟨wb,0,none⟩),.agg #[Value.string x.kind,Value.int .i64 x.a,Value.int .i64 x.b,Value.int .i64 x.c,Value.int .u64 x.k,Value.string x.s,Value.string x.t,Value.slice x.ca x.chs.length x.cc,Value.slice x.sa x.sps.length x.sc]] w fun e w'=>e=.returned (.string (eI (iZ P chs rds x.s x.a x.b x.c).1))/\ActQ w w' B wb S P since ((iZ P chs rds x.s x.a x.b x.c).2.1) ((iZ P chs rds x.s x.a x.b x.c).2.2):=by
 have hs:=hl.1
 have ht:=hl.2.1
 have ha0:=hl.2.2.1
 have ha1:=hl.2.2.2
 have y0:(w.alloc (Obj.cells #[.string x.kind,.int .i64 x.a,.int .i64 x.b,.int .i64 x.c,.int .u64 x.k,.string x.s,.string x.t,.slice x.ca x.chs.length x.cc,.slice x.sa x.sps.length x.sc] 39)).cell? ⟨w.heap.size,0,none⟩=some (.string x.kind):=aC _ _ _ 0
 have y5:(w.alloc (Obj.cells #[.string x.kind,.int .i64 x.a,.int .i64 x.b,.int .i64 x.c,.int .u64 x.k,.string x.s,.string x.t,.slice x.ca x.chs.length x.cc,.slice x.sa x.sps.length x.sc] 39)).cell? ⟨w.heap.size,5,none⟩=some (.string x.s):=aC _ _ _ 5
 have y1:(w.alloc (Obj.cells #[.string x.kind,.int .i64 x.a,.int .i64 x.b,.int .i64 x.c,.int .u64 x.k,.string x.s,.string x.t,.slice x.ca x.chs.length x.cc,.slice x.sa x.sps.length x.sc] 39)).cell? ⟨w.heap.size,1,none⟩=some (.int .i64 x.a):=aC _ _ _ 1
 have y2:(w.alloc (Obj.cells #[.string x.kind,.int .i64 x.a,.int .i64 x.b,.int .i64 x.c,.int .u64 x.k,.string x.s,.string x.t,.slice x.ca x.chs.length x.cc,.slice x.sa x.sps.length x.sc] 39)).cell? ⟨w.heap.size,2,none⟩=some (.int .i64 x.b):=aC _ _ _ 2
 have y3:(w.alloc (Obj.cells #[.string x.kind,.int .i64 x.a,.int .i64 x.b,.int .i64 x.c,.int .u64 x.k,.string x.s,.string x.t,.slice x.ca x.chs.length x.cc,.slice x.sa x.sps.length x.sc] 39)).cell? ⟨w.heap.size,3,none⟩=some (.int .i64 x.c):=aC _ _ _ 3
 have hbA:=below_alloc1 w (Obj.cells #[.string x.kind,.int .i64 x.a,.int .i64 x.b,.int .i64 x.c,.int .u64 x.k,.string x.s,.string x.t,.slice x.ca x.chs.length x.cc,.slice x.sa x.sps.length x.sc] 39)
 have HB:=hide (h.on hbA)
 have HP:Hid (∀ w' c r,ActQ (w.alloc (Obj.cells #[.string x.kind,.int .i64 x.a,.int .i64 x.b,.int .i64 x.c,.int .u64 x.k,.string x.s,.string x.t,.slice x.ca x.chs.length x.cc,.slice x.sa x.sps.length x.sc] 39)) w' B wb S P since c r->ActQ w w' B wb S P since c r):=fun w' c r ha=>h.pre hbA ha
 clear h hbA
 have hle:=zLi P chs rds x.s x.a x.b x.c
 have HC:=hide (zJo x.s x.a x.b x.c _ HB.out (by omega) ha0 ha1)
 generalize iZ P chs rds x.s x.a x.b x.c=r at *
 go_enter Tryz.func39,Tryz.ntmps39
 go_wp2_with fail
 generalize w.alloc (Obj.cells #[.string x.kind,.int .i64 x.a,.int .i64 x.b,.int .i64 x.c,.int .u64 x.k,.string x.s,.string x.t,.slice x.ca x.chs.length x.cc,.slice x.sa x.sps.length x.sc] 39)=wx at *
 refine HC.out.mono ?_
 rintro e w1 ⟨rfl,ha⟩
 have HA:=hide ha
 clear ha HC
 go_wp2_with fail
 refine(eU _ w1 hle).mono ?_
 rintro e w2 ⟨rfl,hb2⟩
 have HR:=hide (HP.out _ _ _ (HA.out.post hb2))
 clear hb2
 go_wp2
 go_ret
 exact⟨rfl,HR.out⟩
theorem zKJ (x:ActL) {B wb:Nat} {S:Nat->Prop} {P:Rws} {since:Sn} {chs:List Chg} {rds:Rws} (w:World) (h:QV w B wb S P since chs rds) (k0:(x.kind.toList==[99,114,101,97,116,101])=false) (k1:(x.kind.toList==[115,101,110,100])=false) (k2:(x.kind.toList==[114,101,99,101,105,118,101])=false) (k3:(x.kind.toList==[97,99,107])=false) (k4:(x.kind.toList==[119,97,105,116])=false) (k5:(x.kind.toList==[112,117,116])=true) (hl:fT x):
  Calls Tryz.prog 39 #[.pointer (some ⟨wb,0,none⟩),.agg #[Value.string x.kind,Value.int .i64 x.a,Value.int .i64 x.b,Value.int .i64 x.c,Value.int .u64 x.k,Value.string x.s,Value.string x.t,Value.slice x.ca x.chs.length x.cc,Value.slice x.sa x.sps.length x.sc]] w fun e w'=>e=.returned (.string (eI (cH chs ⟨x.s,x.t,false⟩)))/\ActQ w w' B wb S P since (bG chs ⟨x.s,x.t,false⟩) (rds):=by
 have hs:=hl.1
 have ht:=hl.2.1
 have ha0:=hl.2.2.1
 have ha1:=hl.2.2.2
 have y0:(w.alloc (Obj.cells #[.string x.kind,.int .i64 x.a,.int .i64 x.b,.int .i64 x.c,.int .u64 x.k,.string x.s,.string x.t,.slice x.ca x.chs.length x.cc,.slice x.sa x.sps.length x.sc] 39)).cell? ⟨w.heap.size,0,none⟩=some (.string x.kind):=aC _ _ _ 0
 have y5:(w.alloc (Obj.cells #[.string x.kind,.int .i64 x.a,.int .i64 x.b,.int .i64 x.c,.int .u64 x.k,.string x.s,.string x.t,.slice x.ca x.chs.length x.cc,.slice x.sa x.sps.length x.sc] 39)).cell? ⟨w.heap.size,5,none⟩=some (.string x.s):=aC _ _ _ 5
 have y6:(w.alloc (Obj.cells #[.string x.kind,.int .i64 x.a,.int .i64 x.b,.int .i64 x.c,.int .u64 x.k,.string x.s,.string x.t,.slice x.ca x.chs.length x.cc,.slice x.sa x.sps.length x.sc] 39)).cell? ⟨w.heap.size,6,none⟩=some (.string x.t):=aC _ _ _ 6
 have hbA:=below_alloc1 w (Obj.cells #[.string x.kind,.int .i64 x.a,.int .i64 x.b,.int .i64 x.c,.int .u64 x.k,.string x.s,.string x.t,.slice x.ca x.chs.length x.cc,.slice x.sa x.sps.length x.sc] 39)
 have HB:=hide (h.on hbA)
 have HP:Hid (∀ w' c r,ActQ (w.alloc (Obj.cells #[.string x.kind,.int .i64 x.a,.int .i64 x.b,.int .i64 x.c,.int .u64 x.k,.string x.s,.string x.t,.slice x.ca x.chs.length x.cc,.slice x.sa x.sps.length x.sc] 39)) w' B wb S P since c r->ActQ w w' B wb S P since c r):=fun w' c r ha=>h.pre hbA ha
 clear h hbA
 have hle:cH chs ⟨x.s,x.t,false⟩<=20:=Nat.le_trans (lZ chs ⟨x.s,x.t,false⟩) (by decide)
 have HC:=hide (zCM x.s x.t _ HB.out (by unfold maxLen;omega))
 generalize cH chs ⟨x.s,x.t,false⟩=f at *
 generalize bG chs ⟨x.s,x.t,false⟩=l at *
 go_enter Tryz.func39,Tryz.ntmps39
 go_wp2_with fail
 generalize w.alloc (Obj.cells #[.string x.kind,.int .i64 x.a,.int .i64 x.b,.int .i64 x.c,.int .u64 x.k,.string x.s,.string x.t,.slice x.ca x.chs.length x.cc,.slice x.sa x.sps.length x.sc] 39)=wx at *
 refine HC.out.mono ?_
 rintro e w1 ⟨rfl,ha⟩
 have HA:=hide ha
 clear ha HC
 go_wp2_with fail
 refine(eU _ w1 hle).mono ?_
 rintro e w2 ⟨rfl,hb2⟩
 have HR:=hide (HP.out _ _ _ (HA.out.post hb2))
 clear hb2
 go_wp2
 go_ret
 exact⟨rfl,HR.out⟩
theorem zDX (x:ActL) {B wb:Nat} {S:Nat->Prop} {P:Rws} {since:Sn} {chs:List Chg} {rds:Rws} (w:World) (h:QV w B wb S P since chs rds) (k0:(x.kind.toList==[99,114,101,97,116,101])=false) (k1:(x.kind.toList==[115,101,110,100])=false) (k2:(x.kind.toList==[114,101,99,101,105,118,101])=false) (k3:(x.kind.toList==[97,99,107])=false) (k4:(x.kind.toList==[119,97,105,116])=false) (k5:(x.kind.toList==[112,117,116])=false) (k6:(x.kind.toList==[100,101,108,101,116,101])=true) (hl:fT x):
  Calls Tryz.prog 39 #[.pointer (some ⟨wb,0,none⟩),.agg #[Value.string x.kind,Value.int .i64 x.a,Value.int .i64 x.b,Value.int .i64 x.c,Value.int .u64 x.k,Value.string x.s,Value.string x.t,Value.slice x.ca x.chs.length x.cc,Value.slice x.sa x.sps.length x.sc]] w fun e w'=>e=.returned (.string (eI (cH chs ⟨x.s,⟨#[]⟩,true⟩)))/\ActQ w w' B wb S P since (bG chs ⟨x.s,⟨#[]⟩,true⟩) (rds):=by
 have hs:=hl.1
 have ht:=hl.2.1
 have ha0:=hl.2.2.1
 have ha1:=hl.2.2.2
 have y0:(w.alloc (Obj.cells #[.string x.kind,.int .i64 x.a,.int .i64 x.b,.int .i64 x.c,.int .u64 x.k,.string x.s,.string x.t,.slice x.ca x.chs.length x.cc,.slice x.sa x.sps.length x.sc] 39)).cell? ⟨w.heap.size,0,none⟩=some (.string x.kind):=aC _ _ _ 0
 have y5:(w.alloc (Obj.cells #[.string x.kind,.int .i64 x.a,.int .i64 x.b,.int .i64 x.c,.int .u64 x.k,.string x.s,.string x.t,.slice x.ca x.chs.length x.cc,.slice x.sa x.sps.length x.sc] 39)).cell? ⟨w.heap.size,5,none⟩=some (.string x.s):=aC _ _ _ 5
 have hbA:=below_alloc1 w (Obj.cells #[.string x.kind,.int .i64 x.a,.int .i64 x.b,.int .i64 x.c,.int .u64 x.k,.string x.s,.string x.t,.slice x.ca x.chs.length x.cc,.slice x.sa x.sps.length x.sc] 39)
 have HB:=hide (h.on hbA)
 have HP:Hid (∀ w' c r,ActQ (w.alloc (Obj.cells #[.string x.kind,.int .i64 x.a,.int .i64 x.b,.int .i64 x.c,.int .u64 x.k,.string x.s,.string x.t,.slice x.ca x.chs.length x.cc,.slice x.sa x.sps.length x.sc] 39)) w' B wb S P since c r->ActQ w w' B wb S P since c r):=fun w' c r ha=>h.pre hbA ha
 clear h hbA
 have hle:cH chs ⟨x.s,⟨#[]⟩,true⟩<=20:=Nat.le_trans (lZ chs ⟨x.s,⟨#[]⟩,true⟩) (by decide)
 have HC:=hide (uA x.s _ HB.out (by unfold maxLen;omega))
 generalize cH chs ⟨x.s,⟨#[]⟩,true⟩=f at *
 generalize bG chs ⟨x.s,⟨#[]⟩,true⟩=l at *
 go_enter Tryz.func39,Tryz.ntmps39
 go_wp2_with fail
 generalize w.alloc (Obj.cells #[.string x.kind,.int .i64 x.a,.int .i64 x.b,.int .i64 x.c,.int .u64 x.k,.string x.s,.string x.t,.slice x.ca x.chs.length x.cc,.slice x.sa x.sps.length x.sc] 39)=wx at *
 refine HC.out.mono ?_
 rintro e w1 ⟨rfl,ha⟩
 have HA:=hide ha
 clear ha HC
 go_wp2_with fail
 refine(eU _ w1 hle).mono ?_
 rintro e w2 ⟨rfl,hb2⟩
 have HR:=hide (HP.out _ _ _ (HA.out.post hb2))
 clear hb2
 go_wp2
 go_ret
 exact⟨rfl,HR.out⟩
theorem zHZ (x:ActL) {B wb:Nat} {S:Nat->Prop} {P:Rws} {since:Sn} {chs:List Chg} {rds:Rws} (w:World) (h:QV w B wb S P since chs rds) (k0:(x.kind.toList==[99,114,101,97,116,101])=false) (k1:(x.kind.toList==[115,101,110,100])=true) (hl:fT x):
  Calls Tryz.prog 39 #[.pointer (some ⟨wb,0,none⟩),.agg #[Value.string x.kind,Value.int .i64 x.a,Value.int .i64 x.b,Value.int .i64 x.c,Value.int .u64 x.k,Value.string x.s,Value.string x.t,Value.slice x.ca x.chs.length x.cc,Value.slice x.sa x.sps.length x.sc]] w fun e w'=>e=.returned (.string (decZ (fN P chs rds x.s x.t x.a).1++eI (fN P chs rds x.s x.t x.a).2.1))/\ActQ w w' B wb S P since ((fN P chs rds x.s x.t x.a).2.2.1) ((fN P chs rds x.s x.t x.a).2.2.2):=by
 have hs:=hl.1
 have ht:=hl.2.1
 have ha0:=hl.2.2.1
 have ha1:=hl.2.2.2
 have y0:(w.alloc (Obj.cells #[.string x.kind,.int .i64 x.a,.int .i64 x.b,.int .i64 x.c,.int .u64 x.k,.string x.s,.string x.t,.slice x.ca x.chs.length x.cc,.slice x.sa x.sps.length x.sc] 39)).cell? ⟨w.heap.size,0,none⟩=some (.string x.kind):=aC _ _ _ 0
 have y5:(w.alloc (Obj.cells #[.string x.kind,.int .i64 x.a,.int .i64 x.b,.int .i64 x.c,.int .u64 x.k,.string x.s,.string x.t,.slice x.ca x.chs.length x.cc,.slice x.sa x.sps.length x.sc] 39)).cell? ⟨w.heap.size,5,none⟩=some (.string x.s):=aC _ _ _ 5
 have y6:(w.alloc (Obj.cells #[.string x.kind,.int .i64 x.a,.int .i64 x.b,.int .i64 x.c,.int .u64 x.k,.string x.s,.string x.t,.slice x.ca x.chs.length x.cc,.slice x.sa x.sps.length x.sc] 39)).cell? ⟨w.heap.size,6,none⟩=some (.string x.t):=aC _ _ _ 6
 have y1:(w.alloc (Obj.cells #[.string x.kind,.int .i64 x.a,.int .i64 x.b,.int .i64 x.c,.int .u64 x.k,.string x.s,.string x.t,.slice x.ca x.chs.length x.cc,.slice x.sa x.sps.length x.sc] 39)).cell? ⟨w.heap.size,1,none⟩=some (.int .i64 x.a):=aC _ _ _ 1
 have hbA:=below_alloc1 w (Obj.cells #[.string x.kind,.int .i64 x.a,.int .i64 x.b,.int .i64 x.c,.int .u64 x.k,.string x.s,.string x.t,.slice x.ca x.chs.length x.cc,.slice x.sa x.sps.length x.sc] 39)
 have HB:=hide (h.on hbA)
 have HP:Hid (∀ w' c r,ActQ (w.alloc (Obj.cells #[.string x.kind,.int .i64 x.a,.int .i64 x.b,.int .i64 x.c,.int .u64 x.k,.string x.s,.string x.t,.slice x.ca x.chs.length x.cc,.slice x.sa x.sps.length x.sc] 39)) w' B wb S P since c r->ActQ w w' B wb S P since c r):=fun w' c r ha=>h.pre hbA ha
 clear h hbA
 have hle:=zLe P chs rds x.s x.t x.a
 have HC:=hide (zIc x.s x.t x.a _ HB.out (by omega))
 generalize fN P chs rds x.s x.t x.a=r at *
 obtain⟨n,f,c,rd⟩:=r
 dsimp only at hle HC ⊢
 have hz1:=jY (n:=n) (by omega) (by omega)
 have hz2:=lA hle.1
 have HD:=fun W=>hide (vS n W (by omega) (by omega))
 generalize decZ n=dn at *
 go_enter Tryz.func39,Tryz.ntmps39
 go_wp2_with fail
 generalize w.alloc (Obj.cells #[.string x.kind,.int .i64 x.a,.int .i64 x.b,.int .i64 x.c,.int .u64 x.k,.string x.s,.string x.t,.slice x.ca x.chs.length x.cc,.slice x.sa x.sps.length x.sc] 39)=wx at *
 refine HC.out.mono ?_
 rintro e w1 ⟨rfl,ha⟩
 have HA:=hide ha
 clear ha HC
 go_wp2_with fail
 refine(HD w1).out.mono ?_
 rintro e w2 ⟨rfl,hb2⟩
 have HA2:=hide (HA.out.post hb2)
 clear hb2
 go_wp2_with fail
 refine(eU _ w2 hle.1).mono ?_
 rintro e w3 ⟨rfl,hb3⟩
 have HR:=hide (HP.out _ _ _ (HA2.out.post hb3))
 clear hb3
 go_wp2
 go_ret
 exact⟨rfl,HR.out⟩
theorem zCA (x:ActL) {B wb:Nat} {S:Nat->Prop} {P:Rws} {since:Sn} {chs:List Chg} {rds:Rws} (w:World) (h:QV w B wb S P since chs rds) (k0:(x.kind.toList==[99,114,101,97,116,101])=false) (k1:(x.kind.toList==[115,101,110,100])=false) (k2:(x.kind.toList==[114,101,99,101,105,118,101])=true) (hl:fT x):
  Calls Tryz.prog 39 #[.pointer (some ⟨wb,0,none⟩),.agg #[Value.string x.kind,Value.int .i64 x.a,Value.int .i64 x.b,Value.int .i64 x.c,Value.int .u64 x.k,Value.string x.s,Value.string x.t,Value.slice x.ca x.chs.length x.cc,Value.slice x.sa x.sps.length x.sc]] w fun e w'=>e=.returned (.string (msgT (dK P chs rds x.s x.a x.b).1++eI (dK P chs rds x.s x.a x.b).1.2.2.2.2))/\ActQ w w' B wb S P since ((dK P chs rds x.s x.a x.b).2.1) ((dK P chs rds x.s x.a x.b).2.2):=by
 have hs:=hl.1
 have ht:=hl.2.1
 have ha0:=hl.2.2.1
 have ha1:=hl.2.2.2
 have y0:(w.alloc (Obj.cells #[.string x.kind,.int .i64 x.a,.int .i64 x.b,.int .i64 x.c,.int .u64 x.k,.string x.s,.string x.t,.slice x.ca x.chs.length x.cc,.slice x.sa x.sps.length x.sc] 39)).cell? ⟨w.heap.size,0,none⟩=some (.string x.kind):=aC _ _ _ 0
 have y5:(w.alloc (Obj.cells #[.string x.kind,.int .i64 x.a,.int .i64 x.b,.int .i64 x.c,.int .u64 x.k,.string x.s,.string x.t,.slice x.ca x.chs.length x.cc,.slice x.sa x.sps.length x.sc] 39)).cell? ⟨w.heap.size,5,none⟩=some (.string x.s):=aC _ _ _ 5
 have y1:(w.alloc (Obj.cells #[.string x.kind,.int .i64 x.a,.int .i64 x.b,.int .i64 x.c,.int .u64 x.k,.string x.s,.string x.t,.slice x.ca x.chs.length x.cc,.slice x.sa x.sps.length x.sc] 39)).cell? ⟨w.heap.size,1,none⟩=some (.int .i64 x.a):=aC _ _ _ 1
 have y2:(w.alloc (Obj.cells #[.string x.kind,.int .i64 x.a,.int .i64 x.b,.int .i64 x.c,.int .u64 x.k,.string x.s,.string x.t,.slice x.ca x.chs.length x.cc,.slice x.sa x.sps.length x.sc] 39)).cell? ⟨w.heap.size,2,none⟩=some (.int .i64 x.b):=aC _ _ _ 2
 have hbA:=below_alloc1 w (Obj.cells #[.string x.kind,.int .i64 x.a,.int .i64 x.b,.int .i64 x.c,.int .u64 x.k,.string x.s,.string x.t,.slice x.ca x.chs.length x.cc,.slice x.sa x.sps.length x.sc] 39)
 have HB:=hide (h.on hbA)
 have HP:Hid (∀ w' c r,ActQ (w.alloc (Obj.cells #[.string x.kind,.int .i64 x.a,.int .i64 x.b,.int .i64 x.c,.int .u64 x.k,.string x.s,.string x.t,.slice x.ca x.chs.length x.cc,.slice x.sa x.sps.length x.sc] 39)) w' B wb S P since c r->ActQ w w' B wb S P since c r):=fun w' c r ha=>h.pre hbA ha
 clear h hbA
 have hle:=zE0 P chs rds x.s x.a x.b
 have HC:=hide (zCy x.s x.a x.b _ HB.out (by omega))
 generalize dK P chs rds x.s x.a x.b=r at *
 obtain⟨m,c,rd⟩:=r
 dsimp only at hle HC ⊢
 have HM:=fun W=>hide (zDc m W hle)
 have hf:=hle.2.2.2.1
 have hz1:=uP hle
 have hz2:=lA hf
 obtain⟨mk,mt,mu,md,em⟩:=m
 dsimp only at hf HC HM hz1 hz2 ⊢
 generalize msgT (mk,mt,mu,md,em)=mtx at *
 go_enter Tryz.func39,Tryz.ntmps39
 go_wp2_with fail
 generalize w.alloc (Obj.cells #[.string x.kind,.int .i64 x.a,.int .i64 x.b,.int .i64 x.c,.int .u64 x.k,.string x.s,.string x.t,.slice x.ca x.chs.length x.cc,.slice x.sa x.sps.length x.sc] 39)=wx at *
 refine HC.out.mono ?_
 rintro e w1 ⟨rfl,ha⟩
 have hbM:=below_alloc1 w1 (Obj.cells #[.int .i64 mk,.int .i64 mt,.int .i64 mu,.string md] 99)
 have HA:=hide (ha.post hbM)
 clear ha HC hbM
 go_wp2_with fail
 refine(HM _).out.mono ?_
 rintro e w2 ⟨rfl,hb2⟩
 have HA2:=hide (HA.out.post hb2)
 clear hb2
 go_wp2_with fail
 refine(eU _ w2 hf).mono ?_
 rintro e w3 ⟨rfl,hb3⟩
 have HR:=hide (HP.out _ _ _ (HA2.out.post hb3))
 clear hb3
 go_wp2
 go_ret
 exact⟨rfl,HR.out⟩
theorem zJW (x:ActL) {B wb:Nat} {S:Nat->Prop} {P:Rws} {since:Sn} {chs:List Chg} {rds:Rws} (w:World) (h:QV w B wb S P since chs rds) (k0:(x.kind.toList==[99,114,101,97,116,101])=false) (k1:(x.kind.toList==[115,101,110,100])=false) (k2:(x.kind.toList==[114,101,99,101,105,118,101])=false) (k3:(x.kind.toList==[97,99,107])=false) (k4:(x.kind.toList==[119,97,105,116])=false) (k5:(x.kind.toList==[112,117,116])=false) (k6:(x.kind.toList==[100,101,108,101,116,101])=false) (k7:(x.kind.toList==[103,101,116])=true) (hl:fT x):
  Calls Tryz.prog 39 #[.pointer (some ⟨wb,0,none⟩),.agg #[Value.string x.kind,Value.int .i64 x.a,Value.int .i64 x.b,Value.int .i64 x.c,Value.int .u64 x.k,Value.string x.s,Value.string x.t,Value.slice x.ca x.chs.length x.cc,Value.slice x.sa x.sps.length x.sc]] w fun e w'=>e=.returned (.string ((if (getP chs rds P x.s).2.1=true then ⟨#[43]⟩++(getP chs rds P x.s).1 else (getP chs rds P x.s).1)++eI (getP chs rds P x.s).2.2))/\ActQ w w' B wb S P since (chs) (getL chs rds x.s):=by
 have hs:=hl.1
 have ht:=hl.2.1
 have ha0:=hl.2.2.1
 have ha1:=hl.2.2.2
 have y0:(w.alloc (Obj.cells #[.string x.kind,.int .i64 x.a,.int .i64 x.b,.int .i64 x.c,.int .u64 x.k,.string x.s,.string x.t,.slice x.ca x.chs.length x.cc,.slice x.sa x.sps.length x.sc] 39)).cell? ⟨w.heap.size,0,none⟩=some (.string x.kind):=aC _ _ _ 0
 have y5:(w.alloc (Obj.cells #[.string x.kind,.int .i64 x.a,.int .i64 x.b,.int .i64 x.c,.int .u64 x.k,.string x.s,.string x.t,.slice x.ca x.chs.length x.cc,.slice x.sa x.sps.length x.sc] 39)).cell? ⟨w.heap.size,5,none⟩=some (.string x.s):=aC _ _ _ 5
 have hbA:=below_alloc1 w (Obj.cells #[.string x.kind,.int .i64 x.a,.int .i64 x.b,.int .i64 x.c,.int .u64 x.k,.string x.s,.string x.t,.slice x.ca x.chs.length x.cc,.slice x.sa x.sps.length x.sc] 39)
 have HB:=hide (h.on hbA)
 have HP:Hid (∀ w' c r,ActQ (w.alloc (Obj.cells #[.string x.kind,.int .i64 x.a,.int .i64 x.b,.int .i64 x.c,.int .u64 x.k,.string x.s,.string x.t,.slice x.ca x.chs.length x.cc,.slice x.sa x.sps.length x.sc] 39)) w' B wb S P since c r->ActQ w w' B wb S P since c r):=fun w' c r ha=>h.pre hbA ha
 clear h hbA
 have hle:(getP chs rds P x.s).2.2<=20:=Nat.le_trans (zAH chs rds P x.s) (by decide)
 have hz1:=uU HB.out.ok rds x.s
 have hz2:=lA hle
 have HC:=hide (zCw x.s _ HB.out (by unfold maxLen;omega))
 generalize getP chs rds P x.s=r at *
 obtain⟨v,is,f⟩:=r
 dsimp only at hle hz1 hz2 HC ⊢
 cases is
 all_goals
  simp only[if_true,Bool.false_eq_true,if_false]
  go_enter Tryz.func39,Tryz.ntmps39
  go_wp2_with fail
  generalize w.alloc (Obj.cells #[.string x.kind,.int .i64 x.a,.int .i64 x.b,.int .i64 x.c,.int .u64 x.k,.string x.s,.string x.t,.slice x.ca x.chs.length x.cc,.slice x.sa x.sps.length x.sc] 39)=wx at *
  refine HC.out.mono ?_
  rintro e w1 ⟨rfl,ha⟩
  have HA:=hide ha
  clear ha HC
  go_wp2_with fail
  refine(eU _ w1 hle).mono ?_
  rintro e w2 ⟨rfl,hb2⟩
  have HR:=hide (HP.out _ _ _ (HA.out.post hb2))
  clear hb2
  go_wp2
  go_ret
  exact⟨rfl,HR.out⟩
theorem qI (m:Msg):(qM m).length=4:=rfl
theorem zMB {w:World} {B:Nat} {v:Value} {l:List Msg} (h:ownM w B v l):∃ ao cap,v=.slice ao l.length cap/\(l=[]∨∃ g,ao=some ⟨g,0,none⟩/\∀ i (hi:i<l.length),w.cell? ⟨g,i*4,none⟩=some (.int .i64 l[i].1)/\w.cell? ⟨g,i*4+1,none⟩=some (.int .i64 l[i].2.1)/\w.cell? ⟨g,i*4+2,none⟩=some (.int .i64 l[i].2.2.1)/\w.cell? ⟨g,i*4+3,none⟩=some (.string l[i].2.2.2.1)):=by
 rcases aX h with⟨e,e2⟩|⟨g,cap,e,_⟩
 ·exact⟨none,0,by rw[e,e2],.inl (List.length_eq_zero_iff.1 e2)⟩
 ·refine⟨_,cap,e,.inr ⟨g,rfl,fun i hi=>?_⟩⟩
  unfold ownM at h
  rw[e] at h
  exact⟨(dU qI h i 0 hi (by omega)).1,(dU qI h i 1 hi (by omega)).1,(dU qI h i 2 hi (by omega)).1,(dU qI h i 3 hi (by omega)).1⟩
theorem zGC {l:List Msg} {k:Nat} (hk:k<l.length):mG (l.take (k+1))=mG (l.take k)++msgT l[k]++⟨#[59]⟩:=by
 unfold mG
 rw[List.take_succ_eq_append_getElem hk,List.foldl_append]
 rfl
theorem yF {l:Rws} {k:Nat} (hk:k<l.length):iI (l.take (k+1))=iI (l.take k)++l[k].1++⟨#[61]⟩++l[k].2++⟨#[59]⟩:=by
 unfold iI
 rw[List.take_succ_eq_append_getElem hk,List.foldl_append]
 rfl
theorem zCc (x:ActL) {B wb:Nat} {S:Nat->Prop} {P:Rws} {since:Sn} {chs:List Chg} {rds:Rws} (w:World) (h:QV w B wb S P since chs rds) (k0:(x.kind.toList==[99,114,101,97,116,101])=false) (k1:(x.kind.toList==[115,101,110,100])=false) (k2:(x.kind.toList==[114,101,99,101,105,118,101])=false) (k3:(x.kind.toList==[97,99,107])=false) (k4:(x.kind.toList==[119,97,105,116])=false) (k5:(x.kind.toList==[112,117,116])=false) (k6:(x.kind.toList==[100,101,108,101,116,101])=false) (k7:(x.kind.toList==[103,101,116])=false) (k8:(x.kind.toList==[109,101,115,115,97,103,101,115])=true) (hl:fT x):
  Calls Tryz.prog 39 #[.pointer (some ⟨wb,0,none⟩),.agg #[Value.string x.kind,Value.int .i64 x.a,Value.int .i64 x.b,Value.int .i64 x.c,Value.int .u64 x.k,Value.string x.s,Value.string x.t,Value.slice x.ca x.chs.length x.cc,Value.slice x.sa x.sps.length x.sc]] w fun e w'=>e=.returned (.string ((if (cY P chs rds x.s).1=0 then mG (cY P chs rds x.s).2.1 else ⟨#[]⟩)++eI (cY P chs rds x.s).1))/\ActQ w w' B wb S P since (chs) ((cY P chs rds x.s).2.2):=by
 have hs:=hl.1
 have ht:=hl.2.1
 have ha0:=hl.2.2.1
 have ha1:=hl.2.2.2
 have y0:(w.alloc (Obj.cells #[.string x.kind,.int .i64 x.a,.int .i64 x.b,.int .i64 x.c,.int .u64 x.k,.string x.s,.string x.t,.slice x.ca x.chs.length x.cc,.slice x.sa x.sps.length x.sc] 39)).cell? ⟨w.heap.size,0,none⟩=some (.string x.kind):=aC _ _ _ 0
 have y5:(w.alloc (Obj.cells #[.string x.kind,.int .i64 x.a,.int .i64 x.b,.int .i64 x.c,.int .u64 x.k,.string x.s,.string x.t,.slice x.ca x.chs.length x.cc,.slice x.sa x.sps.length x.sc] 39)).cell? ⟨w.heap.size,5,none⟩=some (.string x.s):=aC _ _ _ 5
 have hbA:=below_alloc1 w (Obj.cells #[.string x.kind,.int .i64 x.a,.int .i64 x.b,.int .i64 x.c,.int .u64 x.k,.string x.s,.string x.t,.slice x.ca x.chs.length x.cc,.slice x.sa x.sps.length x.sc] 39)
 have HB:=hide (h.on hbA)
 have HP:Hid (∀ w' c r,ActQ (w.alloc (Obj.cells #[.string x.kind,.int .i64 x.a,.int .i64 x.b,.int .i64 x.c,.int .u64 x.k,.string x.s,.string x.t,.slice x.ca x.chs.length x.cc,.slice x.sa x.sps.length x.sc] 39)) w' B wb S P since c r->ActQ w w' B wb S P since c r):=fun w' c r ha=>h.pre hbA ha
 clear h hbA
 have hle:=zCQ P chs rds x.s
 have HC:=hide (zCk x.s _ HB.out (by omega))
 generalize cY P chs rds x.s=r at *
 obtain⟨f,l,rd⟩:=r
 dsimp only at hle HC ⊢
 have hz2:=lA hle.1
 by_cases hf:f=0
 ·subst hf
  rw[if_pos rfl]
  go_enter Tryz.func39,Tryz.ntmps39
  go_wp2_with fail
  generalize w.alloc (Obj.cells #[.string x.kind,.int .i64 x.a,.int .i64 x.b,.int .i64 x.c,.int .u64 x.k,.string x.s,.string x.t,.slice x.ca x.chs.length x.cc,.slice x.sa x.sps.length x.sc] 39)=wx at *
  refine HC.out.mono ?_
  rintro e w1 ⟨h1,_⟩
  obtain⟨v,rfl,S1,ho,hq1,hs1,_⟩:=h1 rfl
  have HA:=hide (HP.out w1 _ _ ⟨S1,hq1,hs1⟩)
  obtain⟨ao,cap,rfl,hel⟩:=zMB ho
  have HEL:=hide hel
  have hll:l.length<=9223372036854775807:=by
   rcases aX ho with⟨_,e2⟩|⟨g,cap,e,_,_,h3,h4⟩
   ·omega
   ·unfold maxLen at h4;omega
  clear h1 ho hq1 hs1 hel HC
  have hl53:l.length<=1000:=hle.2.2
  have hzl:=yC hle.2.1
  have HF:=fun W=>hide (eU 0 W (by decide))
  rw[aR] at HF
  have hok:=hle.2.1
  go_wp2_with fail
  go_loopw [15,16] (fun sv iv wr=>∃ k:Nat,k<=l.length/\iv=.int .i64 (k:Int)/\sv=.string (mG (l.take k))/\Below w1.heap.size w1 wr) (fun _ iv _=>l.length-(intOf iv).toNat)
  case atStart=>exact⟨0,Nat.zero_le _,rfl,rfl,Below.refl _ _⟩
  case round=>
   obtain⟨k,hk,rfl,rfl,hb⟩:=hrel
   by_cases hlt:k<l.length
   ·have hlt':(k:Int)<(l.length:Int):=by omega
    have hk0:(0:Int)<=(k:Int):=by omega
    rcases HEL.out with e|⟨g,e,hc⟩
    ·rw[e] at hlt;simp at hlt
    subst e
    obtain⟨d0,d1,d2,d3⟩:=hc k hlt
    have HT:=hide (zGC hlt)
    have HM:=fun W=>hide (zDc l[k] W (hok _ (List.getElem_mem hlt)))
    have hz3:=uP (hok _ (List.getElem_mem hlt))
    have hz4:=yC (l:=l.take k) fun m hm=>hok m (List.mem_of_mem_take hm)
    have hz5:(l.take k).length<=1000:=by rw[List.length_take];omega
    replace d0:=aA hb d0
    replace d1:=aA hb d1
    replace d2:=aA hb d2
    replace d3:=aA hb d3
    clear hc
    generalize l[k]=m at *
    obtain⟨mk,mt,mu,md,em⟩:=m
    dsimp only at d0 d1 d2 d3 HM hz3
    have hz6:(mG (l.take k)).size<=61000:=by omega
    clear hz4 hz5 hzl
    generalize msgT (mk,mt,mu,md,em)=mtx at *
    generalize mG (l.take k)=pre at *
    go_wp2_with fail
    refine(HM _).out.mono ?_
    rintro e w2 ⟨rfl,hb2⟩
    have HB2:=hide (aB hb (Nat.le_refl _) hb2)
    clear hb2 d0 d1 d2 d3
    go_wp2_with fail
    exact⟨⟨k+1,by omega,by go_num,by rw[HT.out],HB2.out⟩,by simp[intOf];omega⟩
   ·have ek:k=l.length:=by omega
    subst ek
    rw[List.take_length]
    have hlt':¬(l.length:Int)<(l.length:Int):=by omega
    have hz6:(mG l).size<=61000:=by omega
    clear hzl
    go_wp2_with fail
    refine(HF _).out.mono ?_
    rintro e w3 ⟨rfl,hb3⟩
    have HR:=hide (HA.out.post (aB hb (Nat.le_refl _) hb3))
    clear hb3
    go_wp2
    go_ret
    exact⟨rfl,HR.out⟩
 ·rw[if_neg hf]
  go_enter Tryz.func39,Tryz.ntmps39
  go_wp2_with fail
  generalize w.alloc (Obj.cells #[.string x.kind,.int .i64 x.a,.int .i64 x.b,.int .i64 x.c,.int .u64 x.k,.string x.s,.string x.t,.slice x.ca x.chs.length x.cc,.slice x.sa x.sps.length x.sc] 39)=wx at *
  refine HC.out.mono ?_
  rintro e w1 ⟨_,h2⟩
  obtain⟨rfl,ha⟩:=h2 hf
  have HA:=hide ha
  have HF:=fun W=>hide (eU f W hle.1)
  clear ha HC h2
  generalize errV f=ev at *
  go_wp2_with fail
  refine wp_loop_rounds 1 ?_
  rw[rounds_succ]
  go_wp2_with fail
  refine(HF _).out.mono ?_
  rintro e w3 ⟨rfl,hb3⟩
  have HR:=hide (HP.out _ _ _ (HA.out.post hb3))
  clear hb3
  go_wp2
  go_ret
  exact⟨rfl,HR.out⟩
theorem zAL (x:ActL) {B wb:Nat} {S:Nat->Prop} {P:Rws} {since:Sn} {chs:List Chg} {rds:Rws} (w:World) (h:QV w B wb S P since chs rds) (k0:(x.kind.toList==[99,114,101,97,116,101])=false) (k1:(x.kind.toList==[115,101,110,100])=false) (k2:(x.kind.toList==[114,101,99,101,105,118,101])=false) (k3:(x.kind.toList==[97,99,107])=false) (k4:(x.kind.toList==[119,97,105,116])=false) (k5:(x.kind.toList==[112,117,116])=false) (k6:(x.kind.toList==[100,101,108,101,116,101])=false) (k7:(x.kind.toList==[103,101,116])=false) (k8:(x.kind.toList==[109,101,115,115,97,103,101,115])=false) (hl:fT x) (hn:¬0<x.sps.length):
  Calls Tryz.prog 39 #[.pointer (some ⟨wb,0,none⟩),.agg #[Value.string x.kind,Value.int .i64 x.a,Value.int .i64 x.b,Value.int .i64 x.c,Value.int .u64 x.k,Value.string x.s,Value.string x.t,Value.slice x.ca x.chs.length x.cc,Value.slice x.sa x.sps.length x.sc]] w fun e w'=>e=.returned (.string ((if dL (aF P chs ((⟨#[]⟩,⟨#[]⟩):ByteArray×ByteArray)) rds ((⟨#[]⟩,⟨#[]⟩):ByteArray×ByteArray) x.a=0 then iI ((aF P chs ((⟨#[]⟩,⟨#[]⟩):ByteArray×ByteArray)).take x.a.toNat) else ⟨#[]⟩)++eI (dL (aF P chs ((⟨#[]⟩,⟨#[]⟩):ByteArray×ByteArray)) rds ((⟨#[]⟩,⟨#[]⟩):ByteArray×ByteArray) x.a)))/\ActQ w w' B wb S P since (chs) (eP (aF P chs ((⟨#[]⟩,⟨#[]⟩):ByteArray×ByteArray)) rds ((⟨#[]⟩,⟨#[]⟩):ByteArray×ByteArray) x.a):=by
 have hs:=hl.1
 have ht:=hl.2.1
 have ha0:=hl.2.2.1
 have ha1:=hl.2.2.2
 have y0:(w.alloc (Obj.cells #[.string x.kind,.int .i64 x.a,.int .i64 x.b,.int .i64 x.c,.int .u64 x.k,.string x.s,.string x.t,.slice x.ca x.chs.length x.cc,.slice x.sa x.sps.length x.sc] 39)).cell? ⟨w.heap.size,0,none⟩=some (.string x.kind):=aC _ _ _ 0
 have y8:(w.alloc (Obj.cells #[.string x.kind,.int .i64 x.a,.int .i64 x.b,.int .i64 x.c,.int .u64 x.k,.string x.s,.string x.t,.slice x.ca x.chs.length x.cc,.slice x.sa x.sps.length x.sc] 39)).cell? ⟨w.heap.size,8,none⟩=some (.slice x.sa x.sps.length x.sc):=aC _ _ _ 8
 have y1:(w.alloc (Obj.cells #[.string x.kind,.int .i64 x.a,.int .i64 x.b,.int .i64 x.c,.int .u64 x.k,.string x.s,.string x.t,.slice x.ca x.chs.length x.cc,.slice x.sa x.sps.length x.sc] 39)).cell? ⟨w.heap.size,1,none⟩=some (.int .i64 x.a):=aC _ _ _ 1
 have hbA:=below_alloc1 w (Obj.cells #[.string x.kind,.int .i64 x.a,.int .i64 x.b,.int .i64 x.c,.int .u64 x.k,.string x.s,.string x.t,.slice x.ca x.chs.length x.cc,.slice x.sa x.sps.length x.sc] 39)
 have HB:=hide (h.on hbA)
 have HP:Hid (∀ w' c r,ActQ (w.alloc (Obj.cells #[.string x.kind,.int .i64 x.a,.int .i64 x.b,.int .i64 x.c,.int .u64 x.k,.string x.s,.string x.t,.slice x.ca x.chs.length x.cc,.slice x.sa x.sps.length x.sc] 39)) w' B wb S P since c r->ActQ w w' B wb S P since c r):=fun w' c r ha=>h.pre hbA ha
 clear h hbA
 have hsl:¬(0:Int)<(x.sps.length:Int):=by omega
 have hle:=xY (aF P chs ((⟨#[]⟩,⟨#[]⟩):ByteArray×ByteArray)) rds ((⟨#[]⟩,⟨#[]⟩):ByteArray×ByteArray) x.a
 have HQ:Hid (∀ W,Below (w.alloc (Obj.cells #[.string x.kind,.int .i64 x.a,.int .i64 x.b,.int .i64 x.c,.int .u64 x.k,.string x.s,.string x.t,.slice x.ca x.chs.length x.cc,.slice x.sa x.sps.length x.sc] 39)).heap.size (w.alloc (Obj.cells #[.string x.kind,.int .i64 x.a,.int .i64 x.b,.int .i64 x.c,.int .u64 x.k,.string x.s,.string x.t,.slice x.ca x.chs.length x.cc,.slice x.sa x.sps.length x.sc] 39)) W->Calls Tryz.prog 42 #[.pointer (some ⟨wb,0,none⟩),.agg #[.string ((⟨#[]⟩,⟨#[]⟩):ByteArray×ByteArray).1,.string ((⟨#[]⟩,⟨#[]⟩):ByteArray×ByteArray).2],.int .i64 x.a] W fun e w'=>(dL (aF P chs ((⟨#[]⟩,⟨#[]⟩):ByteArray×ByteArray)) rds ((⟨#[]⟩,⟨#[]⟩):ByteArray×ByteArray) x.a=0->∃ ao cap,e=.returned (.tuple #[.slice ao ((aF P chs ((⟨#[]⟩,⟨#[]⟩):ByteArray×ByteArray)).take x.a.toNat).length cap,.nilIface])/\((aF P chs ((⟨#[]⟩,⟨#[]⟩):ByteArray×ByteArray)).take x.a.toNat).length<=9223372036854775807/\bY w' ao ((aF P chs ((⟨#[]⟩,⟨#[]⟩):ByteArray×ByteArray)).take x.a.toNat)/\ActQ w w' B wb S P since chs (eP (aF P chs ((⟨#[]⟩,⟨#[]⟩):ByteArray×ByteArray)) rds ((⟨#[]⟩,⟨#[]⟩):ByteArray×ByteArray) x.a))/\(dL (aF P chs ((⟨#[]⟩,⟨#[]⟩):ByteArray×ByteArray)) rds ((⟨#[]⟩,⟨#[]⟩):ByteArray×ByteArray) x.a≠0->e=.returned (.tuple #[.slice none 0 0,errV (dL (aF P chs ((⟨#[]⟩,⟨#[]⟩):ByteArray×ByteArray)) rds ((⟨#[]⟩,⟨#[]⟩):ByteArray×ByteArray) x.a)])/\ActQ w w' B wb S P since chs (eP (aF P chs ((⟨#[]⟩,⟨#[]⟩):ByteArray×ByteArray)) rds ((⟨#[]⟩,⟨#[]⟩):ByteArray×ByteArray) x.a))):=fun W hb=>by
  refine(vM ((⟨#[]⟩,⟨#[]⟩):ByteArray×ByteArray) x.a W (HB.out.on hb).pv ha1).mono ?_
  rintro e w' ⟨s1,s2⟩
  refine⟨fun hz=>?_,fun hz=>?_⟩
  ·obtain⟨ao,cap,he,hcap,hh,S',hp,hst,_⟩:=s1 hz
   exact⟨ao,cap,he,by omega,hh,HP.out _ _ _ (HB.out.pre hb ((HB.out.on hb).act (HB.out.ok) ⟨S',hp,hst⟩))⟩
  ·obtain⟨he,ha⟩:=s2 hz
   exact⟨he,HP.out _ _ _ (HB.out.pre hb ((HB.out.on hb).act (HB.out.ok) ha))⟩
 have hz2:=lA hle
 have hrk:∀ r∈(aF P chs ((⟨#[]⟩,⟨#[]⟩):ByteArray×ByteArray)).take x.a.toNat,r.1.size<=60/\r.2.size<=40:=fun r hr=>⟨(jN HB.out.pv.ok ((⟨#[]⟩,⟨#[]⟩):ByteArray×ByteArray)).2 r (List.mem_of_mem_take hr),(tB HB.out.ok ((⟨#[]⟩,⟨#[]⟩):ByteArray×ByteArray) r (List.mem_of_mem_take hr)).2⟩
 have hln:((aF P chs ((⟨#[]⟩,⟨#[]⟩):ByteArray×ByteArray)).take x.a.toNat).length<=62:=by rw[List.length_take];have:=(jN HB.out.pv.ok ((⟨#[]⟩,⟨#[]⟩):ByteArray×ByteArray)).1;omega
 generalize dL (aF P chs ((⟨#[]⟩,⟨#[]⟩):ByteArray×ByteArray)) rds ((⟨#[]⟩,⟨#[]⟩):ByteArray×ByteArray) x.a=f at *
 generalize eP (aF P chs ((⟨#[]⟩,⟨#[]⟩):ByteArray×ByteArray)) rds ((⟨#[]⟩,⟨#[]⟩):ByteArray×ByteArray) x.a=rd at *
 generalize (aF P chs ((⟨#[]⟩,⟨#[]⟩):ByteArray×ByteArray)).take x.a.toNat=l at *
 clear HB HP
 dsimp only at HQ
 by_cases hf:f=0
 ·subst hf
  rw[if_pos rfl]
  go_enter Tryz.func39,Tryz.ntmps39
  go_wp2_with fail
  refine(HQ.out _ ?_).mono ?_
  ·exact below_alloc1 _ _
  rintro e w1 ⟨h1,_⟩
  obtain⟨ao,cap,rfl,hll,hheld,ha⟩:=h1 (by trivial)
  have HA:=hide ha
  have HH:=hide hheld
  clear h1 ha hheld HQ
  have HF:=fun W=>hide (eU 0 W (by decide))
  rw[aR] at HF
  go_wp2_with fail
  go_loopw [20,21] (fun sv iv wr=>∃ k:Nat,k<=l.length/\iv=.int .i64 (k:Int)/\sv=.string (iI (l.take k))/\Below w1.heap.size w1 wr) (fun _ iv _=>l.length-(intOf iv).toNat)
  case atStart=>exact⟨0,Nat.zero_le _,rfl,rfl,Below.refl _ _⟩
  case round=>
   obtain⟨k,hk,rfl,rfl,hb⟩:=hrel
   by_cases hlt:k<l.length
   ·have hlt':(k:Int)<(l.length:Int):=by omega
    have hk0:(0:Int)<=(k:Int):=by omega
    rcases HH.out with e|⟨g,off,e,hc⟩
    ·rw[e] at hlt;simp at hlt
    subst e
    obtain⟨d0,d1⟩:=hc k hlt
    have HT:=hide (yF hlt)
    have hz3:=hrk _ (List.getElem_mem hlt)
    have hz4:=oN (l:=l.take k) fun r hr=>hrk r (List.mem_of_mem_take hr)
    have hz5:(l.take k).length<=62:=by rw[List.length_take];omega
    have hz6:(iI (l.take k)).size<=6400:=by omega
    clear hz4 hz5
    replace d0:=aA hb d0
    replace d1:=aA hb d1
    clear hc
    generalize l[k]=m at *
    obtain⟨mk,mv⟩:=m
    dsimp only at d0 d1 HT hz3
    obtain⟨hz7,hz8⟩:=hz3
    generalize iI (l.take k)=pre at *
    have HBR:=hide hb
    clear hb
    go_wp2_with fail
    go_region
    go_wp2_with fail
    exact⟨⟨k+1,by omega,by go_num,by rw[HT.out],HBR.out.drew⟩,by simp[intOf];omega⟩
   ·have ek:k=l.length:=by omega
    subst ek
    rw[List.take_length]
    have hlt':¬(l.length:Int)<(l.length:Int):=by omega
    have hz6:(iI l).size<=6400:=by have:=oN hrk;omega
    go_wp2_with fail
    refine(HF _).out.mono ?_
    rintro e w3 ⟨rfl,hb3⟩
    have HR:=hide (HA.out.post (aB hb (Nat.le_refl _) hb3))
    clear hb3
    go_wp2
    go_ret
    exact⟨rfl,HR.out⟩
 ·rw[if_neg hf]
  go_enter Tryz.func39,Tryz.ntmps39
  go_wp2_with fail
  refine(HQ.out _ ?_).mono ?_
  ·exact below_alloc1 _ _
  rintro e w1 ⟨_,h2⟩
  obtain⟨rfl,ha⟩:=h2 hf
  have HA:=hide ha
  have HF:=fun W=>hide (eU f W hle)
  clear ha h2 HQ
  generalize errV f=ev at *
  go_wp2_with fail
  refine wp_loop_rounds 1 ?_
  rw[rounds_succ]
  go_wp2_with fail
  refine(HF _).out.mono ?_
  rintro e w3 ⟨rfl,hb3⟩
  have HR:=hide (HA.out.post hb3)
  clear hb3
  go_wp2
  go_ret
  exact⟨rfl,HR.out⟩
theorem zAO (x:ActL) {B wb:Nat} {S:Nat->Prop} {P:Rws} {since:Sn} {chs:List Chg} {rds:Rws} (w:World) (h:QV w B wb S P since chs rds) (k0:(x.kind.toList==[99,114,101,97,116,101])=false) (k1:(x.kind.toList==[115,101,110,100])=false) (k2:(x.kind.toList==[114,101,99,101,105,118,101])=false) (k3:(x.kind.toList==[97,99,107])=false) (k4:(x.kind.toList==[119,97,105,116])=false) (k5:(x.kind.toList==[112,117,116])=false) (k6:(x.kind.toList==[100,101,108,101,116,101])=false) (k7:(x.kind.toList==[103,101,116])=false) (k8:(x.kind.toList==[109,101,115,115,97,103,101,115])=false) (hl:fT x) (s:ByteArray×ByteArray) (b off:Nat) (hsa:x.sa=some ⟨b,off,none⟩) (hn:0<x.sps.length) (s0:w.cell? ⟨b,off,none⟩=some (.string s.1)) (s1:w.cell? ⟨b,off+1,none⟩=some (.string s.2)):
  Calls Tryz.prog 39 #[.pointer (some ⟨wb,0,none⟩),.agg #[Value.string x.kind,Value.int .i64 x.a,Value.int .i64 x.b,Value.int .i64 x.c,Value.int .u64 x.k,Value.string x.s,Value.string x.t,Value.slice x.ca x.chs.length x.cc,Value.slice x.sa x.sps.length x.sc]] w fun e w'=>e=.returned (.string ((if dL (aF P chs s) rds s x.a=0 then iI ((aF P chs s).take x.a.toNat) else ⟨#[]⟩)++eI (dL (aF P chs s) rds s x.a)))/\ActQ w w' B wb S P since (chs) (eP (aF P chs s) rds s x.a):=by
 have hs:=hl.1
 have ht:=hl.2.1
 have ha0:=hl.2.2.1
 have ha1:=hl.2.2.2
 have y0:(w.alloc (Obj.cells #[.string x.kind,.int .i64 x.a,.int .i64 x.b,.int .i64 x.c,.int .u64 x.k,.string x.s,.string x.t,.slice x.ca x.chs.length x.cc,.slice x.sa x.sps.length x.sc] 39)).cell? ⟨w.heap.size,0,none⟩=some (.string x.kind):=aC _ _ _ 0
 have y8:(w.alloc (Obj.cells #[.string x.kind,.int .i64 x.a,.int .i64 x.b,.int .i64 x.c,.int .u64 x.k,.string x.s,.string x.t,.slice x.ca x.chs.length x.cc,.slice x.sa x.sps.length x.sc] 39)).cell? ⟨w.heap.size,8,none⟩=some (.slice x.sa x.sps.length x.sc):=aC _ _ _ 8
 have y1:(w.alloc (Obj.cells #[.string x.kind,.int .i64 x.a,.int .i64 x.b,.int .i64 x.c,.int .u64 x.k,.string x.s,.string x.t,.slice x.ca x.chs.length x.cc,.slice x.sa x.sps.length x.sc] 39)).cell? ⟨w.heap.size,1,none⟩=some (.int .i64 x.a):=aC _ _ _ 1
 have hbA:=below_alloc1 w (Obj.cells #[.string x.kind,.int .i64 x.a,.int .i64 x.b,.int .i64 x.c,.int .u64 x.k,.string x.s,.string x.t,.slice x.ca x.chs.length x.cc,.slice x.sa x.sps.length x.sc] 39)
 have hbS:=hbA
 have HB:=hide (h.on hbA)
 have HP:Hid (∀ w' c r,ActQ (w.alloc (Obj.cells #[.string x.kind,.int .i64 x.a,.int .i64 x.b,.int .i64 x.c,.int .u64 x.k,.string x.s,.string x.t,.slice x.ca x.chs.length x.cc,.slice x.sa x.sps.length x.sc] 39)) w' B wb S P since c r->ActQ w w' B wb S P since c r):=fun w' c r ha=>h.pre hbA ha
 clear h hbA
 have hsl:(0:Int)<(x.sps.length:Int):=by omega
 have hsl2:(0:Int)<=0:=by decide
 have s0':=aA (below_alloc1 (w.alloc (Obj.cells #[.string x.kind,.int .i64 x.a,.int .i64 x.b,.int .i64 x.c,.int .u64 x.k,.string x.s,.string x.t,.slice x.ca x.chs.length x.cc,.slice x.sa x.sps.length x.sc] 39)) (Obj.cells #[.string ⟨#[]⟩,Value.string ⟨#[]⟩] 80)) (aA hbS s0)
 have s1':=aA (below_alloc1 (w.alloc (Obj.cells #[.string x.kind,.int .i64 x.a,.int .i64 x.b,.int .i64 x.c,.int .u64 x.k,.string x.s,.string x.t,.slice x.ca x.chs.length x.cc,.slice x.sa x.sps.length x.sc] 39)) (Obj.cells #[.string ⟨#[]⟩,Value.string ⟨#[]⟩] 80)) (aA hbS s1)
 have hle:=xY (aF P chs s) rds s x.a
 have HQ:Hid (∀ W,Below (w.alloc (Obj.cells #[.string x.kind,.int .i64 x.a,.int .i64 x.b,.int .i64 x.c,.int .u64 x.k,.string x.s,.string x.t,.slice x.ca x.chs.length x.cc,.slice x.sa x.sps.length x.sc] 39)).heap.size (w.alloc (Obj.cells #[.string x.kind,.int .i64 x.a,.int .i64 x.b,.int .i64 x.c,.int .u64 x.k,.string x.s,.string x.t,.slice x.ca x.chs.length x.cc,.slice x.sa x.sps.length x.sc] 39)) W->Calls Tryz.prog 42 #[.pointer (some ⟨wb,0,none⟩),.agg #[.string s.1,.string s.2],.int .i64 x.a] W fun e w'=>(dL (aF P chs s) rds s x.a=0->∃ ao cap,e=.returned (.tuple #[.slice ao ((aF P chs s).take x.a.toNat).length cap,.nilIface])/\((aF P chs s).take x.a.toNat).length<=9223372036854775807/\bY w' ao ((aF P chs s).take x.a.toNat)/\ActQ w w' B wb S P since chs (eP (aF P chs s) rds s x.a))/\(dL (aF P chs s) rds s x.a≠0->e=.returned (.tuple #[.slice none 0 0,errV (dL (aF P chs s) rds s x.a)])/\ActQ w w' B wb S P since chs (eP (aF P chs s) rds s x.a))):=fun W hb=>by
  refine(vM s x.a W (HB.out.on hb).pv ha1).mono ?_
  rintro e w' ⟨s1,s2⟩
  refine⟨fun hz=>?_,fun hz=>?_⟩
  ·obtain⟨ao,cap,he,hcap,hh,S',hp,hst,_⟩:=s1 hz
   exact⟨ao,cap,he,by omega,hh,HP.out _ _ _ (HB.out.pre hb ((HB.out.on hb).act (HB.out.ok) ⟨S',hp,hst⟩))⟩
  ·obtain⟨he,ha⟩:=s2 hz
   exact⟨he,HP.out _ _ _ (HB.out.pre hb ((HB.out.on hb).act (HB.out.ok) ha))⟩
 have hz2:=lA hle
 have hrk:∀ r∈(aF P chs s).take x.a.toNat,r.1.size<=60/\r.2.size<=40:=fun r hr=>⟨(jN HB.out.pv.ok s).2 r (List.mem_of_mem_take hr),(tB HB.out.ok s r (List.mem_of_mem_take hr)).2⟩
 have hln:((aF P chs s).take x.a.toNat).length<=62:=by rw[List.length_take];have:=(jN HB.out.pv.ok s).1;omega
 generalize dL (aF P chs s) rds s x.a=f at *
 generalize eP (aF P chs s) rds s x.a=rd at *
 generalize (aF P chs s).take x.a.toNat=l at *
 clear HB HP
 rw[hsa] at HQ y0 y1 y8 s0' s1' ⊢
 clear hsa hbS s0 s1
 by_cases hf:f=0
 ·subst hf
  rw[if_pos rfl]
  go_enter Tryz.func39,Tryz.ntmps39
  go_wp2_with fail
  refine(HQ.out _ ?_).mono ?_
  ·exact below_alloc1 _ _
  rintro e w1 ⟨h1,_⟩
  obtain⟨ao,cap,rfl,hll,hheld,ha⟩:=h1 (by trivial)
  have HA:=hide ha
  have HH:=hide hheld
  clear h1 ha hheld HQ
  have HF:=fun W=>hide (eU 0 W (by decide))
  rw[aR] at HF
  go_wp2_with fail
  go_loopw [20,21] (fun sv iv wr=>∃ k:Nat,k<=l.length/\iv=.int .i64 (k:Int)/\sv=.string (iI (l.take k))/\Below w1.heap.size w1 wr) (fun _ iv _=>l.length-(intOf iv).toNat)
  case atStart=>exact⟨0,Nat.zero_le _,rfl,rfl,Below.refl _ _⟩
  case round=>
   obtain⟨k,hk,rfl,rfl,hb⟩:=hrel
   by_cases hlt:k<l.length
   ·have hlt':(k:Int)<(l.length:Int):=by omega
    have hk0:(0:Int)<=(k:Int):=by omega
    rcases HH.out with e|⟨g,off,e,hc⟩
    ·rw[e] at hlt;simp at hlt
    subst e
    obtain⟨d0,d1⟩:=hc k hlt
    have HT:=hide (yF hlt)
    have hz3:=hrk _ (List.getElem_mem hlt)
    have hz4:=oN (l:=l.take k) fun r hr=>hrk r (List.mem_of_mem_take hr)
    have hz5:(l.take k).length<=62:=by rw[List.length_take];omega
    have hz6:(iI (l.take k)).size<=6400:=by omega
    clear hz4 hz5
    replace d0:=aA hb d0
    replace d1:=aA hb d1
    clear hc
    generalize l[k]=m at *
    obtain⟨mk,mv⟩:=m
    dsimp only at d0 d1 HT hz3
    obtain⟨hz7,hz8⟩:=hz3
    generalize iI (l.take k)=pre at *
    have HBR:=hide hb
    clear hb
    go_wp2_with fail
    go_region
    go_wp2_with fail
    exact⟨⟨k+1,by omega,by go_num,by rw[HT.out],HBR.out.drew⟩,by simp[intOf];omega⟩
   ·have ek:k=l.length:=by omega
    subst ek
    rw[List.take_length]
    have hlt':¬(l.length:Int)<(l.length:Int):=by omega
    have hz6:(iI l).size<=6400:=by have:=oN hrk;omega
    go_wp2_with fail
    refine(HF _).out.mono ?_
    rintro e w3 ⟨rfl,hb3⟩
    have HR:=hide (HA.out.post (aB hb (Nat.le_refl _) hb3))
    clear hb3
    go_wp2
    go_ret
    exact⟨rfl,HR.out⟩
 ·rw[if_neg hf]
  go_enter Tryz.func39,Tryz.ntmps39
  go_wp2_with fail
  refine(HQ.out _ ?_).mono ?_
  ·exact below_alloc1 _ _
  rintro e w1 ⟨_,h2⟩
  obtain⟨rfl,ha⟩:=h2 hf
  have HA:=hide ha
  have HF:=fun W=>hide (eU f W hle)
  clear ha h2 HQ
  generalize errV f=ev at *
  go_wp2_with fail
  refine wp_loop_rounds 1 ?_
  rw[rounds_succ]
  go_wp2_with fail
  refine(HF _).out.mono ?_
  rintro e w3 ⟨rfl,hb3⟩
  have HR:=hide (HA.out.post hb3)
  clear hb3
  go_wp2
  go_ret
  exact⟨rfl,HR.out⟩
end
section
open Go.RowKit Go.Joins Go.Shelf
theorem zG2 (x:ActL) (hn:0<x.sps.length):lK x=x.sps[0]:=by
 obtain⟨s,l,e⟩:=List.exists_cons_of_length_pos hn
 unfold lK
 simp[e]
theorem zJ4 (x:ActL) {B wb:Nat} {S:Nat->Prop} {P:Rws} {since:Sn} {chs:List Chg} {rds:Rws} (w:World) (h:QV w B wb S P since chs rds) (hl:fT x) (hxs:bY w x.sa x.sps):
  Calls Tryz.prog 39 #[.pointer (some ⟨wb,0,none⟩),.agg #[Value.string x.kind,Value.int .i64 x.a,Value.int .i64 x.b,Value.int .i64 x.c,Value.int .u64 x.k,Value.string x.s,Value.string x.t,Value.slice x.ca x.chs.length x.cc,Value.slice x.sa x.sps.length x.sc]] w fun e w'=>e=.returned (.string (fY P chs rds x).1)/\ActQ w w' B wb S P since (fY P chs rds x).2.1 (fY P chs rds x).2.2:=by
 unfold fY isK
 cases k0:(x.kind.toList==[99,114,101,97,116,101])
 case true=>exact zEN x w h k0 hl
 cases k1:(x.kind.toList==[115,101,110,100])
 case true=>exact zHZ x w h k0 k1 hl
 cases k2:(x.kind.toList==[114,101,99,101,105,118,101])
 case true=>exact zCA x w h k0 k1 k2 hl
 cases k3:(x.kind.toList==[97,99,107])
 case true=>exact zLf x w h k0 k1 k2 k3 hl
 cases k4:(x.kind.toList==[119,97,105,116])
 case true=>exact zI1 x w h k0 k1 k2 k3 k4 hl
 cases k5:(x.kind.toList==[112,117,116])
 case true=>exact zKJ x w h k0 k1 k2 k3 k4 k5 hl
 cases k6:(x.kind.toList==[100,101,108,101,116,101])
 case true=>exact zDX x w h k0 k1 k2 k3 k4 k5 k6 hl
 cases k7:(x.kind.toList==[103,101,116])
 case true=>exact zJW x w h k0 k1 k2 k3 k4 k5 k6 k7 hl
 cases k8:(x.kind.toList==[109,101,115,115,97,103,101,115])
 case true=>exact zCc x w h k0 k1 k2 k3 k4 k5 k6 k7 k8 hl
 by_cases hn:0<x.sps.length
 ·rcases hxs with e|⟨b,off,e,hsp⟩
  ·rw[e] at hn;simp at hn
  ·obtain⟨s0,s1⟩:=hsp 0 hn
   simp only[Nat.zero_mul,Nat.add_zero] at s0 s1
   have es:lK x=x.sps[0]:=zG2 x hn
   rw[es]
   exact zAO x w h k0 k1 k2 k3 k4 k5 k6 k7 k8 hl (x.sps[0]) b off e hn s0 s1
 ·have e0:x.sps=[]:=List.length_eq_zero_iff.1 (by omega)
  have es:lK x=(⟨#[]⟩,⟨#[]⟩):=by
   unfold lK
   rw[e0]
  rw[es]
  exact zAL x w h k0 k1 k2 k3 k4 k5 k6 k7 k8 hl hn
end
section
open Go.Lib
theorem zKU:(Tryz.prog.globals[3]?).map (·.type)=some 405:=by kernel_rfl
theorem zJp:Tryz.prog.cellsOf 405=20:=by kernel_rfl
theorem zI0:Tryz.prog.cellsOf 35=1:=by kernel_rfl
theorem zHV {W:World} {x y:String×DataW Unit} {zs:List Int} {rest:List (String×DataW Unit)}
  (h:laidMet Tryz.prog (x::y::("internal/strconv.uint64pow10",tabData .u64 zs)::rest) W):TabIs Tryz.prog W "internal/strconv.uint64pow10" .u64 zs:=by
 obtain⟨ps,⟨_,_,_,_,_,_,_,_,_,_,⟨_,_,_,_,_,_,_,_,_,_,⟨g',t',cs,fuel,p,q,hg',ht',hvar,hd,_,_⟩,_⟩,_⟩,_⟩:=h
 obtain rfl:=Option.some.inj (zBT.symm.trans hg')
 obtain rfl:=Option.some.inj (zKU.symm.trans ht')
 have e:=cells_of_tab Tryz.underlying405 Tryz.underlying35 zI0 zJp hd
 unfold TabIs
 rw[hvar]
 congr 1
 exact Array.ext' (by simpa using e)
theorem zJN:Lib.pow10Tab=[1,10,100,1000,10000,100000,1000000,10000000,100000000,1000000000,10000000000,100000000000,1000000000000,10000000000000,100000000000000,1000000000000000,10000000000000000,100000000000000000,1000000000000000000,10000000000000000000]:=by decide +kernel
theorem zKf:(Tryz.prog.globals[2]?).map (·.type)=some 42:=by kernel_rfl
theorem zK8:(Tryz.prog.globals[1]?).map (·.type)=some 42:=by kernel_rfl
theorem zGo {W:World} {x y z:String×DataW Unit} {nm:String} {d:DataW Unit} {rest:List (String×DataW Unit)}
  (h:laidMet Tryz.prog (x::y::z::("strconv.ErrRange",.iface nm d)::rest) W):zCq W "strconv.ErrRange":=by
 obtain⟨ps,⟨_,_,_,_,_,_,_,_,_,_,⟨_,_,_,_,_,_,_,_,_,_,⟨_,_,_,_,_,_,_,_,_,_,⟨g',t',cs,fuel,p,q,hg',ht',hvar,hd,_,_⟩,_⟩,_⟩,_⟩,_⟩:=h
 obtain rfl:=Option.some.inj (zAY.symm.trans hg')
 obtain rfl:=Option.some.inj (zKf.symm.trans ht')
 obtain⟨_,u,v,hc,_,_⟩:=iface_of_trod Tryz.underlying42 hd
 have e:cs=#[.iface u v]:=Array.ext' (by simpa using hc)
 exact⟨u,v,by rw[hvar,e]⟩
theorem zIU {W:World} {x y z a:String×DataW Unit} {nm:String} {d:DataW Unit} {rest:List (String×DataW Unit)}
  (h:laidMet Tryz.prog (x::y::z::a::("strconv.ErrSyntax",.iface nm d)::rest) W):zCq W "strconv.ErrSyntax":=by
 obtain⟨ps,⟨_,_,_,_,_,_,_,_,_,_,⟨_,_,_,_,_,_,_,_,_,_,⟨_,_,_,_,_,_,_,_,_,_,⟨_,_,_,_,_,_,_,_,_,_,⟨g',t',cs,fuel,p,q,hg',ht',hvar,hd,_,_⟩,_⟩,_⟩,_⟩,_⟩,_⟩:=h
 obtain rfl:=Option.some.inj (zBP.symm.trans hg')
 obtain rfl:=Option.some.inj (zK8.symm.trans ht')
 obtain⟨_,u,v,hc,_,_⟩:=iface_of_trod Tryz.underlying42 hd
 have e:cs=#[.iface u v]:=Array.ext' (by simpa using hc)
 exact⟨u,v,by rw[hvar,e]⟩
end
end Go.Proofs.YtnboipekkahmnaaGreatDoor
