import Derived.Shelf.SlSorted.Search
import Derived.Test.YtnboipekkahmnaaGreatDoorD09
import Derived.Shelf.Spec.SlicesInsert
set_option maxHeartbeats 8000000
set_option maxRecDepth 100000
namespace Go.Proofs.YtnboipekkahmnaaGreatDoor
section
open Go.RowKit Go.Joins
def cN (l:List (ByteArray×ByteArray)) (key:ByteArray):Nat:=l.findIdx fun r=>!ltS r.1 key
def fK (l:List (ByteArray×ByteArray)) (key:ByteArray):Bool:=match l[cN l key]? with
 | some r=>eqS r.1 key
 | none=>false
def mQ (l:List (ByteArray×ByteArray)) (key:ByteArray):Nat:=if fK l key then cN l key+1 else cN l key
def layR (l:List (ByteArray×ByteArray)) (c:Chg):List (ByteArray×ByteArray):=l.take (cN l c.key)++(if c.gone then [] else [(c.key,c.val)])++l.drop (mQ l c.key)
theorem oG (l:List (ByteArray×ByteArray)) (key:ByteArray):cN l key<=l.length:=List.findIdx_le_length
theorem lJ (r:ByteArray×ByteArray) (l:List (ByteArray×ByteArray)) (key:ByteArray):cN (r::l) key=if ltS r.1 key then cN l key+1 else 0:=by
 unfold cN;rw[List.findIdx_cons];cases ltS r.1 key<;>rfl
theorem zBG {l:List (ByteArray×ByteArray)} {key:ByteArray} (h:fK l key=true):cN l key<l.length:=by
 rcases Nat.lt_or_ge (cN l key) l.length with k|k
 ·exact k
 ·rw[fK,List.getElem?_eq_none k] at h;cases h
theorem zJ1 (l:List (ByteArray×ByteArray)) (key:ByteArray):mQ l key<=l.length:=by
 unfold mQ;split
 ·rename_i h;exact zBG h
 ·exact oG l key
theorem zAN {r:ByteArray×ByteArray} {l:List (ByteArray×ByteArray)} {key:ByteArray} (h:ltS r.1 key=true):fK (r::l) key=fK l key:=by
 unfold fK;rw[lJ,if_pos h,List.getElem?_cons_succ]
theorem zAS {r:ByteArray×ByteArray} {l:List (ByteArray×ByteArray)} {key:ByteArray} (h:ltS r.1 key=false):fK (r::l) key=eqS r.1 key:=by
 unfold fK;rw[lJ,if_neg (by simp[h]),List.getElem?_cons_zero]
theorem zBZ {r:ByteArray×ByteArray} {l:List (ByteArray×ByteArray)} {key:ByteArray} (h:ltS r.1 key=true):mQ (r::l) key=mQ l key+1:=by
 unfold mQ;rw[zAN h,lJ,if_pos h];split<;>rfl
theorem zB5 {r:ByteArray×ByteArray} {l:List (ByteArray×ByteArray)} {key:ByteArray} (h:ltS r.1 key=false):mQ (r::l) key=if eqS r.1 key then 1 else 0:=by
 unfold mQ;rw[zAS h,lJ,h];cases eqS r.1 key<;>rfl
theorem zFL {l:List (ByteArray×ByteArray)} (hl:bV l) (key:ByteArray):l.take (cN l key)=l.filter fun r=>ltS r.1 key:=by
 induction l with
 | nil=>rfl
 | cons r l ih=>
  replace hl:=List.pairwise_cons.1 hl;rw[lJ]
  cases h:ltS r.1 key with
  | true=>simp[h,ih hl.2]
  | false=>
   have:(l.filter fun x=>ltS x.1 key)=[]:=List.filter_eq_nil_iff.2 fun x hx e=>by
    have:=cL (hl.1 x hx) e;rw[h] at this;cases this
   simp[h,this]
theorem zJA {l:List (ByteArray×ByteArray)} (hl:bV l) (key:ByteArray):l.drop (mQ l key)=l.filter fun r=>ltS key r.1:=by
 induction l with
 | nil=>rfl
 | cons r l ih=>
  replace hl:=List.pairwise_cons.1 hl
  cases h:ltS r.1 key with
  | true=>
   have h2:ltS key r.1=false:=by
    cases e:ltS key r.1 with
    | false=>rfl
    | true=>have:=cL e h;rw[bA] at this;cases this
   rw[zBZ h,List.drop_succ_cons,ih hl.2];simp[h2]
  | false=>
   rw[zB5 h];have hge:leS key r.1=true:=by rw[mA,h];rfl
   have hup:∀ x∈l,ltS key x.1=true:=fun x hx=>by
    have h1:=hl.1 x hx;rcases(jM _ _).1 hge with h2|h2
    ·exact cL h2 h1
    ·rw[h2];exact h1
   have f2:(l.filter fun x=>ltS key x.1)=l:=List.filter_eq_self.2 hup
   cases e:eqS r.1 key with
   | true=>
    have e2:=(eV _ _).1 e;have hgt:ltS key r.1=false:=by rw[e2,bA]
    simp[hgt,f2]
   | false=>
    have hgt:ltS key r.1=true:=by
     rcases(jM _ _).1 hge with h2|h2
     ·exact h2
     ·rw[h2,pG] at e;cases e
    simp[hgt,f2]
theorem zA3 {l:List (ByteArray×ByteArray)} (hl:bV l) (key:ByteArray):(l.filter fun r=>!eqS r.1 key)=(l.filter fun r=>ltS r.1 key)++l.filter fun r=>ltS key r.1:=by
 induction l with
 | nil=>rfl
 | cons r l ih=>
  replace hl:=List.pairwise_cons.1 hl;have ih:=ih hl.2
  cases h:ltS r.1 key with
  | true=>
   have hne:eqS r.1 key=false:=rH fun e=>by rw[e,bA] at h;cases h
   have h2:ltS key r.1=false:=by
    cases e:ltS key r.1 with
    | false=>rfl
    | true=>have:=cL e h;rw[bA] at this;cases this
   simp[h,hne,h2,ih]
  | false=>
   have hge:leS key r.1=true:=by rw[mA,h];rfl
   have hup:∀ x∈l,ltS key x.1=true:=fun x hx=>by
    have h1:=hl.1 x hx;rcases(jM _ _).1 hge with h2|h2
    ·exact cL h2 h1
    ·rw[h2];exact h1
   have f1:(l.filter fun x=>ltS x.1 key)=[]:=List.filter_eq_nil_iff.2 fun x hx e=>by
    have:=cL (hup x hx) e;rw[bA] at this;cases this
   have f2:(l.filter fun x=>ltS key x.1)=l:=List.filter_eq_self.2 hup;rw[f1,f2] at ih
   cases e:eqS r.1 key with
   | true=>
    have e2:=(eV _ _).1 e;have hgt:ltS key r.1=false:=by rw[e2,bA]
    simp[h,e,hgt,f1,f2,ih]
   | false=>
    have hgt:ltS key r.1=true:=by
     rcases(jM _ _).1 hge with h2|h2
     ·exact h2
     ·rw[h2,pG] at e;cases e
    simp[h,e,hgt,f1,f2,ih]
theorem zAU {l:List (ByteArray×ByteArray)} (hl:bV l) (c:Chg):layR l c=apply1 l c:=by
 unfold layR;rw[zFL hl,zJA hl]
 cases h:c.gone with
 | true=>rw[iF h,zA3 hl];simp
 | false=>rw[iX hl h];simp
theorem zHU {l:List (ByteArray×ByteArray)} (hl:bV l) (c:Chg) (s:ByteArray×ByteArray):inR (apply1 l c) s=if hasS s.1 s.2 c.key then apply1 (inR l s) c else inR l s:=by
 unfold inR
 cases h:c.gone with
 | true=>
  rw[iF h,iF h,List.filter_filter]
  cases hs:hasS s.1 s.2 c.key with
  | true=>
   rw[if_pos rfl,List.filter_filter];refine List.filter_congr fun r _=>?_;rw[Bool.and_comm]
  | false=>
   rw[if_neg (by simp)];refine List.filter_congr fun r _=>?_
   cases he:eqS r.1 c.key with
   | false=>simp
   | true=>rw[(eV _ _).1 he,hs];rfl
 | false=>
  rw[iX hl h,List.filter_append,List.filter_cons]
  cases hs:hasS s.1 s.2 c.key with
  | true=>
   rw[if_pos rfl,if_pos rfl,iX (hl.filter _) h];simp only[List.filter_filter];congr 1
   ·exact List.filter_congr fun r _=>Bool.and_comm _ _
   ·rw[List.cons.injEq];exact⟨rfl,List.filter_congr fun r _=>Bool.and_comm _ _⟩
  | false=>
   rw[if_neg (by simp),if_neg (by simp),<-List.filter_append,<-zA3 hl,List.filter_filter];refine List.filter_congr fun r _=>?_
   cases he:eqS r.1 c.key with
   | false=>simp
   | true=>rw[(eV _ _).1 he,hs];rfl
def gP (l:List (ByteArray×ByteArray)) (s:ByteArray×ByteArray) (cs:List Chg):List (ByteArray×ByteArray):=cs.foldl (fun l c=>if hasS s.1 s.2 c.key then layR l c else l) l
theorem zGp (l:List (ByteArray×ByteArray)) (s:ByteArray×ByteArray) (cs:List Chg) (k:Nat) (hk:k<cs.length):gP l s (cs.take (k+1))=if hasS s.1 s.2 cs[k].key then layR (gP l s (cs.take k)) cs[k] else gP l s (cs.take k):=by
 unfold gP;rw[List.take_succ_eq_append_getElem hk,List.foldl_append];rfl
theorem zFl:∀ (cs:List Chg) {l:List (ByteArray×ByteArray)},bV l->∀ (s:ByteArray×ByteArray),gP (inR l s) s cs=inR (iB l cs) s
 | [],_,_,_=>rfl
 | c::cs,l,hl,s=>by
  have:=zFl cs (jO hl c) s;show gP (if hasS s.1 s.2 c.key then layR (inR l s) c else inR l s) s cs=inR (iB (apply1 l c) cs) s;rw[<-this,zHU hl,zAU (show bV (inR l s) from hl.filter _)]
theorem zLk (l:List (ByteArray×ByteArray)) (c:Chg):(layR l c).length<=l.length+1:=by
 unfold layR;have h1:=oG l c.key;have h2:=zJ1 l c.key;have h3:cN l c.key<=mQ l c.key:=by unfold mQ;split<;>omega
 simp only[List.length_append,List.length_take,List.length_drop];split<;>simp<;>omega
theorem zBL (l:List (ByteArray×ByteArray)) (s:ByteArray×ByteArray):∀ (cs:List Chg),(gP l s cs).length<=l.length+cs.length:=by
 intro cs
 induction cs generalizing l with
 | nil=>exact Nat.le_refl _
 | cons c cs ih=>
  have h1:=ih (if hasS s.1 s.2 c.key then layR l c else l);have h2:=zLk l c;show(gP (if hasS s.1 s.2 c.key then layR l c else l) s cs).length<=l.length+(cs.length+1);split at h1<;>rename_i hh
  ·rw[if_pos hh];omega
  ·rw[if_neg hh];omega
theorem zME {l:List (ByteArray×ByteArray)} {c:Chg} {r:ByteArray×ByteArray} (h:r∈layR l c):r∈l∨r.1=c.key:=by
 unfold layR at h;rcases List.mem_append.1 h with h|h
 ·rcases List.mem_append.1 h with h|h
  ·exact .inl (List.mem_of_mem_take h)
  ·cases hg:c.gone<;>rw[hg] at h
   ·exact .inr (by rw[List.mem_singleton.1 h])
   ·cases h
 ·exact .inl (List.mem_of_mem_drop h)
theorem zBh {m:Nat} {s:ByteArray×ByteArray}:∀ (cs:List Chg) {l:List (ByteArray×ByteArray)},(∀ r∈l,r.1.size<=m)->(∀ c∈cs,c.key.size<=m)->∀ r∈gP l s cs,r.1.size<=m
 | [],_,hl,_=>hl
 | c::cs,l,hl,hc=>by
  have ih:=zBh (s:=s) cs (l:=if hasS s.1 s.2 c.key then layR l c else l) (fun r hr=>by
   split at hr
   ·rcases zME hr with h|h
    ·exact hl r h
    ·rw[h];exact hc c (by simp)
   ·exact hl r hr) (fun x hx=>hc x (by simp[hx]))
  exact ih
end
end Go.Proofs.YtnboipekkahmnaaGreatDoor
namespace Go.Proofs
section
open Go.Shelf
def Tryz.search_ren:Go.Shelf.Ren:=⟨fun|16=>263|n=>n,fun|3=>3|35=>116|4=>4|38=>311|n=>n,fun|n=>n⟩
theorem Tryz.search:Go.Proofs.SlLaysO.n16 Tryz.prog Tryz.search_ren:={
 mixed:=by kernel_rfl
 f16:=Tryz.func263.trans (congrArg some (by kernel_rfl))
 t3:=Tryz.underlying3
 a3:=Tryz.isAgg3
 z3:=Tryz.sizeOf3
 v3:=Tryz.zeroValue3
 t4:=Tryz.underlying4
 a4:=Tryz.isAgg4
 z4:=Tryz.sizeOf4
 v4:=Tryz.zeroValue4
 t35:=Tryz.underlying116
 a35:=Tryz.isAgg116
 z35:=Tryz.sizeOf116
 v35:=Tryz.zeroValue116
 t38:=Tryz.underlying311
 a38:=Tryz.isAgg311
 z38:=Tryz.sizeOf311
 v38:=Tryz.zeroValue311 }
end
end Go.Proofs
namespace Go.Proofs.YtnboipekkahmnaaGreatDoor
section
open Go.RowKit Go.Joins Go.Shelf
attribute [local go_sem ↓] Go.wp_at_zero Go.wp_at_succ
theorem zKi {l : List (ByteArray × ByteArray)} {key : ByteArray} {i : Nat} (h : i < cN l key) (hl : i < l.length) : ltS l[i].1 key = true := by
  have := List.not_of_lt_findIdx (p := fun r : ByteArray × ByteArray => !ltS r.1 key) h
  simpa using this
theorem zJI {l : List (ByteArray × ByteArray)} (hr : bV l) {key : ByteArray} {i : Nat} (h : cN l key ≤ i) (hl : i < l.length) : ltS l[i].1 key = false := by
  have hp : cN l key < l.length := by omega
  have h0 : ltS l[cN l key].1 key = false := by
    have h2 : (!ltS l[cN l key].1 key) = true := List.findIdx_getElem (p := fun r : ByteArray × ByteArray => !ltS r.1 key) (xs := l) (w := hp)
    simpa using h2
  rcases Nat.eq_or_lt_of_le h with e | e
  · subst e; exact h0
  · cases hc : ltS l[i].1 key with
    | false => rfl
    | true =>
      have := (List.pairwise_iff_getElem.1 hr) (cN l key) i hp hl e
      have := cL this hc
      rw [h0] at this; cases this
def geAt (l : List (ByteArray × ByteArray)) (key : ByteArray) (i : Nat) : Bool := match l[i]? with
  | some r => !ltS r.1 key
  | none => true
theorem xI {l : List (ByteArray × ByteArray)} (hr : bV l) {key : ByteArray} {i : Nat} (hi : i < l.length) : geAt l key i = decide (cN l key ≤ i) := by
  unfold geAt
  rw [List.getElem?_eq_getElem hi]
  rcases Nat.lt_or_ge i (cN l key) with h | h
  · simp only [zKi h hi]; simp; omega
  · simp only [zJI hr h hi]; simp; omega
theorem zEJ (n p : Nat) (hp : p ≤ n) : (List.range n).countP (fun i => !decide (p ≤ i)) = p := by
  induction n with
  | zero => have : p = 0 := by omega
            subst this; rfl
  | succ n ih =>
    rw [List.range_succ, List.countP_append]
    rcases Nat.lt_or_ge n p with h | h
    · have e : p = n + 1 := by omega
      subst e
      have : (List.range n).countP (fun i => !decide (n + 1 ≤ i)) = n := by
        rw [List.countP_eq_length.2]
        · exact List.length_range
        · intro a ha; have := List.mem_range.1 ha; simp; omega
      rw [this]; simp
    · rw [ih h]; simp; omega
theorem zEp {l : List (ByteArray × ByteArray)} (hr : bV l) (key : ByteArray) : (List.range l.length).countP (fun i => !geAt l key i) = cN l key := by
  rw [← zEJ l.length (cN l key) (oG l key)]
  exact List.countP_congr fun i hi => by rw [xI hr (List.mem_range.1 hi)]
theorem mZ (w : World) (k : Nat) (os : Array Obj) : Below w.heap.size w (Go.Sort.grow (w.drewN k) os) := by
  refine ⟨rfl, rfl, rfl, ?_, fun i hi => ?_⟩
  · show w.heap.size ≤ (w.heap ++ os).size
    simp
  · show (w.heap ++ os)[i]? = w.heap[i]?
    rw [Array.getElem?_append_left hi]
theorem zE2 (l : List (ByteArray × ByteArray)) (b off cap ab kb i : Nat) (key : ByteArray) (w : World) (hl : iO w b off l) (ha : w.cell? ⟨ab, 0, none⟩ = some (.slice (some ⟨b, off, none⟩) l.length cap)) (hk : w.cell? ⟨kb, 0, none⟩ = some (.string key)) (hi : i < l.length) :
    Calls Tryz.prog 264 (#[.int .i64 i] ++ #[.pointer (some ⟨ab, 0, none⟩), .pointer (some ⟨kb, 0, none⟩)]) w fun e w' => e = .returned (.bool (geAt l key i)) ∧ ∃ q os', w' = Go.Sort.grow (w.drewN q) os' := by
  obtain ⟨c0, _⟩ := hl i hi
  have hlt : (i : Int) < (l.length : Int) := by omega
  have h0 : (0 : Int) ≤ (i : Int) := Int.natCast_nonneg _
  have HG : Hid (geAt l key i = !ltS l[i].1 key) := by unfold Hid geAt; rw [List.getElem?_eq_getElem hi]
  obtain ⟨c, hc⟩ : ∃ c, Op.bytesLess l[i].1.toList key.toList = c := ⟨_, rfl⟩
  have HC : Hid (ltS l[i].1 key = c) := hc
  rw [show (#[Value.int .i64 (i : Int)] ++ #[Value.pointer (some ⟨ab, 0, none⟩), Value.pointer (some ⟨kb, 0, none⟩)]) = #[Value.int .i64 (i : Int), Value.pointer (some ⟨ab, 0, none⟩), Value.pointer (some ⟨kb, 0, none⟩)] from rfl]
  clear hl
  go_enter Tryz.func264, Tryz.ntmps264
  go_wp2
  go_quiet (fail)
  go_wp2
  go_ret
  exact ⟨bB (by rw [HG.out, HC.out]), nq, #[], (by unfold Go.Sort.grow; rw [Array.append_empty])⟩
theorem zGE {l : List (ByteArray × ByteArray)} (hr : bV l) (key : ByteArray) : ∀ a b, a ≤ b → b < l.length → geAt l key a = true → geAt l key b = true := fun a b hab hb h => by
  rw [xI hr (by omega)] at h
  rw [xI hr hb]
  simp at h ⊢
  omega
theorem tX : ∀ args w, (callFunc 264 args).run Tryz.prog w = .ok (.enter 264 args) w := enters_of Tryz.func264 (by kernel_rfl) rfl
theorem zGB (l : List (ByteArray × ByteArray)) (b off cap ab kb : Nat) (key : ByteArray) (w : World) (hl : iO w b off l) (hr : bV l) (ha : w.cell? ⟨ab, 0, none⟩ = some (.slice (some ⟨b, off, none⟩) l.length cap)) (hk : w.cell? ⟨kb, 0, none⟩ = some (.string key)) (hn : l.length ≤ 1000000) :
    Calls Tryz.prog 263 #[.int .i64 l.length, .func (.func 264) #[] #[.pointer (some ⟨ab, 0, none⟩), .pointer (some ⟨kb, 0, none⟩)]] w fun e w' => e = .returned (.int .i64 (cN l key)) ∧ Below w.heap.size w w' := by
  refine (Any.sort_Search Tryz.search 264 #[.pointer (some ⟨ab, 0, none⟩), .pointer (some ⟨kb, 0, none⟩)] l.length (geAt l key) w tX (by omega) (fun m os i hi => ?_) (zGE hr key)).mono ?_
  · have hb := mZ w m os
    exact zE2 l b off cap ab kb i key _ (gW hb hl) (aA hb ha) (aA hb hk) hi
  · rintro e w' ⟨rfl, q, os, rfl⟩
    rw [zEp hr]
    exact ⟨rfl, mZ w q os⟩
theorem zGD (ab kb : Nat) (w : World) :
    Calls Tryz.prog 263 #[.int .i64 0, .func (.func 264) #[] #[.pointer (some ⟨ab, 0, none⟩), .pointer (some ⟨kb, 0, none⟩)]] w fun e w' => e = .returned (.int .i64 0) ∧ Below w.heap.size w w' := by
  refine (Any.sort_Search Tryz.search 264 #[.pointer (some ⟨ab, 0, none⟩), .pointer (some ⟨kb, 0, none⟩)] 0 (fun _ => true) w tX (by omega) (fun m os i hi => absurd hi (Nat.not_lt_zero _)) (fun _ _ _ _ h => h)).mono ?_
  rintro e w' ⟨rfl, q, os, rfl⟩
  exact ⟨rfl, mZ w q os⟩
theorem zEb (l : List (ByteArray × ByteArray)) (b off cap : Nat) (key : ByteArray) (w : World) (hl : iO w b off l) (hr : bV l) (hn : l.length ≤ 1000000) :
    Calls Tryz.prog 224 #[.slice (some ⟨b, off, none⟩) l.length cap, .string key] w fun e w' => e = .returned (.tuple #[.int .i64 (cN l key), .bool (fK l key)]) ∧ Below w.heap.size w w' := by
  have hB1 := below_alloc1 w (Obj.cells #[.slice (some ⟨b, off, none⟩) l.length cap] 32)
  have hB2 := below_alloc1 (w.alloc (Obj.cells #[.slice (some ⟨b, off, none⟩) l.length cap] 32)) (Obj.cells #[.string key] 9)
  have a0 := aA hB2 (aC w #[Value.slice (some ⟨b, off, none⟩) l.length cap] 32 0)
  have a1 : ((w.alloc (Obj.cells #[.slice (some ⟨b, off, none⟩) l.length cap] 32)).alloc (Obj.cells #[.string key] 9)).cell? ⟨w.heap.size + 1, 0, none⟩ = some (.string key) := by
    simp
  have HB := hide (aB hB1 (Nat.le_refl _) hB2)
  have hple := oG l key
  have HS := hide (zGB l b off cap w.heap.size (w.heap.size + 1) key _ (gW HB.out hl) hr a0 a1 hn)
  have HL := hide (gW HB.out hl)
  have HR := hide hr
  obtain ⟨p, hp⟩ : ∃ p, cN l key = p := ⟨_, rfl⟩
  have HP := hide hp
  rw [hp] at HS hple ⊢
  clear hB1 hB2 hl hr hp
  by_cases hlt : p < l.length
  · have hlt' : (p : Int) < (l.length : Int) := by omega
    have hp0 : (0 : Int) ≤ (p : Int) := Int.natCast_nonneg _
    have HF : Hid (fK l key = (l[p].1.toList == key.toList)) := by unfold Hid fK; rw [HP.out, List.getElem?_eq_getElem hlt]; rfl
    go_enter Tryz.func224, Tryz.ntmps224
    go_wp2_with (go_at_call 263; refine HS.out.mono ?_; rintro e w1 ⟨rfl, hb1⟩; replace a0 := aA hb1 a0; replace a1 := aA hb1 a1; have c0 := (gW hb1 HL.out p hlt).1; have HB1 := hide (aB HB.out (Nat.le_refl _) hb1); clear hb1)
    go_quiet (fail)
    go_wp2
    go_ret2
    exact ⟨by rw [HF.out]; rfl, below_drewN HB1.out _⟩
  · have hlt' : ¬ (p : Int) < (l.length : Int) := by omega
    have hd : decide ((p : Int) < (l.length : Int)) = false := by simpa using hlt'
    have HF : Hid (fK l key = false) := by unfold Hid fK; rw [HP.out, List.getElem?_eq_none (by omega)]
    go_enter Tryz.func224, Tryz.ntmps224
    go_wp2_with (go_at_call 263; refine HS.out.mono ?_; rintro e w1 ⟨rfl, hb1⟩; replace a0 := aA hb1 a0; replace a1 := aA hb1 a1; have HB1 := hide (aB HB.out (Nat.le_refl _) hb1); clear hb1)
    go_quiet (fail)
    go_wp2
    go_ret2
    exact ⟨by rw [HF.out]; rfl, below_drewN HB1.out _⟩
theorem zFt (ao : Option Addr) (cap : Nat) (key : ByteArray) (w : World) :
    Calls Tryz.prog 224 #[.slice ao 0 cap, .string key] w fun e w' => e = .returned (.tuple #[.int .i64 0, .bool false]) ∧ Below w.heap.size w w' := by
  have hB1 := below_alloc1 w (Obj.cells #[.slice ao 0 cap] 32)
  have hB2 := below_alloc1 (w.alloc (Obj.cells #[.slice ao 0 cap] 32)) (Obj.cells #[.string key] 9)
  have a0 := aA hB2 (aC w #[Value.slice ao 0 cap] 32 0)
  have HB := hide (aB hB1 (Nat.le_refl _) hB2)
  clear hB1 hB2
  go_enter Tryz.func224, Tryz.ntmps224
  go_wp2_with (go_at_call 263; refine (zGD _ _ _).mono ?_; rintro e w1 ⟨rfl, hb1⟩; replace a0 := aA hb1 a0; have HB1 := hide (aB HB.out (Nat.le_refl _) hb1); clear hb1)
  go_quiet (fail)
  go_wp2
  go_ret2
  exact ⟨rfl, below_drewN HB1.out _⟩
theorem zFS (l : List (ByteArray × ByteArray)) (v : Value) (B : Nat) (key : ByteArray) (w : World) (ho : ownP w B v l) (hr : bV l) (hn : l.length ≤ 1000000) :
    Calls Tryz.prog 224 #[v, .string key] w fun e w' => e = .returned (.tuple #[.int .i64 (cN l key), .bool (fK l key)]) ∧ Below w.heap.size w w' := by
  obtain ⟨ao, cap, rfl, hh⟩ := lV ho
  rcases hh with rfl | ⟨b, off, rfl, h⟩
  · exact zFt _ _ _ _
  · exact zEb l b off cap key w h hr hn
end
section
open Go.RowKit Go.Joins
theorem kY {P:Program} (w:World) (dT sT ty elem:TypeId) (m b o dLen dCap:Nat) (a:Addr) (sLen sCap:Nat) (cs:List Value)
  (hu:P.underlying dT=some (.slice elem)) (hs:(P.info? elem).map (·.size)=some m) (hn:cs.length=Nat.min sLen dLen*m)
  (hsrc:∀ j v,cs[j]?=some v->w.cell? (a.add j)=some v) (hc:∀ j,j<cs.length->(w.cell? ⟨b,o+j,none⟩).isSome=true) (hf:∀ j,j<cs.length->w.frozen? ⟨b,o+j,none⟩=false) (h1:∀ v∈cs,v.oneCell'=true):
  (Builtin.copy_ #[dT,sT] ty #[.slice (some ⟨b,o,none⟩) dLen dCap,.slice (some a) sLen sCap]).run P w=.ok (goInt (Nat.min sLen dLen)) (w.setCells b o cs):=by
 have hl:=run_loadCells_list (P:=P) w a cs hsrc;have hst:=run_storeCells_cells (P:=P) b o cs 0 w (by simpa using hc) (by simpa using hf) h1
 cases hq:P.info? elem with
 | none=>simp[hq] at hs
 | some i=>
  have hi:i.size=m:=by simpa[hq] using hs
  rw[hn] at hl;simp only[Nat.add_zero] at hst;simp[Builtin.copy_,run_underlying hu,Builtin.lenOf,Builtin.firstCells,sizeOf,typeInfo,hq,hi,hl,hst]
theorem zIG {w:World} {B g n m cap:Nat} {e:TypeId} {size:Nat} {xs:List Value} (h:w.ownsRow B e size (.slice (some ⟨g,0,none⟩) n cap) n xs) (hm:n<=m) (hc:m<=cap):∃ ys,ys.length=(m-n)*size/\w.ownsRow B e size (.slice (some ⟨g,0,none⟩) m cap) m (xs++ys):=by
 obtain⟨h1,h2⟩:=h;rcases h2 with⟨e1,_⟩|⟨g',cap',cur,e1,hb,hh,hn,hcm,hs,ht⟩
 ·cases e1
 ·cases e1;have hle:n*size<=m*size:=Nat.mul_le_mul_right _ hm;have hlc:m*size<=cap*size:=Nat.mul_le_mul_right _ hc;have hlen:cur.toList.length=cap*size:=by simpa using hs
  refine⟨(cur.toList.take (m*size)).drop (n*size),by rw[List.length_drop,List.length_take,hlen,Nat.min_eq_left hlc,Nat.sub_mul],?_,.inr ⟨g,cap,cur,rfl,hb,hh,hc,hcm,hs,?_⟩⟩
  ·rw[List.length_append,h1,List.length_drop,List.length_take,hlen,Nat.min_eq_left hlc];omega
  ·rw[<-ht];have:cur.toList.take (n*size)=(cur.toList.take (m*size)).take (n*size):=by rw[List.take_take,Nat.min_eq_left hle]
   rw[this,List.take_append_drop]
theorem zAF:∀ (vs xs:List Value) (o i:Nat),o+vs.length<=i->(setL xs o vs)[i]?=xs[i]?
 | [],_,_,_,_=>rfl
 | v::r,xs,o,i,h=>by
  rw[setL,zAF r _ _ _ (by simp at h;omega),List.getElem?_set_ne (by simp at h;omega)]
theorem nH (vs xs:List Value) (o:Nat) (h:o+vs.length<=xs.length):setL xs o vs=xs.take o++vs++xs.drop (o+vs.length):=by
 apply List.ext_getElem?;intro i;rcases Nat.lt_or_ge i o with h1|h1
 ·rw[vO _ _ _ _ h1,List.append_assoc,List.getElem?_append_left (by rw[List.length_take];omega),List.getElem?_take,if_pos h1]
 ·rcases Nat.lt_or_ge i (o+vs.length) with h2|h2
  ·rw[zAx _ _ _ _ h1 h2 (by omega),List.append_assoc,List.getElem?_append_right (by rw[List.length_take];omega),List.length_take,Nat.min_eq_left (by omega),List.getElem?_append_left (by omega)]
  ·rw[zAF _ _ _ _ h2,List.getElem?_append_right (by rw[List.length_append,List.length_take];omega),List.length_append,List.length_take,Nat.min_eq_left (by omega),List.getElem?_drop,show o+vs.length+(i-(o+vs.length))=i by omega]
end
section
open Go.RowKit Go.Joins
attribute [local go_sem ↓] Go.wp_at_zero Go.wp_at_succ
abbrev zrow:Value:=.agg #[.string ⟨#[]⟩,.string ⟨#[]⟩]
theorem oE:(Tryz.prog.info? 165).map (fun i=>(i.zero,i.size,i.bytes))=some (some zrow,2,32):=by kernel_rfl
theorem zF0 (n:Nat):∀ u∈(Builtin.zeroCells zrow.cells n).toList,u.oneCell'=true:=by
 intro u hu;simp[Builtin.zeroCells,Value.cells] at hu;obtain⟨i,_,rfl⟩:=hu;rcases Nat.mod_two_eq_zero_or_one i with e|e<;>rw[e]<;>rfl
theorem zIM (xs:List Value) (i n:Nat) (hx:xs.length=n*2) (hi:i<n) (zs:List Value):((setL (setL xs (i*2) (xs.drop ((i+1)*2))) ((n-1)*2) zs).take ((n-1)*2))=xs.take (i*2)++xs.drop ((i+1)*2):=by
 rw[tN,nH _ _ _ (by rw[List.length_drop];omega),List.take_append_of_le_length (by rw[List.length_append,List.length_take,List.length_drop];omega)];exact List.take_of_length_le (by rw[List.length_append,List.length_take,List.length_drop];omega)
theorem zJd (B g cap i n:Nat) (xs:List Value) (w:World) (ho:w.ownsRow B 165 2 (.slice (some ⟨g,0,none⟩) n cap) n xs) (h1:∀ u∈xs,u.oneCell'=true) (hi:i<n) (hn:n<=1000000) (hcap:n<=cap) (hc63:cap<=9223372036854775807):
  Calls Tryz.prog 225 #[.slice (some ⟨g,0,none⟩) n cap,.int .i64 i,.int .i64 ((i+1:Nat):Int)] w fun e w'=>
   e=.returned (.slice (some ⟨g,0,none⟩) (n-1) cap)/\w'.ownsRow B 165 2 (.slice (some ⟨g,0,none⟩) (n-1) cap) (n-1) (xs.take (i*2)++xs.drop ((i+1)*2))/\w.grownBy w' (some g):=by
 obtain⟨i0,hi0,hz0,hz1,hz2⟩:=info_parts oE;have hxl:xs.length=n*2:=ho.1;obtain⟨m,hm⟩:∃ m,n=i+1+m:=⟨n-(i+1),by omega⟩;obtain⟨K,hK⟩:∃ K,K=i+1:=⟨_,rfl⟩;rw[<-hK];obtain⟨news,hnews⟩:∃ news,news=xs.drop (K*2):=⟨_,rfl⟩;have hlen:news.length=m*2:=by rw[hnews,List.length_drop,hxl];omega
 have hdr:w.drew.ownsRow B 165 2 (.slice (some ⟨g,0,none⟩) n cap) n xs:=ho;obtain⟨A,hA,hsrc⟩:∃ A:Addr,(if cap=K then some (⟨g,0,none⟩:Addr) else some ⟨g,K*2,none⟩)=some A/\Hid (∀ t u,news[t]?=some u->w.drew.cell? (A.add t)=some u):=by
  by_cases h:cap=K
  ·refine⟨⟨g,0,none⟩,by simp[h],fun t u hu=>?_⟩;have h0:news.length=0:=by omega
   rw[List.length_eq_zero_iff.1 h0] at hu;simp at hu
  ·refine⟨⟨g,K*2,none⟩,by simp[h],fun t u hu=>?_⟩;have ht:t<m*2:=by
    have:=(List.getElem?_eq_some_iff.1 hu).1;omega
   rw[Addr.add_lit,hdr.cellAt (K*2+t) (by omega),<-hu,hnews,List.getElem?_drop]
 have s2:Hid (∀ u∈news,u.oneCell'=true):=fun u hu=>h1 u (by rw[hnews] at hu;exact List.mem_of_mem_drop hu);have s3:Hid (∀ t,t<news.length->(w.drew.cell? ⟨g,0+i*2+t,none⟩).isSome=true/\w.drew.frozen? ⟨g,0+i*2+t,none⟩=false):=fun t ht=>by
  have:=cS hdr (i*2+t) (by omega);simpa using this
 obtain⟨W1,hW1⟩:∃ W1,W1=w.drew.setCells g (0+i*2) news:=⟨_,rfl⟩;have hW1':=hW1;simp only[Nat.zero_add] at hW1';have r1:=cT news (i*2) w.drew xs hdr;rw[<-hW1'] at r1;have hzv:∀ w,(zeroValue 165).run Tryz.prog w=.ok zrow w:=Tryz.zeroValue165;have hz2':zrow.cells.size=2:=rfl;have hq:i+m=n-1:=by omega
 have hcl:∀ ty,(Builtin.clear_ #[32] ty #[.slice (some ⟨g,(i+m)*2,none⟩) 1 (cap-(i+m))]).run Tryz.prog W1=.ok (.tuple #[]) (W1.setCells g ((i+m)*2) (Builtin.zeroCells zrow.cells 1).toList):=
  fun ty=>qG W1 _ _ ty _ Tryz.underlying32 hzv g ((i+m)*2) _ _ (by omega) (zF0 _) (fun j hj=>by rw[hz2'] at hj;exact(cS r1.1 ((i+m)*2+j) (by omega)).1) (fun j hj=>by rw[hz2'] at hj;exact(cS r1.1 ((i+m)*2+j) (by omega)).2)
 have r2:=cT (Builtin.zeroCells zrow.cells 1).toList ((i+m)*2) W1 _ r1.1;have r3:=rT r2.1 (m:=i+m) (by omega);rw[hnews,hK,hq,zIM xs i n hxl hi _] at r3;rw[<-hq] at r3;have R3:=hide r3;have R4:Hid (w.grownBy (W1.setCells g ((i+m)*2) (Builtin.zeroCells zrow.cells 1).toList) (some g)):=(show w.grownBy W1 (some g) from ⟨r1.2.os,r1.2.tape,r1.2.output,r1.2.size,r1.2.block⟩).trans r2.2;rw[<-hq];generalize hW2:W1.setCells g ((i+m)*2) (Builtin.zeroCells zrow.cells 1).toList=W2 at hcl R3 R4;have HL:=hide hlen;have HW:Hid (W1=w.drew.setCells g (0+i*2) news):=hW1;have HK:=hide hK;have HM:=hide hm;have k0:(0:Int)<=(i:Int):=Int.natCast_nonneg _;have k1:(i:Int)<=(K:Int):=by omega
 have k2:(K:Int)<=(n:Int):=by omega
 have k3:¬(i:Int)=(K:Int):=by omega
 have k4:¬cap=i+m:=by omega
 have k5:(n:Int)<=(cap:Int):=by omega
 have k6:i<=cap:=by omega
 have k7:K<=cap:=by omega
 have k8:n-(i+m)=1:=by omega
 have k9:(i:Int)+(m:Int)<=(n:Int):=by omega
 have k10:n-K=m:=by omega
 have k11:(K:Int)<=(cap:Int):=by omega
 have k12:(i:Int)<=(cap:Int):=by omega
 have k13:i+m<=cap:=by omega
 clear hnews hlen hdr hW1 hW1' r1 r2 r3 ho h1 hxl hW2 hz2' hK hm hq hi;go_enter Tryz.func225,Tryz.ntmps225;go_wp2_with fail
 go_region_law (refine step_append_room rfl (.tmp 22) (.tmp 25) 32 rfl 165 i0 2 Tryz.underlying32 hi0 hz1 g 0 i cap (by simp[Act.eval,Act.put]) A m (cap-K) news (by simp[Act.eval,Act.put, *]) HL.out hsrc.out s2.out (by omega) s3.out ?_;rw[<-HW.out])
 go_wp2;go_ret;exact⟨rfl,by rw[HK.out] at *;exact R3.out,R4.out⟩
def lN (w w':World) (e:Ending) (B:Nat) (v:Value) (n:Nat) (ys:List Value):Prop:=∃ v',e=.returned v'/\w'.ownsRow B 165 2 v' n ys/\w.grownBy w' v.ownBlock
theorem vP {w:World} {vb:Nat} {k u:ByteArray} (h0:w.cell? ⟨vb,0,none⟩=some (.string k)) (h1:w.cell? ⟨vb,1,none⟩=some (.string u)):∀ j x,[Value.string k,Value.string u][j]?=some x->w.cell? ((⟨vb,0,none⟩:Addr).add j)=some x:=fun j x hj=>by
 match j with
 | 0=>simp at hj;subst hj;exact h0
 | 1=>simp at hj;subst hj;exact h1
 | j+2=>simp at hj
theorem sB (k u:ByteArray):∀ x∈[Value.string k,Value.string u],x.oneCell'=true:=by
 intro x hx;simp at hx;rcases hx with rfl|rfl<;>rfl
theorem yY (B:Nat) (v:Value) (n:Nat) (xs:List Value) (w:World) (ho:w.ownsRow B 165 2 v n xs) (hB:B<=w.heap.size) (vb vc:Nat) (k u:ByteArray) (h0:w.cell? ⟨vb,0,none⟩=some (.string k)) (h1:w.cell? ⟨vb,1,none⟩=some (.string u)) (hn:n<=1000000):
  ∃ v' w',(∀ ty,(Builtin.append_ #[32,32] ty #[v,.slice (some ⟨vb,0,none⟩) 1 vc]).run Tryz.prog w=.ok v' w')/\w'.ownsRow B 165 2 v' (n+1) (xs++[.string k,.string u])/\w.grownBy w' v.ownBlock:=by
 obtain⟨i0,hi0,hz0,hz1,hz2⟩:=info_parts oE;obtain⟨v',w',hr,ho',hg,_⟩:=run_append_own (P:=Tryz.prog) (w:=w) B 32 0 165 i0 _ 2 32 Tryz.underlying32 hi0 hz0 hz1 hz2 rfl (by omega) v n xs ho ⟨vb,0,none⟩ 1 vc [.string k,.string u] rfl (vP h0 h1) (sB k u) (by unfold maxLen;omega) (by omega) hB;exact⟨v',w',fun ty=>hr,ho',hg⟩
theorem zB0 (B:Nat) (v:Value) (n vb vc:Nat) (k u:ByteArray) (xs:List Value) (w:World) (ho:w.ownsRow B 165 2 v n xs) (hB:B<=w.heap.size) (h0:w.cell? ⟨vb,0,none⟩=some (.string k)) (h1:w.cell? ⟨vb,1,none⟩=some (.string u)) (hn:n<=1000000):
  Calls Tryz.prog 265 #[v,.int .i64 n,.slice (some ⟨vb,0,none⟩) 1 vc] w fun e w'=>lN w w' e B v (n+1) (xs++[.string k,.string u]):=by
 obtain⟨v',w',hr,ho',hg⟩:=yY B v n xs w ho hB vb vc k u h0 h1 hn;have HO:=hide ho';have HG:=hide hg;rcases aX ho with⟨rfl,rfl⟩|⟨g,cap,rfl,_,_,hc,hm⟩
 ·clear ho ho' hg h0 h1;go_enter Tryz.func265,Tryz.ntmps265;go_wp2_with (at_builtin;refine Lib.wpList_append_run _ rfl _ _ _ _ rfl _ _ rfl rfl _ _ (hr _) ?_)
  go_ret;exact⟨v',rfl,HO.out,HG.out⟩
 ·clear ho ho' hg h0 h1;have hc':(n:Int)<=(cap:Int):=by omega
  unfold maxLen at hm;go_enter Tryz.func265,Tryz.ntmps265;go_wp2_with (at_builtin;refine Lib.wpList_append_run _ rfl _ _ _ _ rfl _ _ rfl rfl _ _ (hr _) ?_)
  all_goals
   go_ret;exact⟨v',rfl,HO.out,HG.out⟩
theorem zEh (xs ys vs:List Value) (i n:Nat) (hx:xs.length=n*2) (hy:ys.length=2) (hv:vs.length=2) (hi:i<n):setL (setL (xs++ys) ((i+1)*2) (xs.drop (i*2))) (i*2) vs=xs.take (i*2)++(vs++xs.drop (i*2)):=by
 have e1:setL (xs++ys) ((i+1)*2) (xs.drop (i*2))=(xs++ys).take ((i+1)*2)++xs.drop (i*2):=by
  have e:(xs++ys).drop ((i+1)*2+(xs.drop (i*2)).length)=[]:=List.drop_eq_nil_of_le (by rw[List.length_append,List.length_drop];omega);rw[nH _ _ _ (by rw[List.length_drop,List.length_append];omega),e,List.append_nil]
 have e0:(xs++ys).take ((i+1)*2)=xs.take ((i+1)*2):=List.take_append_of_le_length (by omega);rw[e1,e0,nH _ _ _ (by rw[List.length_append,List.length_take,List.length_drop];omega),hv,List.take_append_of_le_length (by rw[List.length_take];omega),List.take_take,Nat.min_eq_left (by omega),show i*2+2=(i+1)*2 by omega,List.drop_left' (by rw[List.length_take];omega),List.append_assoc]
theorem zFY (xs zs vs:List Value) (i n:Nat) (hx:xs.length=n*2) (hz:zs.length=(n+1-i)*2) (hv:vs.length=2) (hi:i<n):setL (setL (xs.take (i*2)++zs) (i*2) vs) ((i+1)*2) (xs.drop (i*2))=xs.take (i*2)++(vs++xs.drop (i*2)):=by
 have hT:(xs.take (i*2)).length=i*2:=by rw[List.length_take];omega
 have e1:setL (xs.take (i*2)++zs) (i*2) vs=xs.take (i*2)++vs++zs.drop 2:=by
  rw[nH _ _ _ (by rw[List.length_append];omega),List.take_left' hT,List.drop_append,hT,hv,List.drop_eq_nil_of_le (by omega),List.nil_append,show i*2+2-i*2=2 by omega]
 have e2:(xs.take (i*2)++vs++zs.drop 2).drop ((i+1)*2+(xs.drop (i*2)).length)=[]:=List.drop_eq_nil_of_le (by simp only[List.length_append,List.length_drop,hT,hv];omega);rw[e1,nH _ _ _ (by simp only[List.length_append,List.length_drop,hT,hv];omega),List.take_left' (by rw[List.length_append,hT,hv];omega),e2,List.append_nil,List.append_assoc]
theorem yE (B g cap i n vb vc:Nat) (k u:ByteArray) (xs:List Value) (w:World) (ho:w.ownsRow B 165 2 (.slice (some ⟨g,0,none⟩) n cap) n xs) (hone:∀ x∈xs,x.oneCell'=true) (h0:w.cell? ⟨vb,0,none⟩=some (.string k)) (h1:w.cell? ⟨vb,1,none⟩=some (.string u))
  (hvb:vb≠g) (tA:TypeId) (kA:Nat) (hsa:w.shape? vb=some (tA,kA)) (hfa:∀ j,w.frozen? ⟨vb,j,none⟩=false) (hi:i<n) (hn:n<=1000000) (hroom:n+1<=cap) (hc63:cap<=9223372036854775807):
  Calls Tryz.prog 265 #[.slice (some ⟨g,0,none⟩) n cap,.int .i64 i,.slice (some ⟨vb,0,none⟩) 1 vc] w fun e w'=>lN w w' e B (.slice (some ⟨g,0,none⟩) n cap) (n+1) (xs.take (i*2)++([.string k,.string u]++xs.drop (i*2))):=by
 have hxl:xs.length=n*2:=ho.1;obtain⟨ys,hyl,hw⟩:=zIG ho (m:=n+1) (by omega) hroom;rw[show n+1-n=1 by omega,Nat.one_mul] at hyl;obtain⟨J,hJ⟩:∃ J,J=i+1:=⟨_,rfl⟩;have hsz:(Tryz.prog.info? 165).map (·.size)=some 2:=by
  obtain⟨i0,hi0,_,hz1,_⟩:=info_parts oE;rw[hi0];simp[hz1]
 obtain⟨cur,hcur,hcs⟩:∃ cur,w.heap[g]?=some (.cells cur 165 (0,0))/\cur.size=cap*2:=by
  rcases ho.2 with⟨e,_⟩|⟨g',cap',cur,e,_,hh,_,_,hs,_⟩
  ·cases e
  ·cases e;exact⟨cur,hh,hs⟩
 have hsb:w.shape? g=some (165,cap*2):=by simp[World.shape?,hcur,hcs]
 have hov:∀ lb cb,(callFunc 266 #[.slice (some ⟨vb,0,none⟩) 1 vc,.slice (some ⟨g,J*2,none⟩) lb cb]).run Tryz.prog w=.ok (.value (.bool false)) w:=fun lb cb=>by
  rw[run_callFunc_extern Tryz.func266 (by kernel_rfl) (by kernel_rfl) (by kernel_rfl) (e:=Extern.SlicesOverlaps.overlaps #[32,32] #[4]) (by kernel_rfl),
   Lib.run_overlaps_apart w 32 4 165 Tryz.underlying32 2 Tryz.sizeOf165 ⟨vb,0,none⟩ ⟨g,J*2,none⟩ 1 vc lb cb hvb tA 165 kA (cap*2) hsa hsb (by omega) (hfa 0) (hfa kA)]
  rfl
 have hdl:(xs.drop (i*2)).length=(n-i)*2:=by rw[List.length_drop,hxl];omega
 have hwd:w.drew.ownsRow B 165 2 (.slice (some ⟨g,0,none⟩) (n+1) cap) (n+1) (xs++ys):=hw;obtain⟨mv,hmv⟩:∃ mv,mv=xs.drop (i*2):=⟨_,rfl⟩;rw[<-hmv] at hdl;have hcp1:∀ ty dc sc,(Builtin.copy_ #[32,32] ty #[.slice (some ⟨g,J*2,none⟩) (n+1-J) dc,.slice (some ⟨g,i*2,none⟩) (n+1-i) sc]).run Tryz.prog w.drew=.ok (goInt (Nat.min (n+1-i) (n+1-J))) (w.drew.setCells g (J*2) mv):=fun ty dc sc=>
  kY w.drew _ _ ty 165 2 g (J*2) (n+1-J) dc ⟨g,i*2,none⟩ (n+1-i) sc mv Tryz.underlying32 hsz (by rw[hdl];congr 1;simp only[Nat.min_def];split<;>omega)
   (fun j x hj=>by
    have hjl:j<mv.length:=(List.getElem?_eq_some_iff.1 hj).1;rw[Addr.add_lit,hwd.cellAt (i*2+j) (by omega),List.getElem?_append_left (by omega)];rw[hmv,List.getElem?_drop] at hj;exact hj)
   (fun j hj=>(cS hwd (J*2+j) (by omega)).1) (fun j hj=>(cS hwd (J*2+j) (by omega)).2) (fun x hx=>hone x (by rw[hmv] at hx;exact List.mem_of_mem_drop hx))
 obtain⟨W1,hW1⟩:∃ W1,W1=w.drew.setCells g (J*2) mv:=⟨_,rfl⟩;have r1:=cT mv (J*2) w.drew _ hwd;rw[<-hW1] at r1 hcp1;obtain⟨W2,hW2⟩:∃ W2,W2=W1.setCells g (i*2) [.string k,.string u]:=⟨_,rfl⟩;have r2:=cT [.string k,.string u] (i*2) W1 _ r1.1;rw[<-hW2] at r2;have hcp2:∀ ty dc,(Builtin.copy_ #[32,32] ty #[.slice (some ⟨g,i*2,none⟩) (n+1-i) dc,.slice (some ⟨vb,0,none⟩) 1 vc]).run Tryz.prog W1=.ok (goInt (Nat.min 1 (n+1-i))) W2:=fun ty dc=>by
  rw[hW2];exact kY W1 _ _ ty 165 2 g (i*2) (n+1-i) dc ⟨vb,0,none⟩ 1 vc _ Tryz.underlying32 hsz (by rw[show Nat.min 1 (n+1-i)=1 by simp only[Nat.min_def];split<;>omega];rfl)
   (fun j x hj=>by
    have:=vP h0 h1 j x hj;rw[Addr.add_lit] at this ⊢;rw[hW1,World.cell?_setCells_out g _ _ _ _ (fun h _=>absurd h hvb)];exact this)
   (fun j hj=>(cS r1.1 (i*2+j) (by simp at hj;omega)).1) (fun j hj=>(cS r1.1 (i*2+j) (by simp at hj;omega)).2) (sB k u)
 have R:Hid (W2.ownsRow B 165 2 (.slice (some ⟨g,0,none⟩) (n+1) cap) (n+1) (xs.take (i*2)++([.string k,.string u]++xs.drop (i*2)))):=by
  have:=r2.1;rw[hmv,hJ,zEh xs ys _ i n hxl hyl rfl hi] at this;exact this
 have RG:Hid (w.grownBy W2 (some g)):=(show w.grownBy W1 (some g) from ⟨r1.2.os,r1.2.tape,r1.2.output,r1.2.size,r1.2.block⟩).trans r2.2;have z2:¬((i:Int)=(n:Int)):=by omega
 have k0:(i:Int)+1=(J:Int):=by omega
 have k1:IntKind.i64.wrap ((i:Int)+1)=(J:Int):=by rw[k0,IntKind.wrap_i64];omega
 have k1':IntKind.i64.wrap (J:Int)=(J:Int):=by rw[IntKind.wrap_i64];omega
 have k2:(0:Int)<=(J:Int):=Int.natCast_nonneg _;have k3:(J:Int)<=(n:Int)+1:=by omega
 have k4:(i:Int)<=(n:Int):=by omega
 have k5:(i:Int)<=(n:Int)+1:=by omega
 have k6:¬cap=i:=by omega
 have k7:¬cap=J:=by omega
 have k8:¬(cap:Int)<(n:Int)+1:=by omega
 have k9:(n:Int)+1<=(cap:Int):=by omega
 have k10:i<=n:=by omega
 have k11:J<=n+1:=by omega
 have k12:n+1<=cap:=hroom;have HH1:=hide hW1;clear ho hone h0 h1 hw hwd r1 r2 hW1 hW2 hmv hdl hxl hyl hJ hsa hsb hfa hcur hcs;go_enter Tryz.func265,Tryz.ntmps265;go_wp2_with (simp only[hov])
 go_region_law (refine step_copy_runI rfl _ _ 32 32 rfl _ _ (by simp[Act.eval,Act.put]) (by simp[Act.eval,Act.put]) (hcp1 _ _ _) ?_)
 go_wp2_with (at_builtin;refine wpList_copy_runI _ rfl _ _ 32 32 rfl _ _ rfl rfl (hcp2 _ _) ?_)
 go_ret;exact⟨_,rfl,R.out,RG.out⟩
theorem zAQ (B g cap i n vb vc:Nat) (k u:ByteArray) (xs:List Value) (w:World) (ho:w.ownsRow B 165 2 (.slice (some ⟨g,0,none⟩) n cap) n xs) (hB:B<=w.heap.size) (hone:∀ x∈xs,x.oneCell'=true) (h0:w.cell? ⟨vb,0,none⟩=some (.string k)) (h1:w.cell? ⟨vb,1,none⟩=some (.string u))
  (hi:i<n) (hn:n<=1000000) (hnc:n<=cap) (hroom:cap<n+1):
  Calls Tryz.prog 265 #[.slice (some ⟨g,0,none⟩) n cap,.int .i64 i,.slice (some ⟨vb,0,none⟩) 1 vc] w fun e w'=>lN w w' e B (.slice (some ⟨g,0,none⟩) n cap) (n+1) (xs.take (i*2)++([.string k,.string u]++xs.drop (i*2))):=by
 obtain⟨i0,hi0,hz0,hz1,hz2⟩:=info_parts oE;have hxl:xs.length=n*2:=ho.1;have hgw:g<w.heap.size:=(World.ownsRow.lt ho g rfl).2;have hvw:vb<w.heap.size:=World.block_lt_of_cell? _ _ h0;obtain⟨J,hJ⟩:∃ J,J=i+1:=⟨_,rfl⟩;have hsz:(Tryz.prog.info? 165).map (·.size)=some 2:=by rw[hi0];simp[hz1]
 have hold:(Builtin.firstCells i0.size i (.slice (some ⟨g,0,none⟩) i cap)).run Tryz.prog w.drew=.ok (xs.take (i*2)).toArray w.drew:=by
  rw[hz1];exact run_firstCells_some w.drew 2 i ⟨g,0,none⟩ i cap (xs.take (i*2)) (by rw[List.length_take];omega) (fun j x hj=>by
   have hjl:j<(xs.take (i*2)).length:=(List.getElem?_eq_some_iff.1 hj).1;rw[List.length_take] at hjl;rw[Addr.add_lit,Nat.zero_add];rw[List.getElem?_take,if_pos (by omega)] at hj;show w.cell? _=_;rw[ho.cellAt j (by omega)];exact hj)
 have hrz:∀ ty,(Builtin.append_ #[32,3] ty #[.slice (some ⟨g,0,none⟩) i cap,.int .i64 ((n:Int)+1-(i:Int))]).run Tryz.prog w =
   .ok (.slice (some ⟨w.heap.size,0,none⟩) (n+1) (grownCap w (n+1) cap 165)) (w.drew.alloc (.cells ((xs.take (i*2)).toArray++Builtin.zeroCells zrow.cells (n+1-i)++Builtin.zeroCells zrow.cells (grownCap w (n+1) cap 165-(n+1))) 165)):=fun ty=>by
  have h:=Lib.run_append_grow_zeros (P:=Tryz.prog) w 32 3 ty 165 i0 _ .i64 .i64 Tryz.underlying32 Tryz.underlying3 hi0 hz0 (some ⟨g,0,none⟩) i cap (xs.take (i*2)) hold (n+1-i) (by omega) (by omega) (by omega) (by omega) (by rw[hz2];omega) (by rw[hz2,show i+(n+1-i)=n+1 by omega];exact growslice_fits hroom (by omega));rw[show i+(n+1-i)=n+1 by omega] at h;rw[show(n:Int)+1-(i:Int)=((n+1-i:Nat):Int) by omega];exact h
 have hG:=grownCap_ge w (n+1) cap 165;have hM:=grownCap_le_maxLen w (n+1) cap 165 (by unfold maxLen;omega);generalize grownCap w (n+1) cap 165=G at hrz hG hM;have hzl:∀ q,(Builtin.zeroCells zrow.cells q).toList.length=q*2:=fun q=>by rw[Array.length_toList,size_zeroCells];rfl
 have hold2:(w.drew.alloc (.cells ((xs.take (i*2)).toArray++Builtin.zeroCells zrow.cells (n+1-i)++Builtin.zeroCells zrow.cells (G-(n+1))) 165)).ownsRow B 165 2 (.slice (some ⟨w.heap.size,0,none⟩) (n+1) G) (n+1) (xs.take (i*2)++(Builtin.zeroCells zrow.cells (n+1-i)).toList):=by
  refine⟨by rw[List.length_append,hzl,List.length_take];omega,.inr ⟨w.heap.size,G,_,rfl,hB,heap_alloc_new w.drew _,hG,hM,?_,?_⟩⟩
  ·simp only[Array.size_append,size_zeroCells,List.size_toArray,List.length_take];have:zrow.cells.size=2:=rfl;rw[this];omega
  ·rw[Array.toList_append,Array.toList_append,List.take_left' (by rw[List.length_append,hzl];simp only[List.length_take];omega)]
 generalize hW1:w.drew.alloc (.cells ((xs.take (i*2)).toArray++Builtin.zeroCells zrow.cells (n+1-i)++Builtin.zeroCells zrow.cells (G-(n+1))) 165)=W1 at hrz hold2;have hb1:w.grownBy W1 none:=by
  rw[<-hW1];exact⟨rfl,rfl,rfl,by simp,fun q hq _=>Below.heap_alloc w.drew _ q hq⟩
 have c1:∀ a v,w.cell? a=some v->W1.cell? a=some v:=fun a v h=>hb1.cell h (by simp);obtain⟨W2,hW2⟩:∃ W2,W2=W1.setCells w.heap.size (i*2) [.string k,.string u]:=⟨_,rfl⟩;have r2:=cT [.string k,.string u] (i*2) W1 _ hold2;rw[<-hW2] at r2;have hcpA:∀ ty dc,(Builtin.copy_ #[32,32] ty #[.slice (some ⟨w.heap.size,i*2,none⟩) (n+1-i) dc,.slice (some ⟨vb,0,none⟩) 1 vc]).run Tryz.prog W1=.ok (goInt (Nat.min 1 (n+1-i))) W2:=fun ty dc=>by
  rw[hW2];exact kY W1 _ _ ty 165 2 w.heap.size (i*2) (n+1-i) dc ⟨vb,0,none⟩ 1 vc _ Tryz.underlying32 hsz (by rw[show Nat.min 1 (n+1-i)=1 by simp only[Nat.min_def];split<;>omega];rfl)
   (fun j x hj=>c1 _ _ (vP h0 h1 j x hj))
   (fun j hj=>(cS hold2 (i*2+j) (by simp at hj;omega)).1) (fun j hj=>(cS hold2 (i*2+j) (by simp at hj;omega)).2) (sB k u)
 have hdl:(xs.drop (i*2)).length=(n-i)*2:=by rw[List.length_drop,hxl];omega
 obtain⟨mv,hmv⟩:∃ mv,mv=xs.drop (i*2):=⟨_,rfl⟩;rw[<-hmv] at hdl;obtain⟨W3,hW3⟩:∃ W3,W3=W2.drew.setCells w.heap.size (J*2) mv:=⟨_,rfl⟩;have r2d:W2.drew.ownsRow B 165 2 (.slice (some ⟨w.heap.size,0,none⟩) (n+1) G) (n+1) (setL (xs.take (i*2)++(Builtin.zeroCells zrow.cells (n+1-i)).toList) (i*2) [.string k,.string u]):=r2.1;have r3:=cT mv (J*2) W2.drew _ r2d;rw[<-hW3] at r3;have hcpB:∀ ty dc sc,(Builtin.copy_ #[32,32] ty #[.slice (some ⟨w.heap.size,J*2,none⟩) (n+1-J) dc,.slice (some ⟨g,i*2,none⟩) (n-i) sc]).run Tryz.prog W2.drew=.ok (goInt (Nat.min (n-i) (n+1-J))) W3:=fun ty dc sc=>by
  rw[hW3];exact kY W2.drew _ _ ty 165 2 w.heap.size (J*2) (n+1-J) dc ⟨g,i*2,none⟩ (n-i) sc mv Tryz.underlying32 hsz (by rw[hdl];congr 1;simp only[Nat.min_def];split<;>omega)
   (fun j x hj=>by
    have hjl:j<mv.length:=(List.getElem?_eq_some_iff.1 hj).1;rw[hmv,List.getElem?_drop] at hj;rw[Addr.add_lit];show W2.cell? _=_;rw[hW2,World.cell?_setCells_out _ _ _ _ _ (fun h _=>by have:g=w.heap.size:=h;omega)];refine c1 _ _ ?_;rw[ho.cellAt (i*2+j) (by omega)];exact hj)
   (fun j hj=>(cS r2d (J*2+j) (by omega)).1) (fun j hj=>(cS r2d (J*2+j) (by omega)).2) (fun x hx=>hone x (by rw[hmv] at hx;exact List.mem_of_mem_drop hx))
 have R:Hid (W3.ownsRow B 165 2 (.slice (some ⟨w.heap.size,0,none⟩) (n+1) G) (n+1) (xs.take (i*2)++([.string k,.string u]++xs.drop (i*2)))):=by
  have:=r3.1;rw[hmv,hJ,zFY xs _ _ i n hxl (hzl _) rfl hi] at this;exact this
 have RG:Hid (w.grownBy W3 (some g)):=by
  have e2:W1.grownBy W2 (some w.heap.size):=r2.2;have e3:W2.grownBy W3 (some w.heap.size):=⟨r3.2.os,r3.2.tape,r3.2.output,r3.2.size,r3.2.block⟩;refine⟨(e3.os.trans e2.os).trans hb1.os,(e3.tape.trans e2.tape).trans hb1.tape,(e3.output.trans e2.output).trans hb1.output,Nat.le_trans hb1.size (Nat.le_trans e2.size e3.size),fun q hq _=>?_⟩;have hqn:some q≠some w.heap.size:=fun e=>by cases e;omega
  exact(e3.block q (Nat.lt_of_lt_of_le hq (Nat.le_trans hb1.size e2.size)) hqn).trans ((e2.block q (Nat.lt_of_lt_of_le hq hb1.size) hqn).trans (hb1.block q hq (by simp)))
 have z2:¬((i:Int)=(n:Int)):=by omega
 have z3:(cap:Int)<(n:Int)+1:=by omega
 have k0:(i:Int)+1=(J:Int):=by omega
 have k1:IntKind.i64.wrap ((i:Int)+1)=(J:Int):=by rw[k0,IntKind.wrap_i64];omega
 have k1':IntKind.i64.wrap (J:Int)=(J:Int):=by rw[IntKind.wrap_i64];omega
 have k2:(0:Int)<=(J:Int):=Int.natCast_nonneg _;have k3:(J:Int)<=(n:Int)+1:=by omega
 have k4:(i:Int)<=(n:Int):=by omega
 have k5:(i:Int)<=(n:Int)+1:=by omega
 have k6:¬cap=i:=by omega
 have k7:¬G=J:=by omega
 have k8:¬G=i:=by omega
 have hG63:G<=9223372036854775807:=by unfold maxLen at hM;omega
 have k9:(n:Int)+1<=(G:Int):=by omega
 have k10:i<=n:=by omega
 have k11:J<=n+1:=by omega
 have k12:(i:Int)<=(cap:Int):=by omega
 clear ho hone h0 h1 hold hold2 hb1 c1 r2 r2d r3 hW1 hW2 hW3 hmv hdl hxl hJ hzl hM hi0 hz0 hz1 hz2;go_enter Tryz.func265,Tryz.ntmps265;go_wp2_with (first
  | (at_builtin;refine Lib.wpList_append_run _ rfl _ _ _ _ rfl _ _ rfl rfl _ _ (hrz _) ?_)
  | (at_builtin;refine wpList_copy_runI _ rfl _ _ 32 32 rfl _ _ rfl rfl (hcpA _ _) ?_))
 go_region_law (refine step_copy_runI rfl _ _ 32 32 rfl _ _ (by simp[Act.eval,Act.put]) (by simp[Act.eval,Act.put]) (hcpB _ _ _) ?_)
 go_wp2;go_ret;exact⟨_,rfl,R.out,RG.out⟩
theorem zI9 (B i n vb vc:Nat) (v:Value) (k u:ByteArray) (xs:List Value) (w:World) (ho:w.ownsRow B 165 2 v n xs) (hB:B<=w.heap.size) (hone:∀ x∈xs,x.oneCell'=true) (h0:w.cell? ⟨vb,0,none⟩=some (.string k)) (h1:w.cell? ⟨vb,1,none⟩=some (.string u))
  (hvb:v.ownBlock≠some vb) (tA:TypeId) (kA:Nat) (hsa:w.shape? vb=some (tA,kA)) (hfa:∀ j,w.frozen? ⟨vb,j,none⟩=false) (hi:i<=n) (hn:n<=1000000):
  Calls Tryz.prog 265 #[v,.int .i64 i,.slice (some ⟨vb,0,none⟩) 1 vc] w fun e w'=>lN w w' e B v (n+1) (xs.take (i*2)++([.string k,.string u]++xs.drop (i*2))):=by
 have hxl:xs.length=n*2:=ho.1;rcases Nat.eq_or_lt_of_le hi with rfl|hlt
 ·rw[List.take_of_length_le (by omega),List.drop_eq_nil_of_le (by omega),List.append_nil];exact zB0 B v i vb vc k u xs w ho hB h0 h1 hn
 ·rcases aX ho with⟨rfl,rfl⟩|⟨g,cap,rfl,_,_,hc,hm⟩
  ·omega
  ·rcases Nat.lt_or_ge cap (n+1) with hr|hr
   ·exact zAQ B g cap i n vb vc k u xs w ho hB hone h0 h1 hlt hn hc hr
   ·exact yE B g cap i n vb vc k u xs w ho hone h0 h1 (fun e=>hvb (by rw[e];rfl)) tA kA hsa hfa hlt hn hr (by unfold maxLen at hm;omega)
theorem sS {w W:World} {B:Nat} {e:TypeId} {size:Nat} {v:Value} {n:Nat} {xs:List Value} (h:W.heap=w.heap) (ho:w.ownsRow B e size v n xs):W.ownsRow B e size v n xs:=aI ho fun k _=>by rw[h]
theorem zI6 (xs vs:List Value) (i n:Nat) (hx:xs.length=n*2) (hv:vs.length=2) (hi:i<n):setL (setL xs (i*2) vs) ((i+1)*2) (xs.drop ((i+1)*2))=xs.take (i*2)++(vs++xs.drop ((i+1)*2)):=by
  have e0:i*2+vs.length=(i+1)*2:=by omega
  have e1:setL xs (i*2) vs=xs.take (i*2)++vs++xs.drop ((i+1)*2):=by rw[nH _ _ _ (by omega),e0]
  have hl:(xs.take (i*2)++vs).length=(i+1)*2:=by rw[List.length_append,List.length_take,hv];omega
  have e2:(xs.take (i*2)++vs++xs.drop ((i+1)*2)).drop ((i+1)*2+(xs.drop ((i+1)*2)).length)=[]:=List.drop_eq_nil_of_le (by rw[List.length_append,hl];omega)
  rw[e1,nH _ _ _ (by rw[List.length_append,hl];omega),List.take_left' hl,e2,List.append_nil,List.append_assoc]
theorem yW (B g cap i n vb vc:Nat) (k u:ByteArray) (xs:List Value) (w:World) (ho:w.ownsRow B 165 2 (.slice (some ⟨g,0,none⟩) n cap) n xs) (hB:B<=w.heap.size) (h0:w.cell? ⟨vb,0,none⟩=some (.string k)) (h1:w.cell? ⟨vb,1,none⟩=some (.string u))
    (hi:i+1=n) (hn:n<=1000000) (hnc:n<=cap):
    Calls Tryz.prog 226 #[.slice (some ⟨g,0,none⟩) n cap,.int .i64 i,.int .i64 n,.slice (some ⟨vb,0,none⟩) 1 vc] w fun e w'=>lN w w' e B (.slice (some ⟨g,0,none⟩) n cap) n (xs.take (i*2)++([.string k,.string u]++xs.drop ((i+1)*2))):=by
  have hxl:xs.length=n*2:=ho.1
  obtain⟨v',w',hr,ho',hg⟩:=yY B (.slice (some ⟨g,0,none⟩) i cap) i (xs.take (i*2)) w (rT ho (m:=i) (by omega)) hB vb vc k u h0 h1 (by omega)
  have e:xs.drop ((i+1)*2)=[]:=List.drop_eq_nil_of_le (by omega)
  rw[e,List.append_nil]
  obtain⟨va,vcap,rfl⟩:∃ ao c,v'=.slice ao (i+1) c:=by
    rcases aX ho' with⟨hv,h0⟩|⟨g',c',hv,_⟩
    · omega
    · exact⟨_,_,hv⟩
  rw[hi] at ho' hr
  have HO:=hide ho'
  have HG:Hid (w.grownBy w' (some g)):=hg
  have k1:¬(i:Int)=(n:Int):=by omega
  have k2:(i:Int)<=(n:Int):=by omega
  have k3:(n:Int)<=(cap:Int):=by omega
  have k4:(i:Int)<=(cap:Int):=by omega
  have k5:¬(n:Int)<(n:Int):=by omega
  clear ho ho' hg h0 h1 hxl e hi
  go_enter Tryz.func226,Tryz.ntmps226
  go_wp2_with (at_builtin;refine Lib.wpList_append_run _ rfl _ _ _ _ rfl _ _ rfl rfl _ _ (hr _) ?_)
  all_goals
    go_ret
    exact⟨_,rfl,HO.out,HG.out⟩
theorem zAs (B g cap i n vb vc:Nat) (k u:ByteArray) (xs:List Value) (w:World) (ho:w.ownsRow B 165 2 (.slice (some ⟨g,0,none⟩) n cap) n xs) (hone:∀ x∈xs,x.oneCell'=true) (h0:w.cell? ⟨vb,0,none⟩=some (.string k)) (h1:w.cell? ⟨vb,1,none⟩=some (.string u))
    (hi:i+1<n) (hn:n<=1000000) (hnc:n<=cap) (hc63:cap<=9223372036854775807):
    Calls Tryz.prog 226 #[.slice (some ⟨g,0,none⟩) n cap,.int .i64 i,.int .i64 ((i+1:Nat):Int),.slice (some ⟨vb,0,none⟩) 1 vc] w fun e w'=>lN w w' e B (.slice (some ⟨g,0,none⟩) n cap) n (xs.take (i*2)++([.string k,.string u]++xs.drop ((i+1)*2))):=by
  have hxl:xs.length=n*2:=ho.1
  obtain⟨J,hJ⟩:∃ J,J=i+1:=⟨_,rfl⟩
  rw[<-hJ]
  have hsz:(Tryz.prog.info? 165).map (·.size)=some 2:=by
    obtain⟨i0,hi0,_,hz1,_⟩:=info_parts oE
    rw[hi0];simp[hz1]
  have hcpA:∀ W:World,W.heap=w.heap->∀ ty dc,(Builtin.copy_ #[32,32] ty #[.slice (some ⟨g,i*2,none⟩) (n-i) dc,.slice (some ⟨vb,0,none⟩) 1 vc]).run Tryz.prog W=.ok (goInt (Nat.min 1 (n-i))) (W.setCells g (i*2) [.string k,.string u]):=fun W hW ty dc=>
    kY W _ _ ty 165 2 g (i*2) (n-i) dc ⟨vb,0,none⟩ 1 vc _ Tryz.underlying32 hsz (by rw[show Nat.min 1 (n-i)=1 by simp only[Nat.min_def];split<;>omega];rfl)
      (fun j x hj=>by rw[World.cell?_of_block (w:=w) (by rw[hW])];exact vP h0 h1 j x hj)
      (fun j hj=>(cS (sS hW ho) (i*2+j) (by simp at hj;omega)).1) (fun j hj=>(cS (sS hW ho) (i*2+j) (by simp at hj;omega)).2) (sB k u)
  have hdl:(xs.drop (J*2)).length=(n-J)*2:=by rw[List.length_drop,hxl];omega
  obtain⟨mv,hmv⟩:∃ mv,mv=xs.drop (J*2):=⟨_,rfl⟩
  rw[<-hmv] at hdl
  have hcpB:∀ W2:World,W2.ownsRow B 165 2 (.slice (some ⟨g,0,none⟩) n cap) n (setL xs (i*2) [.string k,.string u])->∀ ty dc sc,(Builtin.copy_ #[32,32] ty #[.slice (some ⟨g,J*2,none⟩) (n-J) dc,.slice (some ⟨g,J*2,none⟩) (n-J) sc]).run Tryz.prog W2=.ok (goInt (Nat.min (n-J) (n-J))) (W2.setCells g (J*2) mv):=fun W2 h2 ty dc sc=>
    kY W2 _ _ ty 165 2 g (J*2) (n-J) dc ⟨g,J*2,none⟩ (n-J) sc mv Tryz.underlying32 hsz (by rw[hdl];congr 1;simp only[Nat.min_def];split<;>omega)
      (fun j x hj=>by
        have hjl:j<mv.length:=(List.getElem?_eq_some_iff.1 hj).1
        rw[hmv,List.getElem?_drop] at hj
        rw[Addr.add_lit,h2.cellAt (J*2+j) (by omega),zAF _ _ _ _ (by simp only[List.length_cons,List.length_nil];omega)]
        exact hj)
      (fun j hj=>(cS h2 (J*2+j) (by omega)).1) (fun j hj=>(cS h2 (J*2+j) (by omega)).2) (fun x hx=>hone x (by rw[hmv] at hx;exact List.mem_of_mem_drop hx))
  have hcl:∀ (W:World) ty p c,(Builtin.clear_ #[32] ty #[.slice p 0 c]).run Tryz.prog W=.ok (.tuple #[]) W:=fun W ty p c=>by
    cases p<;>simp[Builtin.clear_,run_underlying Tryz.underlying32]
  have HE:Hid (∀ W:World,W.heap=w.heap->W.os=w.os->W.tape=w.tape->W.output=w.output->((W.setCells g (i*2) [.string k,.string u]).drew.setCells g (J*2) mv).ownsRow B 165 2 (.slice (some ⟨g,0,none⟩) n cap) n (xs.take (i*2)++([.string k,.string u]++xs.drop (J*2)))/\w.grownBy ((W.setCells g (i*2) [.string k,.string u]).drew.setCells g (J*2) mv) (some g)):=fun W hW h1 h2 h3=>by
    have r1:=cT [.string k,.string u] (i*2) W _ (sS hW ho)
    have r1d:(W.setCells g (i*2) [.string k,.string u]).drew.ownsRow B 165 2 (.slice (some ⟨g,0,none⟩) n cap) n (setL xs (i*2) [.string k,.string u]):=r1.1
    have r2:=cT mv (J*2) _ _ r1d
    refine⟨?_,?_⟩
    · have:=r2.1
      rw[hmv,hJ,zI6 xs _ i n hxl rfl (by omega)] at this
      rw[hmv,hJ]
      exact this
    · have e1:=r1.2
      have e2:(W.setCells g (i*2) [.string k,.string u]).grownBy ((W.setCells g (i*2) [.string k,.string u]).drew.setCells g (J*2) mv) (some g):=⟨r2.2.os,r2.2.tape,r2.2.output,r2.2.size,r2.2.block⟩
      have e0:w.grownBy W (some g):=⟨h1,h2,h3,by rw[hW];exact Nat.le_refl _,fun q _ _=>by rw[hW]⟩
      exact(e0.trans e1).trans e2
  have HB2:Hid (∀ W:World,W.heap=w.heap->(W.setCells g (i*2) [.string k,.string u]).drew.ownsRow B 165 2 (.slice (some ⟨g,0,none⟩) n cap) n (setL xs (i*2) [.string k,.string u])):=fun W hW=>(cT [.string k,.string u] (i*2) W _ (sS hW ho)).1
  have k1:¬(i:Int)=(J:Int):=by omega
  have k2:(i:Int)<=(n:Int):=by omega
  have k3:(n:Int)<=(cap:Int):=by omega
  have k4:(i:Int)<=(cap:Int):=by omega
  have k5:¬(J:Int)=(n:Int):=by omega
  have k6:(i:Int)<=(J:Int):=by omega
  have k7:(J:Int)<=(n:Int):=by omega
  have k8:(J:Int)<=(cap:Int):=by omega
  have k0:(i:Int)+1=(J:Int):=by omega
  have k9:IntKind.i64.wrap (J:Int)=(J:Int):=by rw[IntKind.wrap_i64];omega
  have k10:(0:Int)<=(J:Int):=Int.natCast_nonneg _
  have k11:(J:Int)+((n-J:Nat):Int)=(n:Int):=by omega
  have k12:IntKind.i64.wrap (n:Int)=(n:Int):=by rw[IntKind.wrap_i64];omega
  have k13:¬(cap:Int)<(n:Int):=by omega
  have k14:¬cap=i:=by omega
  have k15:¬cap=J:=by omega
  have k16:(0:Int)<=(i:Int):=Int.natCast_nonneg _
  have k17:(i:Int)+1+((n-J:Nat):Int)=(n:Int):=by omega
  have HCA:=hide hcpA
  have HCB:=hide hcpB
  clear ho hone h0 h1 hmv hdl hxl hJ hcpA hcpB
  go_enter Tryz.func226,Tryz.ntmps226
  go_wp2
  go_quiet (fail)
  have hA:=HCA.out (w.drewN nq) rfl
  go_wp2
  clear hA
  have hB:=HCB.out ((w.drewN nq).setCells g (i*2) [.string k,.string u]).drew (HB2.out (w.drewN nq) rfl)
  go_region_law (fail)
  go_wp2
  all_goals
    go_ret
    first
    | exact⟨_,rfl,(HE.out (w.drewN nq) rfl rfl rfl rfl).1,(HE.out (w.drewN nq) rfl rfl rfl rfl).2⟩
    | (have h1:=HE.out (w.drewN nq) rfl rfl rfl rfl
       have e:cap=n:=by assumption
       rw[e] at h1
       exact⟨_,rfl,h1.1,h1.2⟩)
theorem zGQ (B g cap i n vb vc:Nat) (k u:ByteArray) (xs:List Value) (w:World) (ho:w.ownsRow B 165 2 (.slice (some ⟨g,0,none⟩) n cap) n xs) (hB:B<=w.heap.size) (hone:∀ x∈xs,x.oneCell'=true) (h0:w.cell? ⟨vb,0,none⟩=some (.string k)) (h1:w.cell? ⟨vb,1,none⟩=some (.string u))
    (hi:i<n) (hn:n<=1000000) (hnc:n<=cap) (hc63:cap<=9223372036854775807):
    Calls Tryz.prog 226 #[.slice (some ⟨g,0,none⟩) n cap,.int .i64 i,.int .i64 ((i+1:Nat):Int),.slice (some ⟨vb,0,none⟩) 1 vc] w fun e w'=>lN w w' e B (.slice (some ⟨g,0,none⟩) n cap) n (xs.take (i*2)++([.string k,.string u]++xs.drop ((i+1)*2))):=by
  rcases Nat.eq_or_lt_of_le (show i+1<=n from hi) with e|e
  · have:=yW B g cap i n vb vc k u xs w ho hB h0 h1 e hn hnc
    rwa [<-e] at this ⊢
  · exact zAs B g cap i n vb vc k u xs w ho hone h0 h1 e hn hnc hc63
end
end Go.Proofs.YtnboipekkahmnaaGreatDoor
