import Derived.Test.YtnboipekkahmnaaGreatDoorS09
import Derived.Shelf.Spec.SlicesInsert
set_option maxHeartbeats 8000000
set_option maxRecDepth 100000
namespace Go.Proofs.YtnboipekkahmnaaGreatDoor
open Obj renaming cells→o_
open World renaming cell?_of_block→b_,ownsRow.lt→l_
open Go.RowKit.Below renaming refl→r_
open Nat renaming le_refl→n_
open Tryz renaming prog→p_
open Value renaming string→v_,int→i_
open Go.Joins renaming below_alloc1→a_
section
open Go.RowKit Go.Joins Go.Shelf
attribute [local go_sem ↓] Go.wp_at_zero Go.wp_at_succ
theorem zKi {l : List (ByteArray × ByteArray)} {key : ByteArray} {i : Nat} (h : i < cN l key) (hl : i < l.length) : ltS l[i].1 key = true := by
  have := List.not_of_lt_findIdx (p := fun r : ByteArray × ByteArray => !ltS r.1 key) h
  simpa using this
theorem zJI {l : List (ByteArray × ByteArray)} (hr : bV l) {key : ByteArray} {i : Nat} (h : cN l key ≤ i) (hl : i < l.length) : ltS l[i].1 key = false := by
  have hp : cN l key < l.length := by omega
  have h0 : ltS l[cN l key].1 key = false := by
    have h2 : (!ltS l[cN l key].1 key) = true := List.findIdx_getElem (p := fun r : ByteArray × ByteArray => !ltS r.1 key) (xs := l) (w := hp)
    simpa using h2
  rcases Nat.eq_or_lt_of_le h with e | e
  · subst e; exact h0
  · cases hc : ltS l[i].1 key with
    | false => rfl
    | true =>
      have := (List.pairwise_iff_getElem.1 hr) (cN l key) i hp hl e
      have := cL this hc
      rw [h0] at this; cases this
def geAt (l : List (ByteArray × ByteArray)) (key : ByteArray) (i : Nat) : Bool := match l[i]? with
  | some r => !ltS r.1 key
  | none => true
theorem xI {l : List (ByteArray × ByteArray)} (hr : bV l) {key : ByteArray} {i : Nat} (hi : i < l.length) : geAt l key i = decide (cN l key ≤ i) := by
  unfold geAt
  rw [List.getElem?_eq_getElem hi]
  rcases Nat.lt_or_ge i (cN l key) with h | h
  · simp only [zKi h hi]; simp; omega
  · simp only [zJI hr h hi]; simp; omega
theorem zEJ (n p : Nat) (hp : p ≤ n) : (List.range n).countP (fun i => !decide (p ≤ i)) = p := by
  induction n with
  | zero => have : p = 0 := by omega
            subst this; rfl
  | succ n ih =>
    rw [List.range_succ, List.countP_append]
    rcases Nat.lt_or_ge n p with h | h
    · have e : p = n + 1 := by omega
      subst e
      have : (List.range n).countP (fun i => !decide (n + 1 ≤ i)) = n := by
        rw [List.countP_eq_length.2]
        · exact List.length_range
        · intro a ha; have := List.mem_range.1 ha; simp; omega
      rw [this]; simp
    · rw [ih h]; simp; omega
theorem zEp {l : List (ByteArray × ByteArray)} (hr : bV l) (key : ByteArray) : (List.range l.length).countP (fun i => !geAt l key i) = cN l key := by
  rw [← zEJ l.length (cN l key) (oG l key)]
  exact List.countP_congr fun i hi => by rw [xI hr (List.mem_range.1 hi)]
theorem mZ (w : World) (k : Nat) (os : Array Obj) : Below w.heap.size w (Go.Sort.grow (w.drewN k) os) := by
  refine ⟨rfl, rfl, rfl, ?_, fun i hi => ?_⟩
  · show w.heap.size ≤ (w.heap ++ os).size
    simp
  · show (w.heap ++ os)[i]? = w.heap[i]?
    rw [Array.getElem?_append_left hi]
theorem zE2 (l : List (ByteArray × ByteArray)) (b off cap ab kb i : Nat) (key : ByteArray) (w : World) (hl : iO w b off l) (ha : w.cell? ⟨ab, 0, none⟩ = some (.slice (some ⟨b, off, none⟩) l.length cap)) (hk : w.cell? ⟨kb, 0, none⟩ = some (.string key)) (hi : i < l.length) :
    Calls p_ 264 (#[.int .i64 i] ++ #[.pointer (some ⟨ab, 0, none⟩), .pointer (some ⟨kb, 0, none⟩)]) w fun e w' => e = .returned (.bool (geAt l key i)) ∧ ∃ q os', w' = Go.Sort.grow (w.drewN q) os' := by
  obtain ⟨c0, _⟩ := hl i hi
  have hlt : (i : Int) < (l.length : Int) := by omega
  have h0 : (0 : Int) ≤ (i : Int) := Int.natCast_nonneg _
  have HG : Hid (geAt l key i = !ltS l[i].1 key) := by unfold Hid geAt; rw [List.getElem?_eq_getElem hi]
  obtain ⟨c, hc⟩ : ∃ c, Op.bytesLess l[i].1.toList key.toList = c := ⟨_, rfl⟩
  have HC : Hid (ltS l[i].1 key = c) := hc
  rw [show (#[i_ .i64 (i : Int)] ++ #[Value.pointer (some ⟨ab, 0, none⟩), Value.pointer (some ⟨kb, 0, none⟩)]) = #[i_ .i64 (i : Int), Value.pointer (some ⟨ab, 0, none⟩), Value.pointer (some ⟨kb, 0, none⟩)] from rfl]
  clear hl
  go_enter Tryz.func264, Tryz.ntmps264
  go_wp2
  go_quiet (fail)
  go_wp2
  go_ret
  exact ⟨bB (by rw [HG.out, HC.out]), nq, #[], (by unfold Go.Sort.grow; rw [Array.append_empty])⟩
theorem zGE {l : List (ByteArray × ByteArray)} (hr : bV l) (key : ByteArray) : ∀ a b, a ≤ b → b < l.length → geAt l key a = true → geAt l key b = true := fun a b hab hb h => by
  rw [xI hr (by omega)] at h
  rw [xI hr hb]
  simp at h ⊢
  omega
theorem tX : ∀ args w, (callFunc 264 args).run p_ w = .ok (.enter 264 args) w := enters_of Tryz.func264 (by kernel_rfl) rfl
theorem zGB (l : List (ByteArray × ByteArray)) (b off cap ab kb : Nat) (key : ByteArray) (w : World) (hl : iO w b off l) (hr : bV l) (ha : w.cell? ⟨ab, 0, none⟩ = some (.slice (some ⟨b, off, none⟩) l.length cap)) (hk : w.cell? ⟨kb, 0, none⟩ = some (.string key)) (hn : l.length ≤ 1000000) :
    Calls p_ 263 #[.int .i64 l.length, .func (.func 264) #[] #[.pointer (some ⟨ab, 0, none⟩), .pointer (some ⟨kb, 0, none⟩)]] w fun e w' => e = .returned (.int .i64 (cN l key)) ∧ Below w.heap.size w w' := by
  refine (Any.sort_Search Tryz.search 264 #[.pointer (some ⟨ab, 0, none⟩), .pointer (some ⟨kb, 0, none⟩)] l.length (geAt l key) w tX (by omega) (fun m os i hi => ?_) (zGE hr key)).mono ?_
  · have hb := mZ w m os
    exact zE2 l b off cap ab kb i key _ (gW hb hl) (aA hb ha) (aA hb hk) hi
  · rintro e w' ⟨rfl, q, os, rfl⟩
    rw [zEp hr]
    exact ⟨rfl, mZ w q os⟩
theorem zGD (ab kb : Nat) (w : World) :
    Calls p_ 263 #[.int .i64 0, .func (.func 264) #[] #[.pointer (some ⟨ab, 0, none⟩), .pointer (some ⟨kb, 0, none⟩)]] w fun e w' => e = .returned (.int .i64 0) ∧ Below w.heap.size w w' := by
  refine (Any.sort_Search Tryz.search 264 #[.pointer (some ⟨ab, 0, none⟩), .pointer (some ⟨kb, 0, none⟩)] 0 (fun _ => true) w tX (by omega) (fun m os i hi => absurd hi (Nat.not_lt_zero _)) (fun _ _ _ _ h => h)).mono ?_
  rintro e w' ⟨rfl, q, os, rfl⟩
  exact ⟨rfl, mZ w q os⟩
theorem zEb (l : List (ByteArray × ByteArray)) (b off cap : Nat) (key : ByteArray) (w : World) (hl : iO w b off l) (hr : bV l) (hn : l.length ≤ 1000000) :
    Calls p_ 224 #[.slice (some ⟨b, off, none⟩) l.length cap, .string key] w fun e w' => e = .returned (.tuple #[.int .i64 (cN l key), .bool (fK l key)]) ∧ Below w.heap.size w w' := by
  have hB1 := a_ w (o_ #[.slice (some ⟨b, off, none⟩) l.length cap] 32)
  have hB2 := a_ (w.alloc (o_ #[.slice (some ⟨b, off, none⟩) l.length cap] 32)) (o_ #[.string key] 9)
  have a0 := aA hB2 (aC w #[Value.slice (some ⟨b, off, none⟩) l.length cap] 32 0)
  have a1 : ((w.alloc (o_ #[.slice (some ⟨b, off, none⟩) l.length cap] 32)).alloc (o_ #[.string key] 9)).cell? ⟨w.heap.size + 1, 0, none⟩ = some (.string key) := by
    simp
  have HB := hide (aB hB1 (n_ _) hB2)
  have hple := oG l key
  have HS := hide (zGB l b off cap w.heap.size (w.heap.size + 1) key _ (gW HB.out hl) hr a0 a1 hn)
  have HL := hide (gW HB.out hl)
  have HR := hide hr
  obtain ⟨p, hp⟩ : ∃ p, cN l key = p := ⟨_, rfl⟩
  have HP := hide hp
  rw [hp] at HS hple ⊢
  clear hB1 hB2 hl hr hp
  by_cases hlt : p < l.length
  · have hlt' : (p : Int) < (l.length : Int) := by omega
    have hp0 : (0 : Int) ≤ (p : Int) := Int.natCast_nonneg _
    have HF : Hid (fK l key = (l[p].1.toList == key.toList)) := by unfold Hid fK; rw [HP.out, List.getElem?_eq_getElem hlt]; rfl
    go_enter Tryz.func224, Tryz.ntmps224
    go_wp2_with (go_at_call 263; refine HS.out.mono ?_; rintro e w1 ⟨rfl, hb1⟩; replace a0 := aA hb1 a0; replace a1 := aA hb1 a1; have c0 := (gW hb1 HL.out p hlt).1; have HB1 := hide (aB HB.out (n_ _) hb1); clear hb1)
    go_quiet (fail)
    go_wp2
    go_ret2
    exact ⟨by rw [HF.out]; rfl, below_drewN HB1.out _⟩
  · have hlt' : ¬ (p : Int) < (l.length : Int) := by omega
    have hd : decide ((p : Int) < (l.length : Int)) = false := by simpa using hlt'
    have HF : Hid (fK l key = false) := by unfold Hid fK; rw [HP.out, List.getElem?_eq_none (by omega)]
    go_enter Tryz.func224, Tryz.ntmps224
    go_wp2_with (go_at_call 263; refine HS.out.mono ?_; rintro e w1 ⟨rfl, hb1⟩; replace a0 := aA hb1 a0; replace a1 := aA hb1 a1; have HB1 := hide (aB HB.out (n_ _) hb1); clear hb1)
    go_quiet (fail)
    go_wp2
    go_ret2
    exact ⟨by rw [HF.out]; rfl, below_drewN HB1.out _⟩
theorem zFt (ao : Option Addr) (cap : Nat) (key : ByteArray) (w : World) :
    Calls p_ 224 #[.slice ao 0 cap, .string key] w fun e w' => e = .returned (.tuple #[.int .i64 0, .bool false]) ∧ Below w.heap.size w w' := by
  have hB1 := a_ w (o_ #[.slice ao 0 cap] 32)
  have hB2 := a_ (w.alloc (o_ #[.slice ao 0 cap] 32)) (o_ #[.string key] 9)
  have a0 := aA hB2 (aC w #[Value.slice ao 0 cap] 32 0)
  have HB := hide (aB hB1 (n_ _) hB2)
  clear hB1 hB2
  go_enter Tryz.func224, Tryz.ntmps224
  go_wp2_with (go_at_call 263; refine (zGD _ _ _).mono ?_; rintro e w1 ⟨rfl, hb1⟩; replace a0 := aA hb1 a0; have HB1 := hide (aB HB.out (n_ _) hb1); clear hb1)
  go_quiet (fail)
  go_wp2
  go_ret2
  exact ⟨rfl, below_drewN HB1.out _⟩
theorem zFS (l : List (ByteArray × ByteArray)) (v : Value) (B : Nat) (key : ByteArray) (w : World) (ho : ownP w B v l) (hr : bV l) (hn : l.length ≤ 1000000) :
    Calls p_ 224 #[v, .string key] w fun e w' => e = .returned (.tuple #[.int .i64 (cN l key), .bool (fK l key)]) ∧ Below w.heap.size w w' := by
  obtain ⟨ao, cap, rfl, hh⟩ := lV ho
  rcases hh with rfl | ⟨b, off, rfl, h⟩
  · exact zFt _ _ _ _
  · exact zEb l b off cap key w h hr hn
end
section
open Go.RowKit Go.Joins
theorem kY {P:Program} (w:World) (dT sT ty elem:TypeId) (m b o dLen dCap:Nat) (a:Addr) (sLen sCap:Nat) (cs:List Value)
  (hu:P.underlying dT=some (.slice elem)) (hs:(P.info? elem).map (·.size)=some m) (hn:cs.length=Nat.min sLen dLen*m)
  (hsrc:∀ j v,cs[j]?=some v->w.cell? (a.add j)=some v) (hc:∀ j,j<cs.length->(w.cell? ⟨b,o+j,none⟩).isSome=true) (hf:∀ j,j<cs.length->w.frozen? ⟨b,o+j,none⟩=false) (h1:∀ v∈cs,v.oneCell'=true):
  (Builtin.copy_ #[dT,sT] ty #[.slice (some ⟨b,o,none⟩) dLen dCap,.slice (some a) sLen sCap]).run P w=.ok (goInt (Nat.min sLen dLen)) (w.setCells b o cs):=by
 have hl:=run_loadCells_list (P:=P) w a cs hsrc;have hst:=run_storeCells_cells (P:=P) b o cs 0 w (by simpa using hc) (by simpa using hf) h1
 cases hq:P.info? elem with
 | none=>simp[hq] at hs
 | some i=>
  have hi:i.size=m:=by simpa[hq] using hs
  rw[hn] at hl;simp only[Nat.add_zero] at hst;simp[Builtin.copy_,run_underlying hu,Builtin.lenOf,Builtin.firstCells,sizeOf,typeInfo,hq,hi,hl,hst]
theorem zIG {w:World} {B g n m cap:Nat} {e:TypeId} {size:Nat} {xs:List Value} (h:w.ownsRow B e size (.slice (some ⟨g,0,none⟩) n cap) n xs) (hm:n<=m) (hc:m<=cap):∃ ys,ys.length=(m-n)*size/\w.ownsRow B e size (.slice (some ⟨g,0,none⟩) m cap) m (xs++ys):=by
 obtain⟨h1,h2⟩:=h;rcases h2 with⟨e1,_⟩|⟨g',cap',cur,e1,hb,hh,hn,hcm,hs,ht⟩
 ·cases e1
 ·cases e1;have hle:n*size<=m*size:=Nat.mul_le_mul_right _ hm;have hlc:m*size<=cap*size:=Nat.mul_le_mul_right _ hc;have hlen:cur.toList.length=cap*size:=by simpa using hs
  refine⟨(cur.toList.take (m*size)).drop (n*size),by rw[List.length_drop,List.length_take,hlen,Nat.min_eq_left hlc,Nat.sub_mul],?_,.inr ⟨g,cap,cur,rfl,hb,hh,hc,hcm,hs,?_⟩⟩
  ·rw[List.length_append,h1,List.length_drop,List.length_take,hlen,Nat.min_eq_left hlc];omega
  ·rw[<-ht];have:cur.toList.take (n*size)=(cur.toList.take (m*size)).take (n*size):=by rw[List.take_take,Nat.min_eq_left hle]
   rw[this,List.take_append_drop]
theorem zAF:∀ (vs xs:List Value) (o i:Nat),o+vs.length<=i->(setL xs o vs)[i]?=xs[i]?
 | [],_,_,_,_=>rfl
 | v::r,xs,o,i,h=>by
  rw[setL,zAF r _ _ _ (by simp at h;omega),List.getElem?_set_ne (by simp at h;omega)]
theorem nH (vs xs:List Value) (o:Nat) (h:o+vs.length<=xs.length):setL xs o vs=xs.take o++vs++xs.drop (o+vs.length):=by
 apply List.ext_getElem?;intro i;rcases Nat.lt_or_ge i o with h1|h1
 ·rw[vO _ _ _ _ h1,List.append_assoc,List.getElem?_append_left (by rw[List.length_take];omega),List.getElem?_take,if_pos h1]
 ·rcases Nat.lt_or_ge i (o+vs.length) with h2|h2
  ·rw[zAx _ _ _ _ h1 h2 (by omega),List.append_assoc,List.getElem?_append_right (by rw[List.length_take];omega),List.length_take,Nat.min_eq_left (by omega),List.getElem?_append_left (by omega)]
  ·rw[zAF _ _ _ _ h2,List.getElem?_append_right (by rw[List.length_append,List.length_take];omega),List.length_append,List.length_take,Nat.min_eq_left (by omega),List.getElem?_drop,show o+vs.length+(i-(o+vs.length))=i by omega]
end
section
open Go.RowKit Go.Joins
attribute [local go_sem ↓] Go.wp_at_zero Go.wp_at_succ
abbrev zrow:Value:=.agg #[.string ⟨#[]⟩,.string ⟨#[]⟩]
theorem oE:(Tryz.prog.info? 165).map (fun i=>(i.zero,i.size,i.bytes))=some (some zrow,2,32):=by kernel_rfl
theorem zF0 (n:Nat):∀ u∈(Builtin.zeroCells zrow.cells n).toList,u.oneCell'=true:=by
 intro u hu;simp[Builtin.zeroCells,Value.cells] at hu;obtain⟨i,_,rfl⟩:=hu;rcases Nat.mod_two_eq_zero_or_one i with e|e<;>rw[e]<;>rfl
theorem zIM (xs:List Value) (i n:Nat) (hx:xs.length=n*2) (hi:i<n) (zs:List Value):((setL (setL xs (i*2) (xs.drop ((i+1)*2))) ((n-1)*2) zs).take ((n-1)*2))=xs.take (i*2)++xs.drop ((i+1)*2):=by
 rw[tN,nH _ _ _ (by rw[List.length_drop];omega),List.take_append_of_le_length (by rw[List.length_append,List.length_take,List.length_drop];omega)];exact List.take_of_length_le (by rw[List.length_append,List.length_take,List.length_drop];omega)
theorem zJd (B g cap i n:Nat) (xs:List Value) (w:World) (ho:w.ownsRow B 165 2 (.slice (some ⟨g,0,none⟩) n cap) n xs) (h1:∀ u∈xs,u.oneCell'=true) (hi:i<n) (hn:n<=1000000) (hcap:n<=cap) (hc63:cap<=9223372036854775807):
  Calls p_ 225 #[.slice (some ⟨g,0,none⟩) n cap,.int .i64 i,.int .i64 ((i+1:Nat):Int)] w fun e w'=>
   e=.returned (.slice (some ⟨g,0,none⟩) (n-1) cap)/\w'.ownsRow B 165 2 (.slice (some ⟨g,0,none⟩) (n-1) cap) (n-1) (xs.take (i*2)++xs.drop ((i+1)*2))/\w.grownBy w' (some g):=by
 obtain⟨i0,hi0,hz0,hz1,hz2⟩:=info_parts oE;have hxl:xs.length=n*2:=ho.1;obtain⟨m,hm⟩:∃ m,n=i+1+m:=⟨n-(i+1),by omega⟩;obtain⟨K,hK⟩:∃ K,K=i+1:=⟨_,rfl⟩;rw[<-hK];obtain⟨news,hnews⟩:∃ news,news=xs.drop (K*2):=⟨_,rfl⟩;have hlen:news.length=m*2:=by rw[hnews,List.length_drop,hxl];omega
 have hdr:w.drew.ownsRow B 165 2 (.slice (some ⟨g,0,none⟩) n cap) n xs:=ho;obtain⟨A,hA,hsrc⟩:∃ A:Addr,(if cap=K then some (⟨g,0,none⟩:Addr) else some ⟨g,K*2,none⟩)=some A/\Hid (∀ t u,news[t]?=some u->w.drew.cell? (A.add t)=some u):=by
  by_cases h:cap=K
  ·refine⟨⟨g,0,none⟩,by simp[h],fun t u hu=>?_⟩;have h0:news.length=0:=by omega
   rw[List.length_eq_zero_iff.1 h0] at hu;simp at hu
  ·refine⟨⟨g,K*2,none⟩,by simp[h],fun t u hu=>?_⟩;have ht:t<m*2:=by
    have:=(List.getElem?_eq_some_iff.1 hu).1;omega
   rw[Addr.add_lit,hdr.cellAt (K*2+t) (by omega),<-hu,hnews,List.getElem?_drop]
 have s2:Hid (∀ u∈news,u.oneCell'=true):=fun u hu=>h1 u (by rw[hnews] at hu;exact List.mem_of_mem_drop hu);have s3:Hid (∀ t,t<news.length->(w.drew.cell? ⟨g,0+i*2+t,none⟩).isSome=true/\w.drew.frozen? ⟨g,0+i*2+t,none⟩=false):=fun t ht=>by
  have:=cS hdr (i*2+t) (by omega);simpa using this
 obtain⟨W1,hW1⟩:∃ W1,W1=w.drew.setCells g (0+i*2) news:=⟨_,rfl⟩;have hW1':=hW1;simp only[Nat.zero_add] at hW1';have r1:=cT news (i*2) w.drew xs hdr;rw[<-hW1'] at r1;have hzv:∀ w,(zeroValue 165).run p_ w=.ok zrow w:=Tryz.zeroValue165;have hz2':zrow.cells.size=2:=rfl;have hq:i+m=n-1:=by omega
 have hcl:∀ ty,(Builtin.clear_ #[32] ty #[.slice (some ⟨g,(i+m)*2,none⟩) 1 (cap-(i+m))]).run p_ W1=.ok (.tuple #[]) (W1.setCells g ((i+m)*2) (Builtin.zeroCells zrow.cells 1).toList):=
  fun ty=>qG W1 _ _ ty _ Tryz.underlying32 hzv g ((i+m)*2) _ _ (by omega) (zF0 _) (fun j hj=>by rw[hz2'] at hj;exact(cS r1.1 ((i+m)*2+j) (by omega)).1) (fun j hj=>by rw[hz2'] at hj;exact(cS r1.1 ((i+m)*2+j) (by omega)).2)
 have r2:=cT (Builtin.zeroCells zrow.cells 1).toList ((i+m)*2) W1 _ r1.1;have r3:=rT r2.1 (m:=i+m) (by omega);rw[hnews,hK,hq,zIM xs i n hxl hi _] at r3;rw[<-hq] at r3;have R3:=hide r3;have R4:Hid (w.grownBy (W1.setCells g ((i+m)*2) (Builtin.zeroCells zrow.cells 1).toList) (some g)):=(show w.grownBy W1 (some g) from ⟨r1.2.os,r1.2.tape,r1.2.output,r1.2.size,r1.2.block⟩).trans r2.2;rw[<-hq];generalize hW2:W1.setCells g ((i+m)*2) (Builtin.zeroCells zrow.cells 1).toList=W2 at hcl R3 R4;have HL:=hide hlen;have HW:Hid (W1=w.drew.setCells g (0+i*2) news):=hW1;have HK:=hide hK;have HM:=hide hm;have k0:(0:Int)<=(i:Int):=Int.natCast_nonneg _;have k1:(i:Int)<=(K:Int):=by omega
 have k2:(K:Int)<=(n:Int):=by omega
 have k3:¬(i:Int)=(K:Int):=by omega
 have k4:¬cap=i+m:=by omega
 have k5:(n:Int)<=(cap:Int):=by omega
 have k6:i<=cap:=by omega
 have k7:K<=cap:=by omega
 have k8:n-(i+m)=1:=by omega
 have k9:(i:Int)+(m:Int)<=(n:Int):=by omega
 have k10:n-K=m:=by omega
 have k11:(K:Int)<=(cap:Int):=by omega
 have k12:(i:Int)<=(cap:Int):=by omega
 have k13:i+m<=cap:=by omega
 clear hnews hlen hdr hW1 hW1' r1 r2 r3 ho h1 hxl hW2 hz2' hK hm hq hi;go_enter Tryz.func225,Tryz.ntmps225;go_wp2_with fail
 go_region_law (refine step_append_room rfl (.tmp 22) (.tmp 25) 32 rfl 165 i0 2 Tryz.underlying32 hi0 hz1 g 0 i cap (by simp[Act.eval,Act.put]) A m (cap-K) news (by simp[Act.eval,Act.put, *]) HL.out hsrc.out s2.out (by omega) s3.out ?_;rw[<-HW.out])
 go_wp2;go_ret;exact⟨rfl,by rw[HK.out] at *;exact R3.out,R4.out⟩
def lN (w w':World) (e:Ending) (B:Nat) (v:Value) (n:Nat) (ys:List Value):Prop:=∃ v',e=.returned v'/\w'.ownsRow B 165 2 v' n ys/\w.grownBy w' v.ownBlock
theorem vP {w:World} {vb:Nat} {k u:ByteArray} (h0:w.cell? ⟨vb,0,none⟩=some (.string k)) (h1:w.cell? ⟨vb,1,none⟩=some (.string u)):∀ j x,[v_ k,v_ u][j]?=some x->w.cell? ((⟨vb,0,none⟩:Addr).add j)=some x:=fun j x hj=>by
 match j with
 | 0=>simp at hj;subst hj;exact h0
 | 1=>simp at hj;subst hj;exact h1
 | j+2=>simp at hj
theorem sB (k u:ByteArray):∀ x∈[v_ k,v_ u],x.oneCell'=true:=by
 intro x hx;simp at hx;rcases hx with rfl|rfl<;>rfl
theorem yY (B:Nat) (v:Value) (n:Nat) (xs:List Value) (w:World) (ho:w.ownsRow B 165 2 v n xs) (hB:B<=w.heap.size) (vb vc:Nat) (k u:ByteArray) (h0:w.cell? ⟨vb,0,none⟩=some (.string k)) (h1:w.cell? ⟨vb,1,none⟩=some (.string u)) (hn:n<=1000000):
  ∃ v' w',(∀ ty,(Builtin.append_ #[32,32] ty #[v,.slice (some ⟨vb,0,none⟩) 1 vc]).run p_ w=.ok v' w')/\w'.ownsRow B 165 2 v' (n+1) (xs++[.string k,.string u])/\w.grownBy w' v.ownBlock:=by
 obtain⟨i0,hi0,hz0,hz1,hz2⟩:=info_parts oE;obtain⟨v',w',hr,ho',hg,_⟩:=run_append_own (P:=p_) (w:=w) B 32 0 165 i0 _ 2 32 Tryz.underlying32 hi0 hz0 hz1 hz2 rfl (by omega) v n xs ho ⟨vb,0,none⟩ 1 vc [.string k,.string u] rfl (vP h0 h1) (sB k u) (by unfold maxLen;omega) (by omega) hB;exact⟨v',w',fun ty=>hr,ho',hg⟩
theorem zB0 (B:Nat) (v:Value) (n vb vc:Nat) (k u:ByteArray) (xs:List Value) (w:World) (ho:w.ownsRow B 165 2 v n xs) (hB:B<=w.heap.size) (h0:w.cell? ⟨vb,0,none⟩=some (.string k)) (h1:w.cell? ⟨vb,1,none⟩=some (.string u)) (hn:n<=1000000):
  Calls p_ 265 #[v,.int .i64 n,.slice (some ⟨vb,0,none⟩) 1 vc] w fun e w'=>lN w w' e B v (n+1) (xs++[.string k,.string u]):=by
 obtain⟨v',w',hr,ho',hg⟩:=yY B v n xs w ho hB vb vc k u h0 h1 hn;have HO:=hide ho';have HG:=hide hg;rcases aX ho with⟨rfl,rfl⟩|⟨g,cap,rfl,_,_,hc,hm⟩
 ·clear ho ho' hg h0 h1;go_enter Tryz.func265,Tryz.ntmps265;go_wp2_with (at_builtin;refine Lib.wpList_append_run _ rfl _ _ _ _ rfl _ _ rfl rfl _ _ (hr _) ?_)
  go_ret;exact⟨v',rfl,HO.out,HG.out⟩
 ·clear ho ho' hg h0 h1;have hc':(n:Int)<=(cap:Int):=by omega
  unfold maxLen at hm;go_enter Tryz.func265,Tryz.ntmps265;go_wp2_with (at_builtin;refine Lib.wpList_append_run _ rfl _ _ _ _ rfl _ _ rfl rfl _ _ (hr _) ?_)
  all_goals
   go_ret;exact⟨v',rfl,HO.out,HG.out⟩
theorem zEh (xs ys vs:List Value) (i n:Nat) (hx:xs.length=n*2) (hy:ys.length=2) (hv:vs.length=2) (hi:i<n):setL (setL (xs++ys) ((i+1)*2) (xs.drop (i*2))) (i*2) vs=xs.take (i*2)++(vs++xs.drop (i*2)):=by
 have e1:setL (xs++ys) ((i+1)*2) (xs.drop (i*2))=(xs++ys).take ((i+1)*2)++xs.drop (i*2):=by
  have e:(xs++ys).drop ((i+1)*2+(xs.drop (i*2)).length)=[]:=List.drop_eq_nil_of_le (by rw[List.length_append,List.length_drop];omega);rw[nH _ _ _ (by rw[List.length_drop,List.length_append];omega),e,List.append_nil]
 have e0:(xs++ys).take ((i+1)*2)=xs.take ((i+1)*2):=List.take_append_of_le_length (by omega);rw[e1,e0,nH _ _ _ (by rw[List.length_append,List.length_take,List.length_drop];omega),hv,List.take_append_of_le_length (by rw[List.length_take];omega),List.take_take,Nat.min_eq_left (by omega),show i*2+2=(i+1)*2 by omega,List.drop_left' (by rw[List.length_take];omega),List.append_assoc]
theorem zFY (xs zs vs:List Value) (i n:Nat) (hx:xs.length=n*2) (hz:zs.length=(n+1-i)*2) (hv:vs.length=2) (hi:i<n):setL (setL (xs.take (i*2)++zs) (i*2) vs) ((i+1)*2) (xs.drop (i*2))=xs.take (i*2)++(vs++xs.drop (i*2)):=by
 have hT:(xs.take (i*2)).length=i*2:=by rw[List.length_take];omega
 have e1:setL (xs.take (i*2)++zs) (i*2) vs=xs.take (i*2)++vs++zs.drop 2:=by
  rw[nH _ _ _ (by rw[List.length_append];omega),List.take_left' hT,List.drop_append,hT,hv,List.drop_eq_nil_of_le (by omega),List.nil_append,show i*2+2-i*2=2 by omega]
 have e2:(xs.take (i*2)++vs++zs.drop 2).drop ((i+1)*2+(xs.drop (i*2)).length)=[]:=List.drop_eq_nil_of_le (by simp only[List.length_append,List.length_drop,hT,hv];omega);rw[e1,nH _ _ _ (by simp only[List.length_append,List.length_drop,hT,hv];omega),List.take_left' (by rw[List.length_append,hT,hv];omega),e2,List.append_nil,List.append_assoc]
theorem yE (B g cap i n vb vc:Nat) (k u:ByteArray) (xs:List Value) (w:World) (ho:w.ownsRow B 165 2 (.slice (some ⟨g,0,none⟩) n cap) n xs) (hone:∀ x∈xs,x.oneCell'=true) (h0:w.cell? ⟨vb,0,none⟩=some (.string k)) (h1:w.cell? ⟨vb,1,none⟩=some (.string u))
  (hvb:vb≠g) (tA:TypeId) (kA:Nat) (hsa:w.shape? vb=some (tA,kA)) (hfa:∀ j,w.frozen? ⟨vb,j,none⟩=false) (hi:i<n) (hn:n<=1000000) (hroom:n+1<=cap) (hc63:cap<=9223372036854775807):
  Calls p_ 265 #[.slice (some ⟨g,0,none⟩) n cap,.int .i64 i,.slice (some ⟨vb,0,none⟩) 1 vc] w fun e w'=>lN w w' e B (.slice (some ⟨g,0,none⟩) n cap) (n+1) (xs.take (i*2)++([.string k,.string u]++xs.drop (i*2))):=by
 have hxl:xs.length=n*2:=ho.1;obtain⟨ys,hyl,hw⟩:=zIG ho (m:=n+1) (by omega) hroom;rw[show n+1-n=1 by omega,Nat.one_mul] at hyl;obtain⟨J,hJ⟩:∃ J,J=i+1:=⟨_,rfl⟩;have hsz:(Tryz.prog.info? 165).map (·.size)=some 2:=by
  obtain⟨i0,hi0,_,hz1,_⟩:=info_parts oE;rw[hi0];simp[hz1]
 obtain⟨cur,hcur,hcs⟩:∃ cur,w.heap[g]?=some (.cells cur 165 (0,0))/\cur.size=cap*2:=by
  rcases ho.2 with⟨e,_⟩|⟨g',cap',cur,e,_,hh,_,_,hs,_⟩
  ·cases e
  ·cases e;exact⟨cur,hh,hs⟩
 have hsb:w.shape? g=some (165,cap*2):=by simp[World.shape?,hcur,hcs]
 have hov:∀ lb cb,(callFunc 266 #[.slice (some ⟨vb,0,none⟩) 1 vc,.slice (some ⟨g,J*2,none⟩) lb cb]).run p_ w=.ok (.value (.bool false)) w:=fun lb cb=>by
  rw[run_callFunc_extern Tryz.func266 (by kernel_rfl) (by kernel_rfl) (by kernel_rfl) (e:=Extern.SlicesOverlaps.overlaps #[32,32] #[4]) (by kernel_rfl),
   Lib.run_overlaps_apart w 32 4 165 Tryz.underlying32 2 Tryz.sizeOf165 ⟨vb,0,none⟩ ⟨g,J*2,none⟩ 1 vc lb cb hvb tA 165 kA (cap*2) hsa hsb (by omega) (hfa 0) (hfa kA)]
  rfl
 have hdl:(xs.drop (i*2)).length=(n-i)*2:=by rw[List.length_drop,hxl];omega
 have hwd:w.drew.ownsRow B 165 2 (.slice (some ⟨g,0,none⟩) (n+1) cap) (n+1) (xs++ys):=hw;obtain⟨mv,hmv⟩:∃ mv,mv=xs.drop (i*2):=⟨_,rfl⟩;rw[<-hmv] at hdl;have hcp1:∀ ty dc sc,(Builtin.copy_ #[32,32] ty #[.slice (some ⟨g,J*2,none⟩) (n+1-J) dc,.slice (some ⟨g,i*2,none⟩) (n+1-i) sc]).run p_ w.drew=.ok (goInt (Nat.min (n+1-i) (n+1-J))) (w.drew.setCells g (J*2) mv):=fun ty dc sc=>
  kY w.drew _ _ ty 165 2 g (J*2) (n+1-J) dc ⟨g,i*2,none⟩ (n+1-i) sc mv Tryz.underlying32 hsz (by rw[hdl];congr 1;simp only[Nat.min_def];split<;>omega)
   (fun j x hj=>by
    have hjl:j<mv.length:=(List.getElem?_eq_some_iff.1 hj).1;rw[Addr.add_lit,hwd.cellAt (i*2+j) (by omega),List.getElem?_append_left (by omega)];rw[hmv,List.getElem?_drop] at hj;exact hj)
   (fun j hj=>(cS hwd (J*2+j) (by omega)).1) (fun j hj=>(cS hwd (J*2+j) (by omega)).2) (fun x hx=>hone x (by rw[hmv] at hx;exact List.mem_of_mem_drop hx))
 obtain⟨W1,hW1⟩:∃ W1,W1=w.drew.setCells g (J*2) mv:=⟨_,rfl⟩;have r1:=cT mv (J*2) w.drew _ hwd;rw[<-hW1] at r1 hcp1;obtain⟨W2,hW2⟩:∃ W2,W2=W1.setCells g (i*2) [.string k,.string u]:=⟨_,rfl⟩;have r2:=cT [.string k,.string u] (i*2) W1 _ r1.1;rw[<-hW2] at r2;have hcp2:∀ ty dc,(Builtin.copy_ #[32,32] ty #[.slice (some ⟨g,i*2,none⟩) (n+1-i) dc,.slice (some ⟨vb,0,none⟩) 1 vc]).run p_ W1=.ok (goInt (Nat.min 1 (n+1-i))) W2:=fun ty dc=>by
  rw[hW2];exact kY W1 _ _ ty 165 2 g (i*2) (n+1-i) dc ⟨vb,0,none⟩ 1 vc _ Tryz.underlying32 hsz (by rw[show Nat.min 1 (n+1-i)=1 by simp only[Nat.min_def];split<;>omega];rfl)
   (fun j x hj=>by
    have:=vP h0 h1 j x hj;rw[Addr.add_lit] at this ⊢;rw[hW1,World.cell?_setCells_out g _ _ _ _ (fun h _=>absurd h hvb)];exact this)
   (fun j hj=>(cS r1.1 (i*2+j) (by simp at hj;omega)).1) (fun j hj=>(cS r1.1 (i*2+j) (by simp at hj;omega)).2) (sB k u)
 have R:Hid (W2.ownsRow B 165 2 (.slice (some ⟨g,0,none⟩) (n+1) cap) (n+1) (xs.take (i*2)++([.string k,.string u]++xs.drop (i*2)))):=by
  have:=r2.1;rw[hmv,hJ,zEh xs ys _ i n hxl hyl rfl hi] at this;exact this
 have RG:Hid (w.grownBy W2 (some g)):=(show w.grownBy W1 (some g) from ⟨r1.2.os,r1.2.tape,r1.2.output,r1.2.size,r1.2.block⟩).trans r2.2;have z2:¬((i:Int)=(n:Int)):=by omega
 have k0:(i:Int)+1=(J:Int):=by omega
 have k1:IntKind.i64.wrap ((i:Int)+1)=(J:Int):=by rw[k0,IntKind.wrap_i64];omega
 have k1':IntKind.i64.wrap (J:Int)=(J:Int):=by rw[IntKind.wrap_i64];omega
 have k2:(0:Int)<=(J:Int):=Int.natCast_nonneg _;have k3:(J:Int)<=(n:Int)+1:=by omega
 have k4:(i:Int)<=(n:Int):=by omega
 have k5:(i:Int)<=(n:Int)+1:=by omega
 have k6:¬cap=i:=by omega
 have k7:¬cap=J:=by omega
 have k8:¬(cap:Int)<(n:Int)+1:=by omega
 have k9:(n:Int)+1<=(cap:Int):=by omega
 have k10:i<=n:=by omega
 have k11:J<=n+1:=by omega
 have k12:n+1<=cap:=hroom;have HH1:=hide hW1;clear ho hone h0 h1 hw hwd r1 r2 hW1 hW2 hmv hdl hxl hyl hJ hsa hsb hfa hcur hcs;go_enter Tryz.func265,Tryz.ntmps265;go_wp2_with (simp only[hov])
 go_region_law (refine step_copy_runI rfl _ _ 32 32 rfl _ _ (by simp[Act.eval,Act.put]) (by simp[Act.eval,Act.put]) (hcp1 _ _ _) ?_)
 go_wp2_with (at_builtin;refine wpList_copy_runI _ rfl _ _ 32 32 rfl _ _ rfl rfl (hcp2 _ _) ?_)
 go_ret;exact⟨_,rfl,R.out,RG.out⟩
theorem zAQ (B g cap i n vb vc:Nat) (k u:ByteArray) (xs:List Value) (w:World) (ho:w.ownsRow B 165 2 (.slice (some ⟨g,0,none⟩) n cap) n xs) (hB:B<=w.heap.size) (hone:∀ x∈xs,x.oneCell'=true) (h0:w.cell? ⟨vb,0,none⟩=some (.string k)) (h1:w.cell? ⟨vb,1,none⟩=some (.string u))
  (hi:i<n) (hn:n<=1000000) (hnc:n<=cap) (hroom:cap<n+1):
  Calls p_ 265 #[.slice (some ⟨g,0,none⟩) n cap,.int .i64 i,.slice (some ⟨vb,0,none⟩) 1 vc] w fun e w'=>lN w w' e B (.slice (some ⟨g,0,none⟩) n cap) (n+1) (xs.take (i*2)++([.string k,.string u]++xs.drop (i*2))):=by
 obtain⟨i0,hi0,hz0,hz1,hz2⟩:=info_parts oE;have hxl:xs.length=n*2:=ho.1;have hgw:g<w.heap.size:=(l_ ho g rfl).2;have hvw:vb<w.heap.size:=World.block_lt_of_cell? _ _ h0;obtain⟨J,hJ⟩:∃ J,J=i+1:=⟨_,rfl⟩;have hsz:(Tryz.prog.info? 165).map (·.size)=some 2:=by rw[hi0];simp[hz1]
 have hold:(Builtin.firstCells i0.size i (.slice (some ⟨g,0,none⟩) i cap)).run p_ w.drew=.ok (xs.take (i*2)).toArray w.drew:=by
  rw[hz1];exact run_firstCells_some w.drew 2 i ⟨g,0,none⟩ i cap (xs.take (i*2)) (by rw[List.length_take];omega) (fun j x hj=>by
   have hjl:j<(xs.take (i*2)).length:=(List.getElem?_eq_some_iff.1 hj).1;rw[List.length_take] at hjl;rw[Addr.add_lit,Nat.zero_add];rw[List.getElem?_take,if_pos (by omega)] at hj;show w.cell? _=_;rw[ho.cellAt j (by omega)];exact hj)
 have hrz:∀ ty,(Builtin.append_ #[32,3] ty #[.slice (some ⟨g,0,none⟩) i cap,.int .i64 ((n:Int)+1-(i:Int))]).run p_ w =
   .ok (.slice (some ⟨w.heap.size,0,none⟩) (n+1) (grownCap w (n+1) cap 165)) (w.drew.alloc (.cells ((xs.take (i*2)).toArray++Builtin.zeroCells zrow.cells (n+1-i)++Builtin.zeroCells zrow.cells (grownCap w (n+1) cap 165-(n+1))) 165)):=fun ty=>by
  have h:=Lib.run_append_grow_zeros (P:=p_) w 32 3 ty 165 i0 _ .i64 .i64 Tryz.underlying32 Tryz.underlying3 hi0 hz0 (some ⟨g,0,none⟩) i cap (xs.take (i*2)) hold (n+1-i) (by omega) (by omega) (by omega) (by omega) (by rw[hz2];omega) (by rw[hz2,show i+(n+1-i)=n+1 by omega];exact growslice_fits hroom (by omega));rw[show i+(n+1-i)=n+1 by omega] at h;rw[show(n:Int)+1-(i:Int)=((n+1-i:Nat):Int) by omega];exact h
 have hG:=grownCap_ge w (n+1) cap 165;have hM:=grownCap_le_maxLen w (n+1) cap 165 (by unfold maxLen;omega);generalize grownCap w (n+1) cap 165=G at hrz hG hM;have hzl:∀ q,(Builtin.zeroCells zrow.cells q).toList.length=q*2:=fun q=>by rw[Array.length_toList,size_zeroCells];rfl
 have hold2:(w.drew.alloc (.cells ((xs.take (i*2)).toArray++Builtin.zeroCells zrow.cells (n+1-i)++Builtin.zeroCells zrow.cells (G-(n+1))) 165)).ownsRow B 165 2 (.slice (some ⟨w.heap.size,0,none⟩) (n+1) G) (n+1) (xs.take (i*2)++(Builtin.zeroCells zrow.cells (n+1-i)).toList):=by
  refine⟨by rw[List.length_append,hzl,List.length_take];omega,.inr ⟨w.heap.size,G,_,rfl,hB,heap_alloc_new w.drew _,hG,hM,?_,?_⟩⟩
  ·simp only[Array.size_append,size_zeroCells,List.size_toArray,List.length_take];have:zrow.cells.size=2:=rfl;rw[this];omega
  ·rw[Array.toList_append,Array.toList_append,List.take_left' (by rw[List.length_append,hzl];simp only[List.length_take];omega)]
 generalize hW1:w.drew.alloc (.cells ((xs.take (i*2)).toArray++Builtin.zeroCells zrow.cells (n+1-i)++Builtin.zeroCells zrow.cells (G-(n+1))) 165)=W1 at hrz hold2;have hb1:w.grownBy W1 none:=by
  rw[<-hW1];exact⟨rfl,rfl,rfl,by simp,fun q hq _=>Below.heap_alloc w.drew _ q hq⟩
 have c1:∀ a v,w.cell? a=some v->W1.cell? a=some v:=fun a v h=>hb1.cell h (by simp);obtain⟨W2,hW2⟩:∃ W2,W2=W1.setCells w.heap.size (i*2) [.string k,.string u]:=⟨_,rfl⟩;have r2:=cT [.string k,.string u] (i*2) W1 _ hold2;rw[<-hW2] at r2;have hcpA:∀ ty dc,(Builtin.copy_ #[32,32] ty #[.slice (some ⟨w.heap.size,i*2,none⟩) (n+1-i) dc,.slice (some ⟨vb,0,none⟩) 1 vc]).run p_ W1=.ok (goInt (Nat.min 1 (n+1-i))) W2:=fun ty dc=>by
  rw[hW2];exact kY W1 _ _ ty 165 2 w.heap.size (i*2) (n+1-i) dc ⟨vb,0,none⟩ 1 vc _ Tryz.underlying32 hsz (by rw[show Nat.min 1 (n+1-i)=1 by simp only[Nat.min_def];split<;>omega];rfl)
   (fun j x hj=>c1 _ _ (vP h0 h1 j x hj))
   (fun j hj=>(cS hold2 (i*2+j) (by simp at hj;omega)).1) (fun j hj=>(cS hold2 (i*2+j) (by simp at hj;omega)).2) (sB k u)
 have hdl:(xs.drop (i*2)).length=(n-i)*2:=by rw[List.length_drop,hxl];omega
 obtain⟨mv,hmv⟩:∃ mv,mv=xs.drop (i*2):=⟨_,rfl⟩;rw[<-hmv] at hdl;obtain⟨W3,hW3⟩:∃ W3,W3=W2.drew.setCells w.heap.size (J*2) mv:=⟨_,rfl⟩;have r2d:W2.drew.ownsRow B 165 2 (.slice (some ⟨w.heap.size,0,none⟩) (n+1) G) (n+1) (setL (xs.take (i*2)++(Builtin.zeroCells zrow.cells (n+1-i)).toList) (i*2) [.string k,.string u]):=r2.1;have r3:=cT mv (J*2) W2.drew _ r2d;rw[<-hW3] at r3;have hcpB:∀ ty dc sc,(Builtin.copy_ #[32,32] ty #[.slice (some ⟨w.heap.size,J*2,none⟩) (n+1-J) dc,.slice (some ⟨g,i*2,none⟩) (n-i) sc]).run p_ W2.drew=.ok (goInt (Nat.min (n-i) (n+1-J))) W3:=fun ty dc sc=>by
  rw[hW3];exact kY W2.drew _ _ ty 165 2 w.heap.size (J*2) (n+1-J) dc ⟨g,i*2,none⟩ (n-i) sc mv Tryz.underlying32 hsz (by rw[hdl];congr 1;simp only[Nat.min_def];split<;>omega)
   (fun j x hj=>by
    have hjl:j<mv.length:=(List.getElem?_eq_some_iff.1 hj).1;rw[hmv,List.getElem?_drop] at hj;rw[Addr.add_lit];show W2.cell? _=_;rw[hW2,World.cell?_setCells_out _ _ _ _ _ (fun h _=>by have:g=w.heap.size:=h;omega)];refine c1 _ _ ?_;rw[ho.cellAt (i*2+j) (by omega)];exact hj)
   (fun j hj=>(cS r2d (J*2+j) (by omega)).1) (fun j hj=>(cS r2d (J*2+j) (by omega)).2) (fun x hx=>hone x (by rw[hmv] at hx;exact List.mem_of_mem_drop hx))
 have R:Hid (W3.ownsRow B 165 2 (.slice (some ⟨w.heap.size,0,none⟩) (n+1) G) (n+1) (xs.take (i*2)++([.string k,.string u]++xs.drop (i*2)))):=by
  have:=r3.1;rw[hmv,hJ,zFY xs _ _ i n hxl (hzl _) rfl hi] at this;exact this
 have RG:Hid (w.grownBy W3 (some g)):=by
  have e2:W1.grownBy W2 (some w.heap.size):=r2.2;have e3:W2.grownBy W3 (some w.heap.size):=⟨r3.2.os,r3.2.tape,r3.2.output,r3.2.size,r3.2.block⟩;refine⟨(e3.os.trans e2.os).trans hb1.os,(e3.tape.trans e2.tape).trans hb1.tape,(e3.output.trans e2.output).trans hb1.output,Nat.le_trans hb1.size (Nat.le_trans e2.size e3.size),fun q hq _=>?_⟩;have hqn:some q≠some w.heap.size:=fun e=>by cases e;omega
  exact(e3.block q (Nat.lt_of_lt_of_le hq (Nat.le_trans hb1.size e2.size)) hqn).trans ((e2.block q (Nat.lt_of_lt_of_le hq hb1.size) hqn).trans (hb1.block q hq (by simp)))
 have z2:¬((i:Int)=(n:Int)):=by omega
 have z3:(cap:Int)<(n:Int)+1:=by omega
 have k0:(i:Int)+1=(J:Int):=by omega
 have k1:IntKind.i64.wrap ((i:Int)+1)=(J:Int):=by rw[k0,IntKind.wrap_i64];omega
 have k1':IntKind.i64.wrap (J:Int)=(J:Int):=by rw[IntKind.wrap_i64];omega
 have k2:(0:Int)<=(J:Int):=Int.natCast_nonneg _;have k3:(J:Int)<=(n:Int)+1:=by omega
 have k4:(i:Int)<=(n:Int):=by omega
 have k5:(i:Int)<=(n:Int)+1:=by omega
 have k6:¬cap=i:=by omega
 have k7:¬G=J:=by omega
 have k8:¬G=i:=by omega
 have hG63:G<=9223372036854775807:=by unfold maxLen at hM;omega
 have k9:(n:Int)+1<=(G:Int):=by omega
 have k10:i<=n:=by omega
 have k11:J<=n+1:=by omega
 have k12:(i:Int)<=(cap:Int):=by omega
 clear ho hone h0 h1 hold hold2 hb1 c1 r2 r2d r3 hW1 hW2 hW3 hmv hdl hxl hJ hzl hM hi0 hz0 hz1 hz2;go_enter Tryz.func265,Tryz.ntmps265;go_wp2_with (first
  | (at_builtin;refine Lib.wpList_append_run _ rfl _ _ _ _ rfl _ _ rfl rfl _ _ (hrz _) ?_)
  | (at_builtin;refine wpList_copy_runI _ rfl _ _ 32 32 rfl _ _ rfl rfl (hcpA _ _) ?_))
 go_region_law (refine step_copy_runI rfl _ _ 32 32 rfl _ _ (by simp[Act.eval,Act.put]) (by simp[Act.eval,Act.put]) (hcpB _ _ _) ?_)
 go_wp2;go_ret;exact⟨_,rfl,R.out,RG.out⟩
theorem zI9 (B i n vb vc:Nat) (v:Value) (k u:ByteArray) (xs:List Value) (w:World) (ho:w.ownsRow B 165 2 v n xs) (hB:B<=w.heap.size) (hone:∀ x∈xs,x.oneCell'=true) (h0:w.cell? ⟨vb,0,none⟩=some (.string k)) (h1:w.cell? ⟨vb,1,none⟩=some (.string u))
  (hvb:v.ownBlock≠some vb) (tA:TypeId) (kA:Nat) (hsa:w.shape? vb=some (tA,kA)) (hfa:∀ j,w.frozen? ⟨vb,j,none⟩=false) (hi:i<=n) (hn:n<=1000000):
  Calls p_ 265 #[v,.int .i64 i,.slice (some ⟨vb,0,none⟩) 1 vc] w fun e w'=>lN w w' e B v (n+1) (xs.take (i*2)++([.string k,.string u]++xs.drop (i*2))):=by
 have hxl:xs.length=n*2:=ho.1;rcases Nat.eq_or_lt_of_le hi with rfl|hlt
 ·rw[List.take_of_length_le (by omega),List.drop_eq_nil_of_le (by omega),List.append_nil];exact zB0 B v i vb vc k u xs w ho hB h0 h1 hn
 ·rcases aX ho with⟨rfl,rfl⟩|⟨g,cap,rfl,_,_,hc,hm⟩
  ·omega
  ·rcases Nat.lt_or_ge cap (n+1) with hr|hr
   ·exact zAQ B g cap i n vb vc k u xs w ho hB hone h0 h1 hlt hn hc hr
   ·exact yE B g cap i n vb vc k u xs w ho hone h0 h1 (fun e=>hvb (by rw[e];rfl)) tA kA hsa hfa hlt hn hr (by unfold maxLen at hm;omega)
theorem sS {w W:World} {B:Nat} {e:TypeId} {size:Nat} {v:Value} {n:Nat} {xs:List Value} (h:W.heap=w.heap) (ho:w.ownsRow B e size v n xs):W.ownsRow B e size v n xs:=aI ho fun k _=>by rw[h]
theorem zI6 (xs vs:List Value) (i n:Nat) (hx:xs.length=n*2) (hv:vs.length=2) (hi:i<n):setL (setL xs (i*2) vs) ((i+1)*2) (xs.drop ((i+1)*2))=xs.take (i*2)++(vs++xs.drop ((i+1)*2)):=by
  have e0:i*2+vs.length=(i+1)*2:=by omega
  have e1:setL xs (i*2) vs=xs.take (i*2)++vs++xs.drop ((i+1)*2):=by rw[nH _ _ _ (by omega),e0]
  have hl:(xs.take (i*2)++vs).length=(i+1)*2:=by rw[List.length_append,List.length_take,hv];omega
  have e2:(xs.take (i*2)++vs++xs.drop ((i+1)*2)).drop ((i+1)*2+(xs.drop ((i+1)*2)).length)=[]:=List.drop_eq_nil_of_le (by rw[List.length_append,hl];omega)
  rw[e1,nH _ _ _ (by rw[List.length_append,hl];omega),List.take_left' hl,e2,List.append_nil,List.append_assoc]
theorem yW (B g cap i n vb vc:Nat) (k u:ByteArray) (xs:List Value) (w:World) (ho:w.ownsRow B 165 2 (.slice (some ⟨g,0,none⟩) n cap) n xs) (hB:B<=w.heap.size) (h0:w.cell? ⟨vb,0,none⟩=some (.string k)) (h1:w.cell? ⟨vb,1,none⟩=some (.string u))
    (hi:i+1=n) (hn:n<=1000000) (hnc:n<=cap):
    Calls p_ 226 #[.slice (some ⟨g,0,none⟩) n cap,.int .i64 i,.int .i64 n,.slice (some ⟨vb,0,none⟩) 1 vc] w fun e w'=>lN w w' e B (.slice (some ⟨g,0,none⟩) n cap) n (xs.take (i*2)++([.string k,.string u]++xs.drop ((i+1)*2))):=by
  have hxl:xs.length=n*2:=ho.1
  obtain⟨v',w',hr,ho',hg⟩:=yY B (.slice (some ⟨g,0,none⟩) i cap) i (xs.take (i*2)) w (rT ho (m:=i) (by omega)) hB vb vc k u h0 h1 (by omega)
  have e:xs.drop ((i+1)*2)=[]:=List.drop_eq_nil_of_le (by omega)
  rw[e,List.append_nil]
  obtain⟨va,vcap,rfl⟩:∃ ao c,v'=.slice ao (i+1) c:=by
    rcases aX ho' with⟨hv,h0⟩|⟨g',c',hv,_⟩
    · omega
    · exact⟨_,_,hv⟩
  rw[hi] at ho' hr
  have HO:=hide ho'
  have HG:Hid (w.grownBy w' (some g)):=hg
  have k1:¬(i:Int)=(n:Int):=by omega
  have k2:(i:Int)<=(n:Int):=by omega
  have k3:(n:Int)<=(cap:Int):=by omega
  have k4:(i:Int)<=(cap:Int):=by omega
  have k5:¬(n:Int)<(n:Int):=by omega
  clear ho ho' hg h0 h1 hxl e hi
  go_enter Tryz.func226,Tryz.ntmps226
  go_wp2_with (at_builtin;refine Lib.wpList_append_run _ rfl _ _ _ _ rfl _ _ rfl rfl _ _ (hr _) ?_)
  all_goals
    go_ret
    exact⟨_,rfl,HO.out,HG.out⟩
theorem zAs (B g cap i n vb vc:Nat) (k u:ByteArray) (xs:List Value) (w:World) (ho:w.ownsRow B 165 2 (.slice (some ⟨g,0,none⟩) n cap) n xs) (hone:∀ x∈xs,x.oneCell'=true) (h0:w.cell? ⟨vb,0,none⟩=some (.string k)) (h1:w.cell? ⟨vb,1,none⟩=some (.string u))
    (hi:i+1<n) (hn:n<=1000000) (hnc:n<=cap) (hc63:cap<=9223372036854775807):
    Calls p_ 226 #[.slice (some ⟨g,0,none⟩) n cap,.int .i64 i,.int .i64 ((i+1:Nat):Int),.slice (some ⟨vb,0,none⟩) 1 vc] w fun e w'=>lN w w' e B (.slice (some ⟨g,0,none⟩) n cap) n (xs.take (i*2)++([.string k,.string u]++xs.drop ((i+1)*2))):=by
  have hxl:xs.length=n*2:=ho.1
  obtain⟨J,hJ⟩:∃ J,J=i+1:=⟨_,rfl⟩
  rw[<-hJ]
  have hsz:(Tryz.prog.info? 165).map (·.size)=some 2:=by
    obtain⟨i0,hi0,_,hz1,_⟩:=info_parts oE
    rw[hi0];simp[hz1]
  have hcpA:∀ W:World,W.heap=w.heap->∀ ty dc,(Builtin.copy_ #[32,32] ty #[.slice (some ⟨g,i*2,none⟩) (n-i) dc,.slice (some ⟨vb,0,none⟩) 1 vc]).run p_ W=.ok (goInt (Nat.min 1 (n-i))) (W.setCells g (i*2) [.string k,.string u]):=fun W hW ty dc=>
    kY W _ _ ty 165 2 g (i*2) (n-i) dc ⟨vb,0,none⟩ 1 vc _ Tryz.underlying32 hsz (by rw[show Nat.min 1 (n-i)=1 by simp only[Nat.min_def];split<;>omega];rfl)
      (fun j x hj=>by rw[b_ (w:=w) (by rw[hW])];exact vP h0 h1 j x hj)
      (fun j hj=>(cS (sS hW ho) (i*2+j) (by simp at hj;omega)).1) (fun j hj=>(cS (sS hW ho) (i*2+j) (by simp at hj;omega)).2) (sB k u)
  have hdl:(xs.drop (J*2)).length=(n-J)*2:=by rw[List.length_drop,hxl];omega
  obtain⟨mv,hmv⟩:∃ mv,mv=xs.drop (J*2):=⟨_,rfl⟩
  rw[<-hmv] at hdl
  have hcpB:∀ W2:World,W2.ownsRow B 165 2 (.slice (some ⟨g,0,none⟩) n cap) n (setL xs (i*2) [.string k,.string u])->∀ ty dc sc,(Builtin.copy_ #[32,32] ty #[.slice (some ⟨g,J*2,none⟩) (n-J) dc,.slice (some ⟨g,J*2,none⟩) (n-J) sc]).run p_ W2=.ok (goInt (Nat.min (n-J) (n-J))) (W2.setCells g (J*2) mv):=fun W2 h2 ty dc sc=>
    kY W2 _ _ ty 165 2 g (J*2) (n-J) dc ⟨g,J*2,none⟩ (n-J) sc mv Tryz.underlying32 hsz (by rw[hdl];congr 1;simp only[Nat.min_def];split<;>omega)
      (fun j x hj=>by
        have hjl:j<mv.length:=(List.getElem?_eq_some_iff.1 hj).1
        rw[hmv,List.getElem?_drop] at hj
        rw[Addr.add_lit,h2.cellAt (J*2+j) (by omega),zAF _ _ _ _ (by simp only[List.length_cons,List.length_nil];omega)]
        exact hj)
      (fun j hj=>(cS h2 (J*2+j) (by omega)).1) (fun j hj=>(cS h2 (J*2+j) (by omega)).2) (fun x hx=>hone x (by rw[hmv] at hx;exact List.mem_of_mem_drop hx))
  have hcl:∀ (W:World) ty p c,(Builtin.clear_ #[32] ty #[.slice p 0 c]).run p_ W=.ok (.tuple #[]) W:=fun W ty p c=>by
    cases p<;>simp[Builtin.clear_,run_underlying Tryz.underlying32]
  have HE:Hid (∀ W:World,W.heap=w.heap->W.os=w.os->W.tape=w.tape->W.output=w.output->((W.setCells g (i*2) [.string k,.string u]).drew.setCells g (J*2) mv).ownsRow B 165 2 (.slice (some ⟨g,0,none⟩) n cap) n (xs.take (i*2)++([.string k,.string u]++xs.drop (J*2)))/\w.grownBy ((W.setCells g (i*2) [.string k,.string u]).drew.setCells g (J*2) mv) (some g)):=fun W hW h1 h2 h3=>by
    have r1:=cT [.string k,.string u] (i*2) W _ (sS hW ho)
    have r1d:(W.setCells g (i*2) [.string k,.string u]).drew.ownsRow B 165 2 (.slice (some ⟨g,0,none⟩) n cap) n (setL xs (i*2) [.string k,.string u]):=r1.1
    have r2:=cT mv (J*2) _ _ r1d
    refine⟨?_,?_⟩
    · have:=r2.1
      rw[hmv,hJ,zI6 xs _ i n hxl rfl (by omega)] at this
      rw[hmv,hJ]
      exact this
    · have e1:=r1.2
      have e2:(W.setCells g (i*2) [.string k,.string u]).grownBy ((W.setCells g (i*2) [.string k,.string u]).drew.setCells g (J*2) mv) (some g):=⟨r2.2.os,r2.2.tape,r2.2.output,r2.2.size,r2.2.block⟩
      have e0:w.grownBy W (some g):=⟨h1,h2,h3,by rw[hW];exact n_ _,fun q _ _=>by rw[hW]⟩
      exact(e0.trans e1).trans e2
  have HB2:Hid (∀ W:World,W.heap=w.heap->(W.setCells g (i*2) [.string k,.string u]).drew.ownsRow B 165 2 (.slice (some ⟨g,0,none⟩) n cap) n (setL xs (i*2) [.string k,.string u])):=fun W hW=>(cT [.string k,.string u] (i*2) W _ (sS hW ho)).1
  have k1:¬(i:Int)=(J:Int):=by omega
  have k2:(i:Int)<=(n:Int):=by omega
  have k3:(n:Int)<=(cap:Int):=by omega
  have k4:(i:Int)<=(cap:Int):=by omega
  have k5:¬(J:Int)=(n:Int):=by omega
  have k6:(i:Int)<=(J:Int):=by omega
  have k7:(J:Int)<=(n:Int):=by omega
  have k8:(J:Int)<=(cap:Int):=by omega
  have k0:(i:Int)+1=(J:Int):=by omega
  have k9:IntKind.i64.wrap (J:Int)=(J:Int):=by rw[IntKind.wrap_i64];omega
  have k10:(0:Int)<=(J:Int):=Int.natCast_nonneg _
  have k11:(J:Int)+((n-J:Nat):Int)=(n:Int):=by omega
  have k12:IntKind.i64.wrap (n:Int)=(n:Int):=by rw[IntKind.wrap_i64];omega
  have k13:¬(cap:Int)<(n:Int):=by omega
  have k14:¬cap=i:=by omega
  have k15:¬cap=J:=by omega
  have k16:(0:Int)<=(i:Int):=Int.natCast_nonneg _
  have k17:(i:Int)+1+((n-J:Nat):Int)=(n:Int):=by omega
  have HCA:=hide hcpA
  have HCB:=hide hcpB
  clear ho hone h0 h1 hmv hdl hxl hJ hcpA hcpB
  go_enter Tryz.func226,Tryz.ntmps226
  go_wp2
  go_quiet (fail)
  have hA:=HCA.out (w.drewN nq) rfl
  go_wp2
  clear hA
  have hB:=HCB.out ((w.drewN nq).setCells g (i*2) [.string k,.string u]).drew (HB2.out (w.drewN nq) rfl)
  go_region_law (fail)
  go_wp2
  all_goals
    go_ret
    first
    | exact⟨_,rfl,(HE.out (w.drewN nq) rfl rfl rfl rfl).1,(HE.out (w.drewN nq) rfl rfl rfl rfl).2⟩
    | (have h1:=HE.out (w.drewN nq) rfl rfl rfl rfl
       have e:cap=n:=by assumption
       rw[e] at h1
       exact⟨_,rfl,h1.1,h1.2⟩)
theorem zGQ (B g cap i n vb vc:Nat) (k u:ByteArray) (xs:List Value) (w:World) (ho:w.ownsRow B 165 2 (.slice (some ⟨g,0,none⟩) n cap) n xs) (hB:B<=w.heap.size) (hone:∀ x∈xs,x.oneCell'=true) (h0:w.cell? ⟨vb,0,none⟩=some (.string k)) (h1:w.cell? ⟨vb,1,none⟩=some (.string u))
    (hi:i<n) (hn:n<=1000000) (hnc:n<=cap) (hc63:cap<=9223372036854775807):
    Calls p_ 226 #[.slice (some ⟨g,0,none⟩) n cap,.int .i64 i,.int .i64 ((i+1:Nat):Int),.slice (some ⟨vb,0,none⟩) 1 vc] w fun e w'=>lN w w' e B (.slice (some ⟨g,0,none⟩) n cap) n (xs.take (i*2)++([.string k,.string u]++xs.drop ((i+1)*2))):=by
  rcases Nat.eq_or_lt_of_le (show i+1<=n from hi) with e|e
  · have:=yW B g cap i n vb vc k u xs w ho hB h0 h1 e hn hnc
    rwa [<-e] at this ⊢
  · exact zAs B g cap i n vb vc k u xs w ho hone h0 h1 e hn hnc hc63
end
section
open Go.RowKit Go.Joins Go.Shelf
attribute [local go_sem ↓] Go.wp_at_zero Go.wp_at_succ
theorem sA (l:List (ByteArray×ByteArray)):∀ u∈l.flatMap aV,u.oneCell'=true:=by
 intro u hu;obtain⟨r,_,hu⟩:=List.mem_flatMap.1 hu;simp[aV] at hu;rcases hu with rfl|rfl<;>rfl
theorem sK (l:List (ByteArray×ByteArray)) (i:Nat):(l.flatMap aV).take (i*2)=(l.take i).flatMap aV:=by
 induction l generalizing i with
 | nil=>simp
 | cons r l ih=>
  match i with
  | 0=>simp
  | i+1=>
   rw[List.flatMap_cons,List.take_succ_cons,List.flatMap_cons,<-ih i];show List.take ((i+1)*2) (v_ r.1::v_ r.2::l.flatMap aV)=_;rw[show(i+1)*2=i*2+1+1 by omega,List.take_succ_cons,List.take_succ_cons];rfl
theorem sO (l:List (ByteArray×ByteArray)) (i:Nat):(l.flatMap aV).drop (i*2)=(l.drop i).flatMap aV:=by
 induction l generalizing i with
 | nil=>simp
 | cons r l ih=>
  match i with
  | 0=>simp
  | i+1=>
   rw[List.flatMap_cons,List.drop_succ_cons,<-ih i];show List.drop ((i+1)*2) (v_ r.1::v_ r.2::l.flatMap aV)=_;rw[show(i+1)*2=i*2+1+1 by omega,List.drop_succ_cons,List.drop_succ_cons]
theorem zAh (v:Value) (B i n:Nat) (xs:List Value) (w:World) (ho:w.ownsRow B 165 2 v n xs) (hi:i<=n) (hn:n<=1000000):
  Calls p_ 225 #[v,.int .i64 i,.int .i64 i] w fun e w'=>e=.returned v/\w'=w:=by
 rcases aX ho with⟨rfl,rfl⟩|⟨g,cap,rfl,_,_,hc,hm⟩
 ·have e:i=0:=by omega
  subst e;clear ho;go_enter Tryz.func225,Tryz.ntmps225;go_wp2;go_ret;exact⟨rfl,rfl⟩
 ·have h1:(i:Int)<=(n:Int):=by omega
  have h2:(n:Int)<=(cap:Int):=by omega
  unfold maxLen at hm;clear ho;go_enter Tryz.func225,Tryz.ntmps225;go_wp2
  all_goals
   go_ret;exact⟨rfl,rfl⟩
theorem zY (B i n vb vc:Nat) (v:Value) (k u:ByteArray) (xs:List Value) (w:World) (ho:w.ownsRow B 165 2 v n xs) (hB:B<=w.heap.size) (hone:∀ x∈xs,x.oneCell'=true) (h0:w.cell? ⟨vb,0,none⟩=some (.string k)) (h1:w.cell? ⟨vb,1,none⟩=some (.string u))
  (hvb:v.ownBlock≠some vb) (tA:TypeId) (kA:Nat) (hsa:w.shape? vb=some (tA,kA)) (hfa:∀ j,w.frozen? ⟨vb,j,none⟩=false) (hi:i<=n) (hn:n<=1000000):
  Calls p_ 226 #[v,.int .i64 i,.int .i64 i,.slice (some ⟨vb,0,none⟩) 1 vc] w fun e w'=>lN w w' e B v (n+1) (xs.take (i*2)++([.string k,.string u]++xs.drop (i*2))):=by
 have HI:=hide (zI9 B i n vb vc v k u xs w ho hB hone h0 h1 hvb tA kA hsa hfa hi hn);rcases aX ho with⟨rfl,rfl⟩|⟨g,cap,rfl,_,_,hc,hm⟩
 ·have e:i=0:=by omega
  subst e;clear ho hone h0 h1 hsa hfa;go_enter Tryz.func226,Tryz.ntmps226;go_wp2_with (go_at_call 265;refine HI.out.mono ?_;rintro e w1 ⟨v',rfl,ho1,hg1⟩;have HO:=hide ho1;have HG:=hide hg1;clear ho1 hg1)
  go_ret;exact⟨_,rfl,HO.out,HG.out⟩
 ·have e1:(i:Int)<=(n:Int):=by omega
  have e2:(n:Int)<=(cap:Int):=by omega
  have e3:(i:Int)<=(cap:Int):=by omega
  unfold maxLen at hm;clear ho hone h0 h1 hsa hfa;go_enter Tryz.func226,Tryz.ntmps226;go_wp2_with (go_at_call 265;refine HI.out.mono ?_;rintro e w1 ⟨v',rfl,ho1,hg1⟩;have HO:=hide ho1;have HG:=hide hg1;clear ho1 hg1)
  all_goals
   go_ret;exact⟨_,rfl,HO.out,HG.out⟩
def zDl (w w':World) (e:Ending) (B:Nat) (l:List (ByteArray×ByteArray)):Prop:=∃ v',e=.returned v'/\ownP w' B v' l/\Below B w w'
theorem zHX {w w':World} {e:Ending} {B:Nat} {l:List (ByteArray×ByteArray)} {v:Value} (ho:ownP w B v l) (hB:B<=w.heap.size) (hb:Below w.heap.size w w') (he:e=.returned v):zDl w w' e B l:=⟨v,he,bQ ho hb,hb.mono hB⟩
theorem xL {w w1 w':World} {e:Ending} {B n:Nat} {l:List (ByteArray×ByteArray)} {v:Value} {xs ys:List Value} (ho:w1.ownsRow B 165 2 v n xs) (hB:B<=w.heap.size) (hb:Below w.heap.size w w1) {m:Nat} (hi:lN w1 w' e B v m ys) (hm:m=l.length) (hy:ys=l.flatMap aV):zDl w w' e B l:=by
 obtain⟨v',rfl,h1,h2⟩:=hi;subst hy hm;exact⟨v',rfl,h1,(hb.mono hB).grown h2 (Nat.le_trans hB hb.size) fun k e=>(l_ ho k e).1⟩
theorem zJy (w:World) (C:Array Value) (t:TypeId):(w.alloc (.cells C t)).shape? w.heap.size=some (t,C.size):=by unfold World.shape?;rw[Go.heap_alloc_new]
theorem zMI (l:List (ByteArray×ByteArray)) (v:Value) (B:Nat) (c:Chg) (w:World) (ho:ownP w B v l) (hB:B<=w.heap.size) (hr:bV l) (hn:l.length<=100000):
  Calls p_ 163 #[v,.agg #[.string c.key,.string c.val,.bool c.gone]] w fun e w'=>zDl w w' e B (layR l c):=by
 have HO:=hide ho;have HR:=hide hr;have hB0:=a_ w (o_ #[.string c.key,.string c.val,.bool c.gone] 133);have a0:(w.alloc (o_ #[.string c.key,.string c.val,.bool c.gone] 133)).cell? ⟨w.heap.size,0,none⟩=some (.string c.key):=aC _ _ _ 0;have a1:(w.alloc (o_ #[.string c.key,.string c.val,.bool c.gone] 133)).cell? ⟨w.heap.size,1,none⟩=some (.string c.val):=aC _ _ _ 1;have a2:(w.alloc (o_ #[.string c.key,.string c.val,.bool c.gone] 133)).cell? ⟨w.heap.size,2,none⟩=some (.bool c.gone):=aC _ _ _ 2;have HB0:=hide hB0;have hple:=oG l c.key;have hfl:fK l c.key=true->cN l c.key<l.length:=zBG;have HLL:Hid (layR l c=l.take (cN l c.key)++(if c.gone then [] else [(c.key,c.val)])++l.drop (if fK l c.key then cN l c.key+1 else cN l c.key)):=rfl;obtain⟨va,vcap,rfl⟩:∃ ao cap,v=.slice ao l.length cap:=by
  obtain⟨ao,cap,e,_⟩:=lV ho;exact⟨ao,cap,e⟩
 have HPL:=fun W (hb:Below w.heap.size w W)=>hide (zFS l _ B c.key W (bQ HO.out hb) hr (by omega));clear ho hr hB0;generalize cN l c.key=p at *;generalize fK l c.key=f at *;generalize hgone:c.gone=gn at *;rw[HLL.out];have hlow:=fun k (e:(Value.slice va l.length vcap).ownBlock=some k)=>(l_ HO.out k e).2;cases f
 ·cases gn
  ·
   simp only[Bool.false_eq_true,if_false];go_enter Tryz.func163,Tryz.ntmps163;go_wp2_with (first
    | (go_at_call 224;refine(HPL _ HB0.out).out.mono ?_;rintro e w1 ⟨rfl,hb1⟩;replace a0:=aA hb1 a0;replace a1:=aA hb1 a1;replace a2:=aA hb1 a2;have HB1:=hide (aB HB0.out (n_ _) hb1);have hs1:=HB1.out.size;have HBX:=hide (aB HB1.out (n_ _) (a_ w1 (o_ #[.string c.key,.string c.val] 165)));clear hb1))
   have HRP:=hide (zY B p l.length w1.heap.size 1 (Value.slice va l.length vcap) c.key c.val (l.flatMap aV) _ (bQ HO.out HBX.out) (Nat.le_trans hB HBX.out.size) (sA l) (aC _ _ _ 0) (aC _ _ _ 1) (fun e=>by have:=hlow _ e;omega) 165 2 (zJy _ _ _) (fun j=>aQ _ _ _ j) hple (by omega));go_wp2_with (first
    | (go_at_call 226;refine HRP.out.mono ?_;rintro e w2 ⟨v',rfl,ho2,hg2⟩;have HI:Hid (lN (w1.alloc (o_ #[.string c.key,.string c.val] 165)) w2 (.returned v') B (Value.slice va l.length vcap) (l.length+1) ((l.flatMap aV).take (p*2)++([.string c.key,.string c.val]++(l.flatMap aV).drop (p*2)))):=⟨v',rfl,ho2,hg2⟩;clear ho2 hg2))
   go_ret;exact xL (bQ HO.out HBX.out) hB HBX.out HI.out (by simp;omega) (by rw[sK,sO];simp[aV])
  ·simp only[Bool.false_eq_true,if_false,if_true];go_enter Tryz.func163,Tryz.ntmps163;go_wp2_with (first
    | (go_at_call 224;refine(HPL _ HB0.out).out.mono ?_;rintro e w1 ⟨rfl,hb1⟩;replace a0:=aA hb1 a0;replace a1:=aA hb1 a1;replace a2:=aA hb1 a2;have HB1:=hide (aB HB0.out (n_ _) hb1);clear hb1)
    | (go_at_call 225;refine(zAh _ B p l.length (l.flatMap aV) _ (bQ HO.out HB1.out) hple (by omega)).mono ?_;rintro e w2 ⟨rfl,rfl⟩))
   go_ret;exact zHX (by rw[List.append_nil,List.take_append_drop];exact HO.out) hB HB1.out rfl
 ·have hpl:=hfl rfl;obtain⟨g,hva,hcl,hc63⟩:∃ g,va=some ⟨g,0,none⟩/\l.length<=vcap/\vcap<=9223372036854775807:=by
   rcases aX HO.out with⟨_,h0⟩|⟨g,cap,e,_,_,h1,h2⟩
   ·omega
   ·cases e;exact⟨g,rfl,h1,by unfold maxLen at h2;omega⟩
  subst hva;have e1:((p+1:Nat):Int)=(p:Int)+1:=by omega
  cases gn
  ·simp only[Bool.false_eq_true,if_false,if_true];go_enter Tryz.func163,Tryz.ntmps163;go_wp2_with (first
    | (go_at_call 224;refine(HPL _ HB0.out).out.mono ?_;rintro e w1 ⟨rfl,hb1⟩;replace a0:=aA hb1 a0;replace a1:=aA hb1 a1;replace a2:=aA hb1 a2;have HB1:=hide (aB HB0.out (n_ _) hb1);have hs1:=HB1.out.size;have HBX:=hide (aB HB1.out (n_ _) (a_ w1 (o_ #[.string c.key,.string c.val] 165)));clear hb1))
   have HRP:=hide (zGQ B g vcap p l.length w1.heap.size 1 c.key c.val (l.flatMap aV) _ (bQ HO.out HBX.out) (Nat.le_trans hB HBX.out.size) (sA l) (aC _ _ _ 0) (aC _ _ _ 1) hpl (by omega) hcl hc63);rw[e1] at HRP;go_wp2_with (first
    | (go_at_call 226;refine HRP.out.mono ?_;rintro e w2 ⟨v',rfl,ho2,hg2⟩;have HI:Hid (lN (w1.alloc (o_ #[.string c.key,.string c.val] 165)) w2 (.returned v') B (Value.slice (some ⟨g,0,none⟩) l.length vcap) l.length ((l.flatMap aV).take (p*2)++([.string c.key,.string c.val]++(l.flatMap aV).drop ((p+1)*2)))):=⟨v',rfl,ho2,hg2⟩;clear ho2 hg2))
   go_ret;exact xL (bQ HO.out HBX.out) hB HBX.out HI.out (by simp;omega) (by rw[sK,sO];simp[aV])
  ·simp only[if_true];go_enter Tryz.func163,Tryz.ntmps163;go_wp2_with (first
    | (go_at_call 224;refine(HPL _ HB0.out).out.mono ?_;rintro e w1 ⟨rfl,hb1⟩;replace a0:=aA hb1 a0;replace a1:=aA hb1 a1;replace a2:=aA hb1 a2;have HB1:=hide (aB HB0.out (n_ _) hb1);clear hb1))
   have HRP:=hide (zJd B g vcap p l.length (l.flatMap aV) _ (bQ HO.out HB1.out) (sA l) hpl (by omega) hcl hc63);rw[e1] at HRP;go_wp2_with (first
    | (go_at_call 225;refine HRP.out.mono ?_;rintro e w2 ⟨rfl,ho2,hg2⟩;have HI:Hid (lN w1 w2 (.returned (.slice (some ⟨g,0,none⟩) (l.length-1) vcap)) B (Value.slice (some ⟨g,0,none⟩) l.length vcap) (l.length-1) ((l.flatMap aV).take (p*2)++(l.flatMap aV).drop ((p+1)*2))):=⟨_,rfl,ho2,hg2⟩;clear ho2 hg2))
   go_ret;exact xL (bQ HO.out HB1.out) hB HB1.out HI.out (by simp;omega) (by rw[sK,sO];simp)
end
section
open Go.RowKit Go.Joins Go.Shelf Go.WideShapes
attribute [local go_sem ↓] Go.wp_at_zero Go.wp_at_succ
theorem zAg {s:ByteArray×ByteArray}:∀ (cs:List Chg) {l:List (ByteArray×ByteArray)},bV l->bV (gP l s cs)
 | [],_,h=>h
 | c::cs,l,h=>by
  refine zAg cs (l:=if hasS s.1 s.2 c.key then layR l c else l) ?_;split
  ·rw[zAU h];exact jO h c
  ·exact h
def zMP (w w':World) (e:Ending) (L:List (ByteArray×ByteArray)):Prop:=∃ v,e=.returned v/\Below w.heap.size w w'/\ownP w' w.heap.size v L
theorem zKo (s:ByteArray×ByteArray) {B0 B wb vb mb n:Nat} {now since:Int} {D:DataW Value} {g:ByteArray->Value} {R:ByteArray->List Ver} {cv rv:Value} {chs:List Chg} {rds P:List (ByteArray×ByteArray)} (w:World) (hv:VS w B0 vb mb now n D g R) (h:VW w B wb vb since cv rv chs rds)
  (hn:n<=1000000) (hR:∀ key,(R key).length<=1000000) (hP:bV P) (hPl:P.length<=50000) (hPk:∀ r∈P,r.1.size<=1000000) (hs:sayR R since P) (hc:chs.length<=100):
  Calls p_ 98 #[.pointer (some ⟨wb,0,none⟩),.agg #[.string s.1,.string s.2]] w fun e w'=>zMP w w' e (gP (inR P s) s chs):=by
 have HV:=hide hv;have HR:=hide hR;have HP:=hide hP;have HPK:=hide hPk;have HSY:=hide hs;have hB0:=a_ w (o_ #[.string s.1,.string s.2] 80);have a0:(w.alloc (o_ #[.string s.1,.string s.2] 80)).cell? ⟨w.heap.size,0,none⟩=some (.string s.1):=aC _ _ _ 0;have a1:(w.alloc (o_ #[.string s.1,.string s.2] 80)).cell? ⟨w.heap.size,1,none⟩=some (.string s.2):=aC _ _ _ 1;have c0:=aA hB0 h.c0;have c1:=aA hB0 h.c1;have c2:=aA hB0 h.c2;have HCH:=hide (bQ h.chs hB0);obtain⟨ca,cc,rfl⟩:=iQ h.chs;have HB0:=hide hB0;have HV1:=hide (HV.out.on HB0.out);have hz:w.heap.size+1=(w.alloc (o_ #[.string s.1,.string s.2] 80)).heap.size:=by simp
 clear h hv hR hB0 hP hPk hs;go_enter Tryz.func98,Tryz.ntmps98;go_wp2;generalize (w.alloc (o_ #[.string s.1,.string s.2] 80))=W0 at *
 go_region_held3 (fun w'=>w'.cell? ⟨w.heap.size,0,none⟩=some (.string s.1)/\w'.cell? ⟨w.heap.size,1,none⟩=some (.string s.2)/\w'.cell? ⟨wb,0,none⟩=some (.pointer (some ⟨vb,0,none⟩))/\w'.cell? ⟨wb,1,none⟩=some (.int .i64 since))
  (first|go_keep|exact⟨aA hb2 a0,aA hb2 a1,aA hb2 c0,aA hb2 c1⟩) (first|(go_at_call 161;refine(zJ8 zHl zJ3 s since _ (HV1.out.on (r_ _ _).drew) hn HR.out).mono ?_;rintro e w2 ⟨v,rfl,hb2',F,ho,hs,hnd,hm⟩;have hb2:=aB (r_ _ W0).drew (n_ _) hb2';clear hb2';dsimp only))
 all_goals
  have eF:F=inR P s:=zM4 HP.out HPK.out HSY.out hs hnd hm;subst eF;have HO:=hide ho;have HB2:=hide hb2;replace c2:=aA hb2 c2;clear ho hs hnd hm hb2 c0 c1;obtain⟨fa,fc,hfv⟩:=iQ HO.out;subst hfv;go_wp2
  go_loopw [5,23] (fun v5 i wr=>∃ k:Nat,k<=chs.length/\i=.int .i64 k/\ownP wr W0.heap.size v5 (gP (inR P s) s (chs.take k))/\Below W0.heap.size W0 wr) (fun _ i _=>chs.length-(intOf i).toNat)
  case atStart=>exact⟨0,Nat.zero_le _,rfl,HO.out,HB2.out⟩
  case round=>
   obtain⟨k,hk,rfl,hown,hB⟩:=hrel;have HW:=hide hown;have HBR:=hide hB;have hsz:=hB.size;clear hown hB HO HB2;by_cases hlt:k<chs.length
   ·have hlt':(k:Int)<(chs.length:Int):=by omega
    rcases aX HCH.out with⟨_,h0⟩|⟨cb,cap',ecv,_⟩
    ·omega
    cases ecv;have hch:dG W0 cb 0 chs:=eW chs 0 fun j u hj=>by
     have:=World.ownsRow.cells HCH.out (g:=cb) rfl j u hj;rwa [Go.WideShapes.add_plain] at this
    obtain⟨d0,d1,d2⟩:=hch k hlt;rw[Nat.zero_add] at d0 d1 d2;replace d0:=aA HBR.out d0;replace d1:=aA HBR.out d1;replace d2:=aA HBR.out d2;have HST:=hide (zGp (inR P s) s chs k hlt);have hlen:(gP (inR P s) s (chs.take k)).length<=100000:=by
     have h1:=zBL (inR P s) s (chs.take k);have h2:(inR P s).length<=P.length:=List.length_filter_le _ _;have h3:=List.length_take_le k chs;omega
    have HRS:=hide (zAg (s:=s) (chs.take k) (show bV (inR P s) from HP.out.filter _));clear hch;generalize chs[k]=c at *;have b0:=aA HBR.out a0;have b1:=aA HBR.out a1;generalize gP (inR P s) s (chs.take k)=L at *;have hBC:=a_ wr (o_ #[.string c.key,.string c.val,.bool c.gone] 133);have e0:(wr.alloc (o_ #[.string c.key,.string c.val,.bool c.gone] 133)).cell? ⟨wr.heap.size,0,none⟩=some (.string c.key):=aC _ _ _ 0;have e1:(wr.alloc (o_ #[.string c.key,.string c.val,.bool c.gone] 133)).cell? ⟨wr.heap.size,1,none⟩=some (.string c.val):=aC _ _ _ 1;have e2:(wr.alloc (o_ #[.string c.key,.string c.val,.bool c.gone] 133)).cell? ⟨wr.heap.size,2,none⟩=some (.bool c.gone):=aC _ _ _ 2;have b0':=aA hBC b0;have b1':=aA hBC b1;replace HW:=hide (bQ HW.out hBC);have HBC:=hide (aB HBR.out (n_ _) (hBC.mono (by omega)));have hszc:W0.heap.size<=(wr.alloc (o_ #[.string c.key,.string c.val,.bool c.gone] 133)).heap.size:=by have:=hBC.size;omega
    clear hBC
    cases hh:hasS s.1 s.2 c.key with
    | true=>
     rw[hh,if_pos rfl] at HST;go_wp2_with (first
      | (go_at_call 162;refine(pH s.1 s.2 c.key _).mono ?_;rintro e w3 ⟨rfl,hb3⟩;rw[hh];replace HW:=hide (bQ HW.out hb3);replace e0:=aA hb3 e0;replace e1:=aA hb3 e1;replace e2:=aA hb3 e2;have HB3:=hide (HBC.out.trans (hb3.mono hszc));have hs3:=hb3.size;clear hb3)
      | (go_at_call 163;refine(zMI L _ W0.heap.size c _ HW.out (by omega) HRS.out hlen).mono ?_;rintro e w4 ⟨v4,rfl,ho4,hb4⟩;have HO4:=hide ho4;have HB4:=hide (HB3.out.trans hb4);clear ho4 hb4))
     exact⟨⟨k+1,by omega,by go_num,by rw[HST.out];exact HO4.out,HB4.out⟩,by simp[intOf];omega⟩
    | false=>
     rw[hh,if_neg (by simp)] at HST;go_wp2_with (first
      | (go_at_call 162;refine(pH s.1 s.2 c.key _).mono ?_;rintro e w3 ⟨rfl,hb3⟩;rw[hh];replace HW:=hide (bQ HW.out hb3);have HB3:=hide (HBC.out.trans (hb3.mono hszc));clear hb3))
     exact⟨⟨k+1,by omega,by go_num,by rw[HST.out];exact HW.out,HB3.out⟩,by simp[intOf];omega⟩
   ·have ek:k=chs.length:=by omega
    subst ek;have hlt':¬(chs.length:Int)<(chs.length:Int):=by omega
    rw[List.take_length] at HW;obtain⟨ua,uc,hu⟩:=iQ HW.out;subst hu;go_wp2;go_ret;exact⟨_,rfl,HB0.out.trans (HBR.out.mono (by omega)),vT HW.out (by omega)⟩
end
end Go.Proofs.YtnboipekkahmnaaGreatDoor
