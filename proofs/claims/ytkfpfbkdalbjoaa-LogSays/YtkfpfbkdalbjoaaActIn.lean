/-
  An act in a block of its own: 'a := acts[i]'.
-/
import Derived.Test.YtkfpfbkdalbjoaaLight
namespace Go.Proofs.Ytkfpfbkdalbjoaa
open Go.RowKit Go.Joins

structure ActIn (w : World) (blk : Nat) (x : ActL) : Prop where
  kind : w.cell? ⟨blk, 0, none⟩ = some (.string x.kind)
  a : w.cell? ⟨blk, 1, none⟩ = some (.int .i64 x.a)
  b : w.cell? ⟨blk, 2, none⟩ = some (.int .i64 x.b)
  c : w.cell? ⟨blk, 3, none⟩ = some (.int .i64 x.c)
  k : w.cell? ⟨blk, 4, none⟩ = some (.int .u64 x.k)
  s : w.cell? ⟨blk, 5, none⟩ = some (.string x.s)
  t : w.cell? ⟨blk, 6, none⟩ = some (.string x.t)
  cl : w.cell? ⟨blk, 7, none⟩ = some (.slice x.ca x.chs.length x.cc)
  sl : w.cell? ⟨blk, 8, none⟩ = some (.slice x.sa x.sps.length x.sc)
theorem ActIn.new (w : World) (x : ActL) : ActIn (w.alloc (Obj.cells #[Value.string x.kind, Value.int .i64 x.a, Value.int .i64 x.b, Value.int .i64 x.c, Value.int .u64 x.k, Value.string x.s, Value.string x.t, Value.slice x.ca x.chs.length x.cc, Value.slice x.sa x.sps.length x.sc] 39)) w.heap.size x :=
  ⟨cell_new _ _ _ 0, cell_new _ _ _ 1, cell_new _ _ _ 2, cell_new _ _ _ 3, cell_new _ _ _ 4, cell_new _ _ _ 5, cell_new _ _ _ 6, cell_new _ _ _ 7, cell_new _ _ _ 8⟩
theorem ActIn.kept {w w' : World} {b : Nat} {x : ActL} (h : ActIn w b x) (e : w'.heap[b]? = w.heap[b]?) : ActIn w' b x :=
  have c : ∀ j v, w.cell? ⟨b, j, none⟩ = some v → w'.cell? ⟨b, j, none⟩ = some v := fun j _ hv => (World.cell?_of_block (a := ⟨b, j, none⟩) e).trans hv
  ⟨c _ _ h.kind, c _ _ h.a, c _ _ h.b, c _ _ h.c, c _ _ h.k, c _ _ h.s, c _ _ h.t, c _ _ h.cl, c _ _ h.sl⟩
theorem ActIn.lt {w : World} {b : Nat} {x : ActL} (h : ActIn w b x) : b < w.heap.size := World.block_lt_of_cell? _ _ h.kind
theorem ActIn.on {w w' : World} {b : Nat} {x : ActL} (h : ActIn w b x) (hb : Below w.heap.size w w') : ActIn w' b x := h.kept (hb.block b h.lt)
end Go.Proofs.Ytkfpfbkdalbjoaa
