/- General facts on worlds: all blocks but some are as they were. -/
import Derived.Test.YteinegcoenlkcacPartA
import Derived.Laws.Rows
namespace Go.Proofs.Yteinegcoenlkcac
open Go.RowKit

/-- A block of cells, none of them frozen. -/
def Blk (w : World) (b : Nat) (cs : Array Value) (t : TypeId) : Prop := w.heap[b]? = some (.cells cs t (0, 0))
/-- Behind w all blocks that were there, but those of R, are as they were. -/
def Keep (R : Nat → Prop) (w w' : World) : Prop :=
  w'.os = w.os ∧ w'.tape = w.tape ∧ w'.output = w.output ∧ w.heap.size ≤ w'.heap.size ∧ ∀ k, k < w.heap.size → ¬ R k → w'.heap[k]? = w.heap[k]?

theorem Blk.lt {w : World} {b : Nat} {cs : Array Value} {t : TypeId} (h : Blk w b cs t) : b < w.heap.size := by
  rcases Nat.lt_or_ge b w.heap.size with h' | h'
  · exact h'
  · unfold Blk at h; rw [Array.getElem?_eq_none h'] at h; cases h
theorem Blk.cell {w : World} {b : Nat} {cs : Array Value} {t : TypeId} (h : Blk w b cs t) (i : Nat) : w.cell? ⟨b, i, none⟩ = cs[i]? := cell_of_row w b i cs t _ h
theorem Blk.free {w : World} {b : Nat} {cs : Array Value} {t : TypeId} (h : Blk w b cs t) (i : Nat) : w.frozen? ⟨b, i, none⟩ = false := frozen_of_row w b i cs t h
theorem Blk.set {w : World} {b : Nat} {cs : Array Value} {t : TypeId} (h : Blk w b cs t) (i : Nat) (v : Value) : Blk (w.setCell ⟨b, i, none⟩ v) b (cs.setIfInBounds i v) t := heap_setCell_same w b i cs t v h
theorem Blk.setOther {w : World} {b : Nat} {cs : Array Value} {t : TypeId} (h : Blk w b cs t) {a : Addr} (hne : b ≠ a.block) (v : Value) : Blk (w.setCell a v) b cs t := by
  unfold Blk; rw [heap_setCell_other w a b v hne]; exact h
theorem Blk.new (w : World) (cs : Array Value) (t : TypeId) : Blk (w.alloc (.cells cs t)) w.heap.size cs t := heap_alloc_new w _
theorem Blk.alloc {w : World} {b : Nat} {cs : Array Value} {t : TypeId} (h : Blk w b cs t) (o : Obj) : Blk (w.alloc o) b cs t := by
  unfold Blk; rw [Below.heap_alloc w o b h.lt]; exact h
theorem Blk.below {w w' : World} {b : Nat} {cs : Array Value} {t : TypeId} (h : Blk w b cs t) {B : Nat} (hb : Below B w w') (hB : b < B) : Blk w' b cs t := by
  unfold Blk; rw [hb.block b hB]; exact h
theorem Blk.keep {w w' : World} {b : Nat} {cs : Array Value} {t : TypeId} (h : Blk w b cs t) {R : Nat → Prop} (hk : Keep R w w') (hR : ¬ R b) : Blk w' b cs t := by
  unfold Blk; rw [hk.2.2.2.2 b h.lt hR]; exact h

theorem Keep.refl (R : Nat → Prop) (w : World) : Keep R w w := ⟨rfl, rfl, rfl, Nat.le_refl _, fun _ _ _ => rfl⟩
theorem Keep.size {R : Nat → Prop} {w w' : World} (h : Keep R w w') : w.heap.size ≤ w'.heap.size := h.2.2.2.1
theorem Keep.block {R : Nat → Prop} {w w' : World} (h : Keep R w w') {k : Nat} (hk : k < w.heap.size) (hR : ¬ R k) : w'.heap[k]? = w.heap[k]? := h.2.2.2.2 k hk hR
theorem Keep.trans {R : Nat → Prop} {a b c : World} (h : Keep R a b) (k : Keep R b c) : Keep R a c :=
  ⟨k.1.trans h.1, k.2.1.trans h.2.1, k.2.2.1.trans h.2.2.1, Nat.le_trans h.size k.size, fun _ hi hR => (k.block (Nat.lt_of_lt_of_le hi h.size) hR).trans (h.block hi hR)⟩
theorem Keep.mono {R S : Nat → Prop} {w w' : World} (h : Keep R w w') (hs : ∀ k, k < w.heap.size → R k → S k) : Keep S w w' :=
  ⟨h.1, h.2.1, h.2.2.1, h.size, fun k hk hS => h.block hk fun hR => hS (hs k hk hR)⟩
theorem Keep.setCell {R : Nat → Prop} {w w' : World} (h : Keep R w w') {p : Addr} (hp : R p.block) (u : Value) : Keep R w (w'.setCell p u) :=
  h.trans ⟨rfl, rfl, rfl, by simp [World.setCell], fun _ _ hR => heap_setCell_other _ _ _ _ fun e => hR (e ▸ hp)⟩
theorem Keep.alloc {R : Nat → Prop} {w w' : World} (h : Keep R w w') (o : Obj) : Keep R w (w'.alloc o) :=
  h.trans ⟨rfl, rfl, rfl, by simp, fun _ hk _ => Below.heap_alloc _ _ _ hk⟩
theorem Keep.drew {R : Nat → Prop} {w w' : World} (h : Keep R w w') : Keep R w w'.drew := h
theorem Keep.ofBelow {R : Nat → Prop} {B : Nat} {w w' : World} (h : Below B w w') (hR : ∀ k, k < w.heap.size → B ≤ k → R k) : Keep R w w' :=
  ⟨h.os, h.tape, h.output, h.size, fun k hk hr => h.block k (by rcases Nat.lt_or_ge k B with x | x; exact x; exact absurd (hR k hk x) hr)⟩
theorem Keep.below {R : Nat → Prop} {B : Nat} {w w' : World} (h : Keep R w w') (hB : B ≤ w.heap.size) (hR : ∀ k, R k → B ≤ k) : Below B w w' :=
  ⟨h.1, h.2.1, h.2.2.1, h.size, fun k hk => h.block (Nat.lt_of_lt_of_le hk hB) fun hr => by have := hR k hr; omega⟩
theorem Keep.ofGrown {R : Nat → Prop} {w w' : World} {row : Option Nat} (h : w.grownBy w' row) (hR : ∀ k, row = some k → R k) : Keep R w w' :=
  ⟨h.os, h.tape, h.output, h.size, fun k hk hr => h.block k hk fun e => hr (hR k e.symm)⟩
theorem Keep.cell {R : Nat → Prop} {w w' : World} (h : Keep R w w') {b o : Nat} (hb : b < w.heap.size) (hR : ¬ R b) : w'.cell? ⟨b, o, none⟩ = w.cell? ⟨b, o, none⟩ := by
  have := h.block hb hR
  unfold World.cell?
  simp only [this]

end Go.Proofs.Yteinegcoenlkcac
