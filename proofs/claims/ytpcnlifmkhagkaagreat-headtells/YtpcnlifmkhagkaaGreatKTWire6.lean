import Derived.Test.YtpcnlifmkhagkaaGreatKTJ13
set_option maxRecDepth 20000
set_option maxHeartbeats 20000000
namespace Go.Proofs.YtpcnlifmkhagkaaGreat
open Go.RowKit
open Go.Value renaming slice → G, int → E
open Go.IntKind renaming i64 → J
open _root_.Option renaming none → U
open Go.RowKit renaming Hid → Q, Below → Z
open Go.World renaming setCell → r
attribute [local go_sem ↓] Go.wp_at_zero Go.wp_at_succ
theorem zpv {w w' : World} {base : Nat} {e : TypeId} {size : Nat} {v : Value} {n : Nat} {xs : List Value} (h : w.ownsRow base e size v n xs) {R : Nat → Prop} (hk : zf R w w') (hR : ∀ j, base ≤ j → v.ownBlock = some j → ¬ R j) : w'.ownsRow base e size v n xs := by
 refine ⟨h.1, ?_⟩;rcases h.2 with h0 | ⟨g, cap, cur, hv, hg, hh, jj⟩
 ·exact Or.inl h0
 ·refine Or.inr ⟨g, cap, cur, hv, hg, ?_, jj⟩
  have hlt : g < w.heap.size := by
   rcases Nat.lt_or_ge g w.heap.size with h' | h'
   ·exact h'
   ·rw [Array.getElem?_eq_none h'] at hh; cases hh
  rw [hk.block hlt (hR g hg (by rw [hv]; rfl))]; exact hh
theorem zbw.keep {w w' : World} {base : Nat} {v : Value} {l : List P3} (h : zbw w base v l) {R : Nat → Prop} (hk : zf R w w') (hR : ∀ j, base ≤ j → v.ownBlock = some j → ¬ R j) : zbw w' base v l := zpv h hk hR
theorem zbw.block {w : World} {base : Nat} {v : Value} {l : List P3} (h : zbw w base v l) {j : Nat} (hj : v.ownBlock = some j) : base ≤ j ∧ j < w.heap.size := by
 rcases h.2 with ⟨hv, _⟩ | ⟨g, cap, cur, hv, hg, hh, _⟩
 ·rw [hv] at hj; cases hj
 ·rw [hv] at hj; cases hj
  rcases Nat.lt_or_ge g w.heap.size with h' | h'
  ·exact ⟨hg, h'⟩
  ·rw [Array.getElem?_eq_none h'] at hh; cases hh
theorem zbw.base {w : World} {base base' : Nat} {v : Value} {l : List P3} (h : zbw w base v l) (hb : base' ≤ base) : zbw w base' v l := by
 refine ⟨h.1, ?_⟩;rcases h.2 with h0 | ⟨g, cap, cur, hv, hg, jj⟩
 ·exact Or.inl h0
 ·exact Or.inr ⟨g, cap, cur, hv, by omega, jj⟩
theorem StAt.keep {w w' : World} {N : Nat} {st : List Nat × Int} (h : StAt w N st) {R : Nat → Prop} (hk : zf R w w') (hR : ∀ j, R j → N ≤ j ∧ j ≠ N + 1 ∧ j ≠ N + 2) : StAt w' N st := by
 obtain ⟨b, o, cap, hr, he, hbN, hcap, hmax, hbyt, hc⟩ := h;refine ⟨b, o, cap, hr.keep hk fun x => (hR _ x).2.1 rfl, he.keep hk fun x => (hR _ x).2.2 rfl, hbN, hcap, hmax, hbyt, fun i hi => ?_⟩;rw [hk.cell (by have := hr.lt; omega) fun x => by have := (hR _ x).1; omega];exact hc i hi
theorem StAt.size {w : World} {N : Nat} {st : List Nat × Int} (h : StAt w N st) : N + 2 < w.heap.size := by
 obtain ⟨b, o, cap, hr, he, _⟩ := h;exact he.lt
def zfg (w w' : World) (N : Nat) (st : List Nat × Int) (k d h : Int) (v : Value) : Prop :=
 StAt w' N st ∧ Blk w' (N + 3) #[E J k, E J d, E J h, v] 25 ∧ Blk w' N #[E J 0, E J 0, E J 0, G U 0 0] 25 ∧ Z N w w'
theorem zfg.keep {w w' w'' : World} {N : Nat} {st : List Nat × Int} {k d h : Int} {v : Value} (hm : zfg w w' N st k d h v) {R : Nat → Prop} (hk : zf R w' w'') (hR : ∀ j, R j → N + 4 ≤ j) : zfg w w'' N st k d h v := by
 have hs := hm.1.size;exact ⟨hm.1.keep hk fun j hj => by have := hR j hj; omega, hm.2.1.keep hk fun x => by have := hR _ x; omega, hm.2.2.1.keep hk fun x => by have := hR _ x; omega, hm.2.2.2.trans (hk.below (by omega) fun j hj => by have := hR j hj; omega)⟩
theorem zfg.take {w w' w'' : World} {N : Nat} {st st' : List Nat × Int} {k d h : Int} {v : Value} (hm : zfg w w' N st k d h v) (hs : StAt w'' N st') (hk : zf (Two N) w' w'') : zfg w w'' N st' k d h v := by
 have h2 := hm.1.size;exact ⟨hs, hm.2.1.keep hk (by unfold Two; omega), hm.2.2.1.keep hk (by unfold Two; omega), hm.2.2.2.trans (hk.below (by omega) fun j hj => by unfold Two at hj; omega)⟩
theorem zfg.put {w w' : World} {N : Nat} {st : List Nat × Int} {k d h k' d' h' : Int} {v v' : Value} (hm : zfg w w' N st k d h v) (i : Nat) (u : Value) (e : (#[E J k, E J d, E J h, v] : Array Value).setIfInBounds i u = #[E J k', E J d', E J h', v']) : zfg w (r w' ⟨N + 3, i, U⟩ u) N st k' d' h' v' := by
 have hk : zf (fun j => j = N + 3) w' (r w' ⟨N + 3, i, U⟩ u) := (zf.refl (fun j => j = N + 3) w').setCell rfl _;have h2 := hm.1.size;refine ⟨hm.1.keep hk fun j hj => by omega, ?_, hm.2.2.1.keep hk (by omega), hm.2.2.2.trans (hk.below (by omega) fun j hj => by omega)⟩;have := hm.2.1.set i u;rw [e] at this;exact this
end Go.Proofs.YtpcnlifmkhagkaaGreat
