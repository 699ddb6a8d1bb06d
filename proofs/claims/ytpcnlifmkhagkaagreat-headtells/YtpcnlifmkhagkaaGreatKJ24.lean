import Derived.Test.YtpcnlifmkhagkaaGreatKWire6
set_option maxRecDepth 20000
set_option maxHeartbeats 20000000
namespace Go.Proofs.YtpcnlifmkhagkaaGreat
open Go.RowKit
open Option renaming none → U
open World renaming setCell → r
attribute [local go_sem ↓] Go.wp_at_zero Go.wp_at_succ
theorem zni {w : World} {a : Option Addr} {l : List Nat} (h : zdj w a l) (k : Nat) : zdj w a (l.take k) := by
 rcases h with rfl | ⟨b, o, rfl, hlt, hc⟩
 · exact Or.inl (by simp)
 · refine Or.inr ⟨b, o, rfl, hlt, fun i hi => ?_⟩
  have hi' : i < l.length := by simp at hi; omega
  have := hc i hi';simpa using this
theorem byt_take {l : List Nat} (h : Byt l) (k : Nat) : Byt (l.take k) := fun c hc => h c (List.mem_of_mem_take hc)
theorem zby.le {w : World} {base : Nat} {v : Value} {l : List P3} (h : zby w base v l) : l.length ≤ 9223372036854775807 := by
 rcases h.2 with ⟨_, h0⟩ | ⟨g, cap, cur, hv, hg, hh, h1, h2, _⟩
 · omega
 · unfold maxLen at h2; omega
theorem put4 {W : World} {N : Nat} {c0 c1 c2 c3 : Value} {t : TypeId} (hb : Blk W N #[c0, c1, c2, c3] t) (v0 v1 v2 v3 : Value) :
  Blk (r (r (r (r W ⟨N, 0, U⟩ v0) ⟨N, 1, U⟩ v1) ⟨N, 2, U⟩ v2) ⟨N, 3, U⟩ v3) N #[v0, v1, v2, v3] t ∧
  zf (fun q => q = N) W (r (r (r (r W ⟨N, 0, U⟩ v0) ⟨N, 1, U⟩ v1) ⟨N, 2, U⟩ v2) ⟨N, 3, U⟩ v3) :=
 ⟨(((hb.set 0 _).set 1 _).set 2 _).set 3 _, ((((zf.refl (fun q => q = N) W).setCell rfl _).setCell rfl _).setCell rfl _).setCell rfl _⟩
theorem zdk.len {w : World} {base : Nat} {v : Value} {bs : List (List Nat)} (h : zdk w base v bs) : ∃ X : List XN, X.length = bs.length ∧ za 113 1 zcf w base v X ∧ X.map (·.2) = bs ∧ (∀ x ∈ X, zdn base w x.1.1 x.2) ∧ ∀ x ∈ X, x.2.length ≤ x.1.2 ∧ x.1.2 ≤ maxLen := by
 obtain ⟨X, h1, h2, h3, h4⟩ := h;exact ⟨X, by rw [← h2, List.length_map], h1, h2, h3, h4⟩
end Go.Proofs.YtpcnlifmkhagkaaGreat
