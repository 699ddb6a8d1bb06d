/- Several texts in one: What the document's Bytes does: a new slice that owns a message's bytes; What the document's Send does. -/
import Derived.Test.YtmjekpdgmdpndaaKWorV
import Derived.Test.YtmjekpdgmdpndaaKWire3
import Derived.Test.YtmjekpdgmdpndaaKJ10
import Derived.Deep.DeepCutAuto
import Derived.Deep.RegionHeld3
import Derived.Laws.BitsAllLaws
namespace Go.Proofs.Ytmjekpdgmdpndaa
open Go.RowKit
attribute [local go_sem ↓] Go.wp_at_zero Go.wp_at_succ

def encB (c : Nat) : List Value := [.int .u8 (c : Int)]
theorem lenB (c : Nat) : (encB c).length = 1 := rfl
theorem oneB (c : Nat) : ∀ u ∈ encB c, u.oneCell' = true := by intro u hu; simp [encB] at hu; rcases hu with rfl; rfl
theorem flat_encB (l : List Nat) : flat encB l = cells1 l := by
  induction l with
  | nil => rfl
  | cons c t ih =>
    show encB c ++ flat encB t = _
    rw [ih]
    rfl
theorem OwnL.ofB {w : World} {base : Nat} {v : Value} {l : List Nat} (h : OwnL 5 1 encB w base v l) : OwnB w base v l := by
  unfold OwnL at h
  rw [flat_encB] at h
  exact h
theorem bytes_rowB {w : World} {a : Option Addr} {l : List Nat} (h : BytesAt w a l) : RowAt 1 encB w a l := by
  rcases h with rfl | ⟨b, o, rfl, hlt, hc⟩
  · exact Or.inl rfl
  · refine Or.inr ⟨b, o, rfl, hlt, fun i hi j u hu => ?_⟩
    match j, hu with
    | 0, hu => rw [← hu, Nat.mul_one, Nat.add_zero]; exact hc i hi
    | j + 1, hu => simp [encB] at hu
end Go.Proofs.Ytmjekpdgmdpndaa

namespace Go.Proofs.Ytmjekpdgmdpndaa
open Go.RowKit
attribute [local go_sem ↓] Go.wp_at_zero Go.wp_at_succ

/-- Messages of which Go's int tells all numbers. -/
def Int64M (m : Q4) : Prop := (-9223372036854775808 ≤ m.2.1 ∧ m.2.1 ≤ 9223372036854775807) ∧ (-9223372036854775808 ≤ m.2.2.1 ∧ m.2.2.1 ≤ 9223372036854775807) ∧ Nums m.2.2.2 ∧ m.2.2.2.length ≤ 1000000
/-- .. as many as there is room for. -/
def sendN (bs : List (List Nat)) (ms : List Q4) : List (List Nat) := bs ++ (ms.map fun m => bytesB m).take (24 - bs.length)
/-- What is put behind old messages. -/
structure SentF (R : Nat → Prop) (w w' : World) (base : Nat) (v : Value) (X Z : List XN) (zs : List (List Nat)) : Prop where
  own : OwnL 57 1 encN w' base v (X ++ Z)
  says : Z.map (·.2) = zs
  bytes : ∀ z ∈ Z, BytesT base w' z.1.1 z.2
  caps : ∀ z ∈ Z, z.2.length ≤ z.1.2 ∧ z.1.2 ≤ maxLen
  bel : Below w.heap.size w w'
theorem SentF.net {R : Nat → Prop} {w w' : World} {base : Nat} {a : Option Addr} {n c : Nat} {X Z : List XN} {bs zs : List (List Nat)} (H : SentF R w w' base (.slice a n c) X Z zs) (hX : X.map (·.2) = bs) (hb : ∀ x ∈ X, BytesR R w x.1.1 x.2) (hcp : ∀ x ∈ X, x.2.length ≤ x.1.2 ∧ x.1.2 ≤ maxLen) (hR : ∀ b, R b → b < base) : NetF R w' a n (X ++ Z) (bs ++ zs) := by
  have h1 := H.own.at lenN
  refine ⟨h1.2.1, h1.1, H.own.outR hR _, by rw [List.map_append, hX, H.says], fun x hx => ?_, fun x hx => (List.mem_append.1 hx).elim (hcp x) (H.caps x)⟩
  rcases List.mem_append.1 hx with hx | hx
  · exact (hb x hx).below H.bel
  · exact (H.bytes x hx).outR hR

end Go.Proofs.Ytmjekpdgmdpndaa
