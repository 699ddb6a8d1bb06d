/- Nets, houses and worlds in memory, none of it in blocks of a set R. -/
import Derived.Test.YtmjekpdgmdpndaaKJ12
import Derived.Test.YtmjekpdgmdpndaaKWire2
namespace Go.Proofs.Ytmjekpdgmdpndaa
open Go.RowKit

/-- Bytes that lie outside R. -/
def BytesR (R : Nat → Prop) (w : World) (a : Option Addr) (l : List Nat) : Prop := BytesAt w a l ∧ Out R a l.length
theorem BytesR.keep {R : Nat → Prop} {w w' : World} {a : Option Addr} {l : List Nat} (h : BytesR R w a l) (hk : Keep R w w') : BytesR R w' a l := by
  refine ⟨?_, h.2⟩
  rcases h.1 with h0 | ⟨b, o, rfl, hlt, hc⟩
  · exact Or.inl h0
  · rcases h.2 with h0 | ho
    · exact Or.inl (List.eq_nil_of_length_eq_zero h0)
    · exact Or.inr ⟨b, o, rfl, Nat.lt_of_lt_of_le hlt hk.size, fun i hi => (hk.cell hlt (ho _ rfl)).trans (hc i hi)⟩
theorem BytesR.below {R : Nat → Prop} {w w' : World} {a : Option Addr} {l : List Nat} (h : BytesR R w a l) (hb : Below w.heap.size w w') : BytesR R w' a l := h.keep (keep_of_below hb)
theorem BytesR.wide {R R' : Nat → Prop} {w : World} {a : Option Addr} {l : List Nat} (h : BytesR R w a l) (hR : ∀ b, R' b → R b ∨ w.heap.size ≤ b) : BytesR R' w a l := by
  refine ⟨h.1, ?_⟩
  rcases h.1 with rfl | ⟨b, o, rfl, hlt, hc⟩
  · exact Or.inl rfl
  · rcases h.2 with h0 | ho
    · exact Or.inl h0
    · refine Or.inr (fun ad had hr => ?_)
      cases had
      rcases hR _ hr with h | h
      · exact ho _ rfl h
      · have h' : w.heap.size ≤ b := h
        omega
/-- Bytes that lie in a block of bytes, from base on. -/
def BytesT (base : Nat) (w : World) (a : Option Addr) (l : List Nat) : Prop :=
  l = [] ∨ ∃ b o cs, a = some ⟨b, o, none⟩ ∧ base ≤ b ∧ Blk w b cs 5 ∧ ∀ i (h : i < l.length), cs[o + i]? = some (.int .u8 (l[i] : Nat))
theorem BytesT.mono {base base' : Nat} {w : World} {a : Option Addr} {l : List Nat} (h : BytesT base w a l) (hb : base' ≤ base) : BytesT base' w a l := by
  rcases h with h | ⟨b, o, cs, ha, hB, hb', hx⟩
  · exact Or.inl h
  · exact Or.inr ⟨b, o, cs, ha, Nat.le_trans hb hB, hb', hx⟩
theorem BytesT.calm {base : Nat} {w w' : World} {a : Option Addr} {l : List Nat} (h : BytesT base w a l) (hc : Calm 5 w w') : BytesT base w' a l := by
  rcases h with h | ⟨b, o, cs, ha, hB, hb, hx⟩
  · exact Or.inl h
  · exact Or.inr ⟨b, o, cs, ha, hB, hc _ _ hb, hx⟩
theorem BytesT.at {base : Nat} {w : World} {a : Option Addr} {l : List Nat} (h : BytesT base w a l) : BytesAt w a l := by
  rcases h with h | ⟨b, o, cs, ha, hB, hb, hx⟩
  · exact Or.inl h
  · exact Or.inr ⟨b, o, ha, hb.lt, fun i hi => (hb.cell _).trans (hx i hi)⟩
theorem BytesT.outR {base : Nat} {w : World} {a : Option Addr} {l : List Nat} (h : BytesT base w a l) {R : Nat → Prop} (hR : ∀ b, R b → b < base) : BytesR R w a l := by
  refine ⟨h.at, ?_⟩
  rcases h with rfl | ⟨b, o, cs, rfl, hb, -, -⟩
  · exact Or.inl rfl
  · refine Or.inr (fun ad had hr => ?_)
    cases had
    have h' : b < base := hR _ hr
    omega
theorem OwnB.typed {w : World} {base : Nat} {v : Value} {l : List Nat} (h : OwnB w base v l) : ∃ a cap, v = .slice a l.length cap ∧ BytesT base w a l ∧ l.length ≤ cap ∧ cap ≤ maxLen := by
  rcases h.2 with ⟨hv, h0⟩ | ⟨g, cap, cur, hv, hg, hh, hcap, hmx, hsz, htake⟩
  · exact ⟨none, 0, by rw [hv, h0], Or.inl (List.eq_nil_of_length_eq_zero h0), by omega, Nat.zero_le _⟩
  · refine ⟨_, cap, hv, Or.inr ⟨g, 0, cur, rfl, hg, hh, fun i hi => ?_⟩, hcap, hmx⟩
    have hj : (cells1 l)[i]? = some (.int .u8 (l[i] : Nat)) := by simp [cells1, hi]
    rw [← htake, List.getElem?_take_of_lt (by omega)] at hj
    rw [Nat.zero_add]
    simpa using hj

/-- A message on its way, as it lies: where its bytes lie, its bytes. -/
abbrev XN := Hd × List Nat
def encN (x : XN) : List Value := [.slice x.1.1 x.2.length x.1.2]
theorem lenN (x : XN) : (encN x).length = 1 := rfl
theorem oneN (x : XN) : ∀ u ∈ encN x, u.oneCell' = true := by intro u hu; simp [encN] at hu; rcases hu with rfl; rfl
theorem infoBs : (Try.prog.info? 57).map (fun i => (i.zero, i.size, i.bytes)) = some (some (.slice none 0 0), 1, 24) := by kernel_rfl
/-- A net in memory; nothing of it lies in R. -/
structure NetF (R : Nat → Prop) (w : World) (a : Option Addr) (n : Nat) (X : List XN) (bs : List (List Nat)) : Prop where
  n : n = X.length
  row : RowAt 1 encN w a X
  out : Out R a X.length
  says : X.map (·.2) = bs
  bytes : ∀ x ∈ X, BytesR R w x.1.1 x.2
  caps : ∀ x ∈ X, x.2.length ≤ x.1.2 ∧ x.1.2 ≤ maxLen
theorem NetF.keep {R : Nat → Prop} {w w' : World} {a : Option Addr} {n : Nat} {X : List XN} {bs : List (List Nat)} (H : NetF R w a n X bs) (hk : Keep R w w') : NetF R w' a n X bs :=
  ⟨H.n, H.row.keepR H.out hk, H.out, H.says, fun x hx => (H.bytes x hx).keep hk, H.caps⟩
theorem NetF.below {R : Nat → Prop} {w w' : World} {a : Option Addr} {n : Nat} {X : List XN} {bs : List (List Nat)} (H : NetF R w a n X bs) (hb : Below w.heap.size w w') : NetF R w' a n X bs := H.keep (keep_of_below hb)
theorem NetF.wide {R R' : Nat → Prop} {w : World} {a : Option Addr} {n : Nat} {X : List XN} {bs : List (List Nat)} (H : NetF R w a n X bs) (hR : ∀ b, R' b → R b ∨ w.heap.size ≤ b) : NetF R' w a n X bs :=
  ⟨H.n, H.row, H.row.out H.out hR, H.says, fun x hx => (H.bytes x hx).wide hR, H.caps⟩
def NetV (R : Nat → Prop) (w : World) (v : Value) (bs : List (List Nat)) : Prop := ∃ a n c X, v = .slice a n c ∧ NetF R w a n X bs
theorem NetV.keep {R : Nat → Prop} {w w' : World} {v : Value} {bs : List (List Nat)} (H : NetV R w v bs) (hk : Keep R w w') : NetV R w' v bs := by
  obtain ⟨a, n, c, X, hv, hf⟩ := H
  exact ⟨a, n, c, X, hv, hf.keep hk⟩
theorem NetV.below {R : Nat → Prop} {w w' : World} {v : Value} {bs : List (List Nat)} (H : NetV R w v bs) (hb : Below w.heap.size w w') : NetV R w' v bs := H.keep (keep_of_below hb)
theorem NetV.wide {R R' : Nat → Prop} {w : World} {v : Value} {bs : List (List Nat)} (H : NetV R w v bs) (hR : ∀ b, R' b → R b ∨ w.heap.size ≤ b) : NetV R' w v bs := by
  obtain ⟨a, n, c, X, hv, hf⟩ := H
  exact ⟨a, n, c, X, hv, hf.wide hR⟩
theorem NetF.nil (R : Nat → Prop) (w : World) (a : Option Addr) : NetF R w a 0 [] [] := ⟨rfl, Or.inl rfl, Or.inl rfl, rfl, (fun x hx => by cases hx), (fun x hx => by cases hx)⟩

/-- A slice's head: where it lies, how long it is, its room. -/
abbrev Sl := Option Addr × Nat × Nat
/-- A house as it lies in a row of houses. -/
abbrev XH := Sl × S4 × Sl × Sl
def encH (x : XH) : List Value := [.slice x.1.1 x.1.2.1 x.1.2.2, .int .i64 x.2.1.1, .int .i64 x.2.1.2.1, .int .i64 x.2.1.2.2.1, .int .i64 x.2.1.2.2.2, .slice x.2.2.1.1 x.2.2.1.2.1 x.2.2.1.2.2, .slice x.2.2.2.1 x.2.2.2.2.1 x.2.2.2.2.2]
def valH (x : XH) : Value := .agg #[.slice x.1.1 x.1.2.1 x.1.2.2, .int .i64 x.2.1.1, .int .i64 x.2.1.2.1, .int .i64 x.2.1.2.2.1, .int .i64 x.2.1.2.2.2, .slice x.2.2.1.1 x.2.2.1.2.1 x.2.2.1.2.2, .slice x.2.2.2.1 x.2.2.2.2.1 x.2.2.2.2.2]
/-- A row of houses in memory; nothing of it lies in R. -/
structure HousF (R : Nat → Prop) (w : World) (a : Option Addr) (n : Nat) (X : List XH) (Ls : List (List R3)) : Prop where
  n : n = X.length
  row : RowAt 7 encH w a X
  out : Out R a X.length
  len : X.length = Ls.length
  each : ∀ i (h1 : i < X.length) (h2 : i < Ls.length), HouseV R w (valH X[i]) Ls[i] (houseB Ls[i])
theorem HousF.keep {R : Nat → Prop} {w w' : World} {a : Option Addr} {n : Nat} {X : List XH} {Ls : List (List R3)} (H : HousF R w a n X Ls) (hk : Keep R w w') : HousF R w' a n X Ls :=
  ⟨H.n, H.row.keepR H.out hk, H.out, H.len, fun i h1 h2 => (H.each i h1 h2).keep hk⟩
theorem HousF.below {R : Nat → Prop} {w w' : World} {a : Option Addr} {n : Nat} {X : List XH} {Ls : List (List R3)} (H : HousF R w a n X Ls) (hb : Below w.heap.size w w') : HousF R w' a n X Ls := H.keep (keep_of_below hb)
theorem HousF.wide {R R' : Nat → Prop} {w : World} {a : Option Addr} {n : Nat} {X : List XH} {Ls : List (List R3)} (H : HousF R w a n X Ls) (hR : ∀ b, R' b → R b ∨ w.heap.size ≤ b) : HousF R' w a n X Ls :=
  ⟨H.n, H.row, H.row.out H.out hR, H.len, fun i h1 h2 => (H.each i h1 h2).wide hR⟩

/-- A world in memory, laid open; nothing of it lies in R. -/
structure WorF (R : Nat → Prop) (w : World) (la : Option Addr) (nl : Nat) (Y : List XL) (oa : Option Addr) (no : Nat) (X : List XO) (ha : Option Addr) (nh : Nat) (XHs : List XH) (na : Option Addr) (nn : Nat) (XNs : List XN) (W : WW) : Prop where
  hd : HeadF R w la nl Y oa no X W.hd.log W.hd.opn
  hs : HousF R w ha nh XHs W.hs
  net : NetF R w na nn XNs (W.net.map fun m => bytesB m)
section
variable {R R' : Nat → Prop} {w w' : World} {la : Option Addr} {nl : Nat} {Y : List XL} {oa : Option Addr} {no : Nat} {X : List XO} {ha : Option Addr} {nh : Nat} {XHs : List XH} {na : Option Addr} {nn : Nat} {XNs : List XN} {W : WW}
theorem WorF.keep (H : WorF R w la nl Y oa no X ha nh XHs na nn XNs W) (hk : Keep R w w') : WorF R w' la nl Y oa no X ha nh XHs na nn XNs W := ⟨H.hd.keep hk, H.hs.keep hk, H.net.keep hk⟩
theorem WorF.below (H : WorF R w la nl Y oa no X ha nh XHs na nn XNs W) (hb : Below w.heap.size w w') : WorF R w' la nl Y oa no X ha nh XHs na nn XNs W := H.keep (keep_of_below hb)
theorem WorF.wide (H : WorF R w la nl Y oa no X ha nh XHs na nn XNs W) (hR : ∀ b, R' b → R b ∨ w.heap.size ≤ b) : WorF R' w la nl Y oa no X ha nh XHs na nn XNs W := ⟨H.hd.wide hR, H.hs.wide hR, H.net.wide hR⟩
end
/-- A world as a value; nothing of it lies in R. -/
def WorV (R : Nat → Prop) (w : World) (v : Value) (W : WW) : Prop :=
  ∃ (la : Option Addr) (nl lc : Nat) (Y : List XL) (oa : Option Addr) (no oc : Nat) (X : List XO) (ha : Option Addr) (nh hc : Nat) (XHs : List XH) (na : Option Addr) (nn nc : Nat) (XNs : List XN),
    v = .agg #[.slice la nl lc, .int .i64 W.hd.boot, .int .i64 W.hd.next, .slice oa no oc, .slice ha nh hc, .slice na nn nc] ∧ WorF R w la nl Y oa no X ha nh XHs na nn XNs W
theorem WorV.keep {R : Nat → Prop} {w w' : World} {v : Value} {W : WW} (H : WorV R w v W) (hk : Keep R w w') : WorV R w' v W := by
  obtain ⟨la, nl, lc, Y, oa, no, oc, X, ha, nh, hc, XHs, na, nn, nc, XNs, hv, hf⟩ := H
  exact ⟨la, nl, lc, Y, oa, no, oc, X, ha, nh, hc, XHs, na, nn, nc, XNs, hv, hf.keep hk⟩
theorem WorV.below {R : Nat → Prop} {w w' : World} {v : Value} {W : WW} (H : WorV R w v W) (hb : Below w.heap.size w w') : WorV R w' v W := H.keep (keep_of_below hb)
theorem WorV.wide {R R' : Nat → Prop} {w : World} {v : Value} {W : WW} (H : WorV R w v W) (hR : ∀ b, R' b → R b ∨ w.heap.size ≤ b) : WorV R' w v W := by
  obtain ⟨la, nl, lc, Y, oa, no, oc, X, ha, nh, hc, XHs, na, nn, nc, XNs, hv, hf⟩ := H
  exact ⟨la, nl, lc, Y, oa, no, oc, X, ha, nh, hc, XHs, na, nn, nc, XNs, hv, hf.wide hR⟩

end Go.Proofs.Ytmjekpdgmdpndaa
