/- Several texts in one: What the document's SameInts does with two lists of the same numbers; What the document's SameParts, SameLog and SameReady do with two lists that say the same: they only read; Heads in memory, and what the document's SameHead does with two that are the same; Plain functions over several houses' sums: what the functions of package model come to, and their laws, with no word of the program; Plain worlds: what the document's functions of heads, nets and worlds come to, with no word of the program. -/
import Derived.Test.YtmjekpdgmdpndaaKJ05
import Derived.Test.YtmjekpdgmdpndaaKPure2
import Derived.Test.YtmjekpdgmdpndaaKHouseP
import Derived.WalkSmall
import Derived.BigQuiet
namespace Go.Proofs.Ytmjekpdgmdpndaa
open Go.RowKit
attribute [local go_sem ↓] Go.wp_at_zero Go.wp_at_succ
theorem drewN_below (w : World) (n : Nat) : Below w.heap.size w (w.drewN n) := below_drewN (Below.refl _ _) n

end Go.Proofs.Ytmjekpdgmdpndaa

namespace Go.Proofs.Ytmjekpdgmdpndaa
open Go.RowKit
attribute [local go_sem ↓] Go.wp_at_zero Go.wp_at_succ

theorem PartsAt.get {w : World} {a : Option Addr} {l : List P3} (h : PartsAt w a l) {k : Nat} (hk : k < l.length) : ∃ b o, a = some ⟨b, o, none⟩ ∧ b < w.heap.size ∧ w.cell? ⟨b, o + k * 3, none⟩ = some (.int .i64 l[k].1) ∧ w.cell? ⟨b, o + k * 3 + 1, none⟩ = some (.int .i64 l[k].2.1) ∧ w.cell? ⟨b, o + k * 3 + 2, none⟩ = some (.int .i64 l[k].2.2) := by
  rcases h with rfl | ⟨b, o, rfl, hlt, hc⟩
  · simp at hk
  · exact ⟨b, o, rfl, hlt, hc k hk⟩

set_option maxHeartbeats 1000000 in
theorem sameParts_q (a1 a2 : Option Addr) (l : List P3) (c1 c2 n1 n2 : Nat) (w : World) (hn1 : n1 = l.length) (hn2 : n2 = l.length) (hl : l.length ≤ 9223372036854775807) (hp1 : PartsAt w a1 l) (hp2 : PartsAt w a2 l) :
    Calls Try.prog 49 #[.slice a1 n1 c1, .slice a2 n2 c2] w fun e w' => e = .returned (.bool true) ∧ ∃ m, w' = w.drewN m := by
  subst hn2
  subst hn1
  have HP : Hid (PartsAt w a1 l ∧ PartsAt w a2 l) := ⟨hp1, hp2⟩
  clear hp1 hp2
  generalize hll : l.length = n at *
  have HL : Hid (l.length = n) := hll
  clear hll
  go_enter Try.func49, Try.ntmps49
  go_wp2
  go_loopw [13] (fun i w' => ∃ k m : Nat, k ≤ n ∧ i = .int .i64 k ∧ w' = w.drewN m) (fun i _ => n - (intOf i).toNat)
  case atStart => exact ⟨0, 0, Nat.zero_le _, rfl, rfl⟩
  case round =>
    obtain ⟨k, m, hk, rfl, rfl⟩ := hrel
    by_cases hlt : k < n
    · have hkl : k < l.length := by rw [HL.out]; exact hlt
      obtain ⟨b1, o1, rfl, hb1, d1, d2, d3⟩ := HP.out.1.get hkl
      obtain ⟨b2, o2, rfl, hb2, e1, e2, e3⟩ := HP.out.2.get hkl
      generalize l[k] = x at *
      obtain ⟨x0, x1, x2⟩ := x
      simp only at d1 d2 d3 e1 e2 e3
      go_wp2
      go_quiet (fail)
      go_wp2
      go_roundw
      case rel => exact ⟨k + 1, _, by omega, by go_num, rfl⟩
      case measure => simp [intOf]; omega
    · go_wp2
      go_ret
      exact ⟨rfl, m, rfl⟩

end Go.Proofs.Ytmjekpdgmdpndaa

namespace Go.Proofs.Ytmjekpdgmdpndaa
open Go.RowKit
attribute [local go_sem ↓] Go.wp_at_zero Go.wp_at_succ

/-- .. as it lies. -/
abbrev XO := Int × (Hd × List P3) × Bool × (Hd × List Int)
def encQ (x : XO) : List Value := [.int .i64 x.1, .slice x.2.1.1.1 x.2.1.2.length x.2.1.1.2, .bool x.2.2.1, .slice x.2.2.2.1.1 x.2.2.2.2.length x.2.2.2.1.2]
def stripO (x : XO) : O4 := (x.1, x.2.1.2, x.2.2.1, x.2.2.2.2)
/-- What an entry points to lies in memory. -/
def XOAt (w : World) (x : XO) : Prop := PartsAt w x.2.1.1.1 x.2.1.2 ∧ RowAt 1 encI w x.2.2.2.1.1 x.2.2.2.2
theorem XOAt.below {w w' : World} {x : XO} (h : XOAt w x) (hb : Below w.heap.size w w') : XOAt w' x := ⟨h.1.below hb, h.2.below hb⟩
def OpensG (w : World) (a : Option Addr) (X : List XO) : Prop := RowAt 4 encQ w a X ∧ ∀ x ∈ X, XOAt w x
theorem OpensG.below {w w' : World} {a : Option Addr} {X : List XO} (h : OpensG w a X) (hb : Below w.heap.size w w') : OpensG w' a X := ⟨h.1.below hb, fun x hx => (h.2 x hx).below hb⟩
theorem OpensG.get {w : World} {a : Option Addr} {X : List XO} (h : OpensG w a X) {k : Nat} (hk : k < X.length) : ∃ b o, a = some ⟨b, o, none⟩ ∧ b < w.heap.size ∧ w.cell? ⟨b, o + k * 4, none⟩ = some (.int .i64 X[k].1) ∧
    w.cell? ⟨b, o + k * 4 + 1, none⟩ = some (.slice X[k].2.1.1.1 X[k].2.1.2.length X[k].2.1.1.2) ∧ w.cell? ⟨b, o + k * 4 + 2, none⟩ = some (.bool X[k].2.2.1) ∧ w.cell? ⟨b, o + k * 4 + 3, none⟩ = some (.slice X[k].2.2.2.1.1 X[k].2.2.2.2.length X[k].2.2.2.1.2) ∧ XOAt w X[k] := by
  rcases h.1 with rfl | ⟨b, o, rfl, hlt, hc⟩
  · simp at hk
  · exact ⟨b, o, rfl, hlt, hc k hk 0 _ rfl, hc k hk 1 _ rfl, hc k hk 2 _ rfl, hc k hk 3 _ rfl, h.2 _ (List.getElem_mem hk)⟩

/-- A head as a value: its log, its boot, how many were begun, what is open. -/
def HeadG (w : World) (v : Value) (L : List R3) (boot next : Int) (O : List O4) : Prop :=
  ∃ (la : Option Addr) (nl lc : Nat) (Y : List XL) (oa : Option Addr) (no oc : Nat) (X : List XO),
    v = .agg #[.slice la nl lc, .int .i64 boot, .int .i64 next, .slice oa no oc] ∧ (nl = L.length ∧ Y.map stripL = L ∧ RecsAt w la Y) ∧ (no = X.length ∧ X.map stripO = O ∧ OpensG w oa X)
theorem HeadG.below {w w' : World} {v : Value} {L : List R3} {b n : Int} {O : List O4} (hh : HeadG w v L b n O) (hb : Below w.heap.size w w') : HeadG w' v L b n O := by
  obtain ⟨la, nl, lc, Y, oa, no, oc, X, hv, ⟨h1, h2, h3⟩, h4, h5, h6⟩ := hh
  exact ⟨la, nl, lc, Y, oa, no, oc, X, hv, ⟨h1, h2, h3.below hb⟩, h4, h5, h6.below hb⟩
end Go.Proofs.Ytmjekpdgmdpndaa

namespace Go.Proofs.Ytmjekpdgmdpndaa
open Go.RowKit
/-- Two deeds that have no key of a house in common. -/
def Apart (a b : List P3) : Prop := ∀ p ∈ a, ∀ q ∈ b, sameB p q = false
theorem Apart.symm {a b : List P3} (h : Apart a b) : Apart b a := fun q hq p hp => by
  have := h p hp q hq
  simp only [sameB, decide_eq_false_iff_not] at this ⊢
  exact fun ⟨x, y⟩ => this ⟨x.symm, y.symm⟩
end Go.Proofs.Ytmjekpdgmdpndaa

namespace Go.Proofs.Ytmjekpdgmdpndaa
open Go.RowKit
/-- A head: its log, its boot, how many were begun since, what is open. -/
structure Gh where
  log : List R3
  boot : Int
  next : Int
  opn : List O4
/-- A world: a head, the logs of its houses, messages that are on their way. -/
structure WW where
  hd : Gh
  hs : List (List R3)
  net : List Q4

/-- The log of a house. -/
def WW.at (W : WW) (k : Int) : List R3 := W.hs.getD k.toNat []
end Go.Proofs.Ytmjekpdgmdpndaa
