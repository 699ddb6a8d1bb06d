/- Several texts in one: Heads in memory, none of it in blocks of a set R; heads that a call has made; What part.Of and part.keep do: a new slice that owns the parts of one house, in turn. -/
import Derived.Test.YtmjekpdgmdpndaaKJ10
import Derived.Test.YtmjekpdgmdpndaaKJ11
import Derived.Test.YtmjekpdgmdpndaaKJ00
import Derived.Test.YtmjekpdgmdpndaaKJ03
namespace Go.Proofs.Ytmjekpdgmdpndaa
open Go.RowKit

theorem Blk.cells4 {w : World} {N : Nat} {T : TypeId} {c0 c1 c2 c3 : Value} (h : Blk w N #[c0, c1, c2, c3] T) : w.cell? ⟨N, 0, none⟩ = some c0 ∧ w.cell? ⟨N, 1, none⟩ = some c1 ∧ w.cell? ⟨N, 2, none⟩ = some c2 ∧ w.cell? ⟨N, 3, none⟩ = some c3 := ⟨h.cell 0, h.cell 1, h.cell 2, h.cell 3⟩
theorem Blk.free4 {w : World} {N : Nat} {T : TypeId} {c0 c1 c2 c3 : Value} (h : Blk w N #[c0, c1, c2, c3] T) : w.frozen? ⟨N, 0, none⟩ = false ∧ w.frozen? ⟨N, 1, none⟩ = false ∧ w.frozen? ⟨N, 2, none⟩ = false ∧ w.frozen? ⟨N, 3, none⟩ = false := ⟨h.free 0, h.free 1, h.free 2, h.free 3⟩
theorem OwnL.slice {α : Type} {e : TypeId} {size : Nat} {enc : α → List Value} {w : World} {base : Nat} {v : Value} {xs : List α} (he : ∀ x, (enc x).length = size) (h : OwnL e size enc w base v xs) : ∃ a n c, v = .slice a n c := by
  obtain ⟨a, c, hv, _⟩ := h.row he
  exact ⟨a, _, c, hv⟩
/-- Whole numbers that lie outside R. -/
def IntsR (R : Nat → Prop) (w : World) (a : Option Addr) (l : List Int) : Prop := RowAt 1 encI w a l ∧ Out R a l.length
theorem IntsR.keep {R : Nat → Prop} {w w' : World} {a : Option Addr} {l : List Int} (h : IntsR R w a l) (hk : Keep R w w') : IntsR R w' a l := ⟨h.1.keepR h.2 hk, h.2⟩
theorem IntsR.below {R : Nat → Prop} {w w' : World} {a : Option Addr} {l : List Int} (h : IntsR R w a l) (hb : Below w.heap.size w w') : IntsR R w' a l := h.keep (keep_of_below hb)
theorem IntsR.wide {R R' : Nat → Prop} {w : World} {a : Option Addr} {l : List Int} (h : IntsR R w a l) (hR : ∀ b, R' b → R b ∨ w.heap.size ≤ b) : IntsR R' w a l := ⟨h.1, h.1.out h.2 hR⟩
theorem IntsR.nil (R : Nat → Prop) (w : World) (a : Option Addr) : IntsR R w a [] := ⟨Or.inl rfl, Or.inl rfl⟩
theorem PartsT.outR {base : Nat} {w : World} {a : Option Addr} {l : List P3} (h : PartsT base w a l) {R : Nat → Prop} (hR : ∀ b, R b → b < base) : PartsR R w a l := by
  refine ⟨h.at, ?_⟩
  rcases h with rfl | ⟨b, o, cs, rfl, hb, -, -⟩
  · exact Or.inl rfl
  · refine Or.inr (fun ad had hr => ?_)
    cases had
    have h' : b < base := hR _ hr
    omega

/-- What an open deed points to lies outside R. -/
def OpR (R : Nat → Prop) (w : World) (x : XO) : Prop := PartsR R w x.2.1.1.1 x.2.1.2 ∧ IntsR R w x.2.2.2.1.1 x.2.2.2.2
theorem OpR.keep {R : Nat → Prop} {w w' : World} {x : XO} (h : OpR R w x) (hk : Keep R w w') : OpR R w' x := ⟨h.1.keep hk, h.2.keep hk⟩
theorem OpR.below {R : Nat → Prop} {w w' : World} {x : XO} (h : OpR R w x) (hb : Below w.heap.size w w') : OpR R w' x := h.keep (keep_of_below hb)
theorem OpR.wide {R R' : Nat → Prop} {w : World} {x : XO} (h : OpR R w x) (hR : ∀ b, R' b → R b ∨ w.heap.size ≤ b) : OpR R' w x := ⟨h.1.wide hR, h.2.wide hR⟩

/-- A head in memory, laid open; nothing of it lies in R. -/
structure HeadF (R : Nat → Prop) (w : World) (la : Option Addr) (nl : Nat) (Y : List XL) (oa : Option Addr) (no : Nat) (X : List XO) (L : List R3) (O : List O4) : Prop where
  ln : nl = Y.length
  log : RowAt 3 encL w la Y
  lout : Out R la Y.length
  says : Y.map stripL = L
  parts : ∀ y ∈ Y, PartsR R w y.2.2.1.1 y.2.2.2
  on : no = X.length
  opn : RowAt 4 encQ w oa X
  oout : Out R oa X.length
  osays : X.map stripO = O
  oparts : ∀ x ∈ X, OpR R w x
section
variable {R R' : Nat → Prop} {w w' : World} {la : Option Addr} {nl : Nat} {Y : List XL} {oa : Option Addr} {no : Nat} {X : List XO} {L : List R3} {O : List O4}
theorem HeadF.keep (H : HeadF R w la nl Y oa no X L O) (hk : Keep R w w') : HeadF R w' la nl Y oa no X L O :=
  ⟨H.ln, H.log.keepR H.lout hk, H.lout, H.says, fun y hy => (H.parts y hy).keep hk, H.on, H.opn.keepR H.oout hk, H.oout, H.osays, fun x hx => (H.oparts x hx).keep hk⟩
theorem HeadF.below (H : HeadF R w la nl Y oa no X L O) (hb : Below w.heap.size w w') : HeadF R w' la nl Y oa no X L O := H.keep (keep_of_below hb)
theorem HeadF.wide (H : HeadF R w la nl Y oa no X L O) (hR : ∀ b, R' b → R b ∨ w.heap.size ≤ b) : HeadF R' w la nl Y oa no X L O :=
  ⟨H.ln, H.log, H.log.out H.lout hR, H.says, fun y hy => (H.parts y hy).wide hR, H.on, H.opn, H.opn.out H.oout hR, H.osays, fun x hx => (H.oparts x hx).wide hR⟩
end

/-- A head as a value; nothing of it lies in R. -/
def HeadV (R : Nat → Prop) (w : World) (v : Value) (g : Gh) : Prop :=
  ∃ (la : Option Addr) (nl lc : Nat) (Y : List XL) (oa : Option Addr) (no oc : Nat) (X : List XO),
    v = .agg #[.slice la nl lc, .int .i64 g.boot, .int .i64 g.next, .slice oa no oc] ∧ HeadF R w la nl Y oa no X g.log g.opn
theorem HeadV.keep {R : Nat → Prop} {w w' : World} {v : Value} {g : Gh} (H : HeadV R w v g) (hk : Keep R w w') : HeadV R w' v g := by
  obtain ⟨la, nl, lc, Y, oa, no, oc, X, hv, hf⟩ := H
  exact ⟨la, nl, lc, Y, oa, no, oc, X, hv, hf.keep hk⟩
theorem HeadV.below {R : Nat → Prop} {w w' : World} {v : Value} {g : Gh} (H : HeadV R w v g) (hb : Below w.heap.size w w') : HeadV R w' v g := H.keep (keep_of_below hb)
theorem HeadV.wide {R R' : Nat → Prop} {w : World} {v : Value} {g : Gh} (H : HeadV R w v g) (hR : ∀ b, R' b → R b ∨ w.heap.size ≤ b) : HeadV R' w v g := by
  obtain ⟨la, nl, lc, Y, oa, no, oc, X, hv, hf⟩ := H
  exact ⟨la, nl, lc, Y, oa, no, oc, X, hv, hf.wide hR⟩
theorem HeadV.g {R : Nat → Prop} {w : World} {v : Value} {g : Gh} (H : HeadV R w v g) : HeadG w v g.log g.boot g.next g.opn := by
  obtain ⟨la, nl, lc, Y, oa, no, oc, X, hv, F⟩ := H
  exact ⟨la, nl, lc, Y, oa, no, oc, X, hv, ⟨by rw [F.ln, ← F.says, List.length_map], F.says, F.log, fun y hy => (F.parts y hy).1⟩, F.on, F.osays, F.opn, fun x hx => ⟨(F.oparts x hx).1.1, (F.oparts x hx).2.1⟩⟩

/-- Messages that a call has made: they, and their parts, lie in blocks of their own kinds, from base on. -/
def MsgsO (w : World) (base : Nat) (v : Value) (ms : List Q4) : Prop := ∃ X : List XM, OwnL 43 4 encM w base v X ∧ X.map stripM = ms ∧ ∀ x ∈ X, PartsT base w x.2.2.2.1.1 x.2.2.2.2
theorem MsgsO.nil (w : World) (base : Nat) : MsgsO w base (.slice none 0 0) [] := ⟨[], OwnL.nil _ _, rfl, fun x hx => by cases hx⟩
theorem MsgsO.below {w w' : World} {base : Nat} {v : Value} {ms : List Q4} (h : MsgsO w base v ms) (hb : Below w.heap.size w w') : MsgsO w' base v ms := by
  obtain ⟨X, h1, h2, h3⟩ := h
  exact ⟨X, h1.below hb (Nat.le_refl _), h2, fun x hx => (h3 x hx).calm (Calm.below hb (Nat.le_refl _))⟩
theorem MsgsO.mono {w : World} {base base' : Nat} {v : Value} {ms : List Q4} (h : MsgsO w base v ms) (hb : base' ≤ base) : MsgsO w base' v ms := by
  obtain ⟨X, h1, h2, h3⟩ := h
  exact ⟨X, h1.mono hb, h2, fun x hx => (h3 x hx).mono hb⟩
theorem MsgsO.v {w : World} {base : Nat} {v : Value} {ms : List Q4} (h : MsgsO w base v ms) {R : Nat → Prop} (hR : ∀ b, R b → b < base) : MsgsV R w v ms := by
  obtain ⟨X, h1, h2, h3⟩ := h
  obtain ⟨a, c, rfl, hr, _, _⟩ := h1.row lenM
  exact ⟨a, _, c, X, rfl, rfl, hr, h1.outR hR _, h2, fun x hx => (h3 x hx).outR hR⟩

end Go.Proofs.Ytmjekpdgmdpndaa

namespace Go.Proofs.Ytmjekpdgmdpndaa
open Go.RowKit

set_option maxHeartbeats 400000 in
theorem ofTest_any (h k n H : Int) (b : Nat) (w : World) (hb : b < w.heap.size) (c0 : w.cell? ⟨b, 0, none⟩ = some (.int .i64 H)) :
    Calls Try.prog 85 #[.agg #[.int .i64 h, .int .i64 k, .int .i64 n], .pointer (some ⟨b, 0, none⟩)] w fun e w' => e = .returned (.bool (decide (h = H))) ∧ Below w.heap.size w w' := by
  go_enter Try.func85, Try.ntmps85
  go_wp2
  all_goals
    go_ret
    refine ⟨ret_bool ?_, below1 _ _⟩
    rw [Bool.eq_iff_iff]; simp_all

theorem ofB_yes (l : List P3) (p : P3) (H : Int) (h : p.1 = H) : ofB (l ++ [p]) H = ofB l H ++ [p] := by simp [ofB, List.filter_append, h]
theorem ofB_no (l : List P3) (p : P3) (H : Int) (h : ¬ p.1 = H) : ofB (l ++ [p]) H = ofB l H := by simp [ofB, List.filter_append, h]

set_option maxHeartbeats 1000000 in
theorem keep_any (H : Int) (b : Nat) (a : Option Addr) (l : List P3) (cap n : Nat) (w : World) (hn : n = l.length) (hl : l.length ≤ 4) (hp : PartsAt w a l) (hb : b < w.heap.size) (c0 : w.cell? ⟨b, 0, none⟩ = some (.int .i64 H)) :
    Calls Try.prog 84 #[.slice a n cap, .func (.func 85) #[] #[.pointer (some ⟨b, 0, none⟩)]] w fun e w' => ∃ v, e = .returned v ∧ OwnP w' w.heap.size v (ofB l H) ∧ Below w.heap.size w w' := by
  subst hn
  go_enter Try.func84, Try.ntmps84
  go_wp2
  go_loopw [5, 10] (fun v i w' => ∃ k : Nat, k ≤ l.length ∧ i = .int .i64 k ∧ OwnP w' w.heap.size v (ofB (l.take k) H) ∧ Below w.heap.size w w') (fun _ i _ => l.length - (intOf i).toNat)
  case atStart => exact ⟨0, Nat.zero_le _, rfl, World.ownsRow_nil _ _ _ _, Below.refl _ _⟩
  case round =>
    obtain ⟨k, hk, rfl, hown, hbw⟩ := hrel
    by_cases hlt : k < l.length
    · rcases hp with rfl | ⟨b', o, rfl, hb', hc⟩
      · simp at hlt
      obtain ⟨d0, d1, d2⟩ := hc k hlt
      clear hc
      obtain ⟨hcc, hff⟩ := bcell hbw
      have hsz := hbw.size
      go_wp2_with fail
      refine (ofTest_any _ _ _ H b _ (by simp; omega) (by rw [Below.cell (below1 wr _) (by show b < _; omega), hcc _ _ hb]; exact c0)).mono ?_
      rintro e w1 ⟨rfl, hb1⟩
      have hbr : Below wr.heap.size wr w1 := (below1 wr _).trans (hb1.mono (by simp))
      have hB1 : Below w.heap.size w w1 := hbw.trans (hbr.mono hsz)
      have hsz1 : wr.heap.size + 1 ≤ w1.heap.size := by have := hb1.size; simpa using this
      have hown1 : OwnP w1 w.heap.size u5 (ofB (l.take k) H) := hown.below hbr (Nat.le_refl _)
      obtain ⟨hcc1, hff1⟩ := bcell hb1
      have q0 : w1.cell? ⟨wr.heap.size, 0, none⟩ = some (.int .i64 l[k].1) := by rw [hcc1 _ _ (by simp)]; simp
      have q1 : w1.cell? ⟨wr.heap.size, 1, none⟩ = some (.int .i64 l[k].2.1) := by rw [hcc1 _ _ (by simp)]; simp
      have q2 : w1.cell? ⟨wr.heap.size, 2, none⟩ = some (.int .i64 l[k].2.2) := by rw [hcc1 _ _ (by simp)]; simp
      have hle : (ofB (l.take k) H).length ≤ 1000000 := by
        have h1 : (ofB (l.take k) H).length ≤ (l.take k).length := List.length_filter_le _ _
        have h2 := List.length_take_le k l
        omega
      clear hcc1 hff1 hcc hff hown d0 d1 d2 c0 hb1
      by_cases hs : l[k].1 = H
      · have hd : decide (l[k].1 = H) = true := by simpa using hs
        have HE : Hid (ofB (l.take (k + 1)) H = ofB (l.take k) H ++ [l[k]]) := by show _ = _; rw [take_snoc hlt]; exact ofB_yes _ _ _ hs
        rw [hd]
        clear hs hd
        go_wp2_with (at_builtin; refine wpList_append_part _ rfl _ _ rfl w.heap.size _ _ rfl (hown1.below (below1 w1 _) (Nat.le_refl _)) w1.heap.size l[k] rfl (by exact heap_alloc_new w1 _) hle (by have := hB1.size; simp; omega) ?_; intro g cap' w2 hown2 hgrow hat hlt2)
        have hB2 : Below w.heap.size w w2 := (hB1.trans ((below1 w1 _).mono hB1.size)).grown hgrow (by have := hB1.size; simp; omega) (fun j hj => by
          rcases hown1.2 with ⟨hv, _⟩ | ⟨g', cap'', cur, hv, hg', _⟩
          · rw [hv] at hj; cases hj
          · rw [hv] at hj; cases hj; exact hg')
        clear hown1 hgrow hat q0 q1 q2 hbr
        go_wp2
        go_roundw
        case rel =>
          refine ⟨k + 1, by omega, by go_num, ?_, hB2⟩
          rw [HE.out]
          exact hown2
        case measure => simp [intOf]; omega
      · have hd : decide (l[k].1 = H) = false := by simpa using hs
        have HE : Hid (ofB (l.take (k + 1)) H = ofB (l.take k) H) := by show _ = _; rw [take_snoc hlt]; exact ofB_no _ _ _ hs
        rw [hd]
        clear hs hd
        go_wp2
        go_roundw
        case rel =>
          refine ⟨k + 1, by omega, by go_num, ?_, hB1⟩
          rw [HE.out]
          exact hown1
        case measure => simp [intOf]; omega
    · have HE : Hid (l.take k = l) := by show _ = _; rw [List.take_of_length_le (by omega)]
      clear hp
      go_wp2
      go_ret
      exact ⟨_, rfl, by rw [HE.out] at hown; exact hown, hbw⟩

set_option maxHeartbeats 400000 in
theorem of_any (H : Int) (a : Option Addr) (l : List P3) (cap n : Nat) (w : World) (hn : n = l.length) (hl : l.length ≤ 4) (hp : PartsAt w a l) :
    Calls Try.prog 62 #[.slice a n cap, .int .i64 H] w fun e w' => ∃ v, e = .returned v ∧ OwnP w' w.heap.size v (ofB l H) ∧ Below w.heap.size w w' := by
  subst hn
  have HC := keep_any H w.heap.size a l cap l.length (w.alloc (.cells #[.int .i64 H] 3)) rfl hl (hp.below (below1 w _)) (by simp) (by simp)
  clear hp
  go_enter Try.func62, Try.ntmps62
  go_wp2_with fail
  refine HC.mono ?_
  rintro e w1 ⟨v, rfl, hown, hb1⟩
  clear HC
  go_wp2
  go_ret
  refine ⟨_, rfl, ?_, (below1 w _).trans (hb1.mono (by simp))⟩
  refine ⟨hown.1, ?_⟩
  rcases hown.2 with h0 | ⟨g, cap, cur, hv, hg, r⟩
  · exact Or.inl h0
  · exact Or.inr ⟨g, cap, cur, hv, by simp at hg; omega, r⟩

end Go.Proofs.Ytmjekpdgmdpndaa
