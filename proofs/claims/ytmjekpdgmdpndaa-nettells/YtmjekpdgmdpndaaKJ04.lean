/- Several texts in one: Records and deeds in memory; what slices.Clone of parts and log.deed do; What log.Own does: a copy of a log that shares nothing with it; What slices.IndexFunc and slices.DeleteFunc do with deeds that are ready, asked for a deed's number; What part.Do does, called at whatever parts and sums that lie within bounds. -/
import Derived.Test.YtmjekpdgmdpndaaKLists
import Derived.Test.YtmjekpdgmdpndaaKJ03
import Derived.Test.YtmjekpdgmdpndaaKJ00
import Derived.Lib.SliceRun
import Derived.Deep.RegionWith
import Derived.Deep.DeepCutAuto
import Derived.OwnWalk
import Derived.Deep.RegionHeld3
import Derived.WalkSmall
import Derived.Deep.DrawnRows
namespace Go.Proofs.Ytmjekpdgmdpndaa
open Go.RowKit
attribute [local go_sem ↓] Go.wp_at_zero Go.wp_at_succ

/-- Where a slice lies, and its capacity. -/
abbrev Hd := Option Addr × Nat
/-- A record as it lies: kind, deed, where its parts lie, its parts. -/
abbrev XL := Int × Int × Hd × List P3
/-- A deed as it lies. -/
abbrev XD := Int × Hd × List P3
def encP (p : P3) : List Value := [.int .i64 p.1, .int .i64 p.2.1, .int .i64 p.2.2]
def encL (x : XL) : List Value := [.int .i64 x.1, .int .i64 x.2.1, .slice x.2.2.1.1 x.2.2.2.length x.2.2.1.2]
def encD (x : XD) : List Value := [.int .i64 x.1, .slice x.2.1.1 x.2.2.length x.2.1.2]
def encO (x : XD) : List Value := [.int .i64 x.1, .slice x.2.1.1 x.2.2.length x.2.1.2, .bool true, .slice none 0 0]
def encI (x : Int) : List Value := [.int .i64 x]
theorem lenP (x : P3) : (encP x).length = 3 := rfl
theorem lenL (x : XL) : (encL x).length = 3 := rfl
theorem lenD (x : XD) : (encD x).length = 2 := rfl
theorem lenI (x : Int) : (encI x).length = 1 := rfl
theorem oneP (x : P3) : ∀ u ∈ encP x, u.oneCell' = true := by intro u hu; simp [encP] at hu; rcases hu with rfl | rfl | rfl <;> rfl
theorem oneI (x : Int) : ∀ u ∈ encI x, u.oneCell' = true := by intro u hu; simp [encI] at hu; rcases hu with rfl; rfl
def stripL (x : XL) : R3 := (x.1, x.2.1, x.2.2.2)
def stripD (x : XD) : D2 := (x.1, x.2.2)
theorem parts_row {w : World} {a : Option Addr} {l : List P3} (h : PartsAt w a l) : RowAt 3 encP w a l := by
  rcases h with rfl | ⟨b, o, rfl, hlt, hc⟩
  · exact Or.inl rfl
  · refine Or.inr ⟨b, o, rfl, hlt, fun i hi j u hu => ?_⟩
    obtain ⟨h0, h1, h2⟩ := hc i hi
    match j, hu with
    | 0, hu => rw [← hu]; exact h0
    | 1, hu => rw [← hu]; exact h1
    | 2, hu => rw [← hu]; exact h2
    | j + 3, hu => simp [encP] at hu

/-- Records lie in memory, with their parts. -/
def RecsAt (w : World) (a : Option Addr) (X : List XL) : Prop := RowAt 3 encL w a X ∧ ∀ x ∈ X, PartsAt w x.2.2.1.1 x.2.2.2
theorem RecsAt.below {w w' : World} {a : Option Addr} {X : List XL} (h : RecsAt w a X) (hb : Below w.heap.size w w') : RecsAt w' a X := ⟨h.1.below hb, fun x hx => (h.2 x hx).below hb⟩
theorem RecsAt.get {w : World} {a : Option Addr} {X : List XL} (h : RecsAt w a X) {k : Nat} (hk : k < X.length) : ∃ b o, a = some ⟨b, o, none⟩ ∧ b < w.heap.size ∧ w.cell? ⟨b, o + k * 3, none⟩ = some (.int .i64 X[k].1) ∧ w.cell? ⟨b, o + k * 3 + 1, none⟩ = some (.int .i64 X[k].2.1) ∧
    w.cell? ⟨b, o + k * 3 + 2, none⟩ = some (.slice X[k].2.2.1.1 X[k].2.2.2.length X[k].2.2.1.2) ∧ PartsAt w X[k].2.2.1.1 X[k].2.2.2 := by
  rcases h.1 with rfl | ⟨b, o, rfl, hlt, hc⟩
  · simp at hk
  · exact ⟨b, o, rfl, hlt, hc k hk 0 _ rfl, hc k hk 1 _ rfl, hc k hk 2 _ rfl, h.2 _ (List.getElem_mem hk)⟩
/-- Deeds lie in memory, with their parts. -/
def DeedsAt (w : World) (a : Option Addr) (X : List XD) : Prop := RowAt 2 encD w a X ∧ ∀ x ∈ X, PartsAt w x.2.1.1 x.2.2
theorem DeedsAt.below {w w' : World} {a : Option Addr} {X : List XD} (h : DeedsAt w a X) (hb : Below w.heap.size w w') : DeedsAt w' a X := ⟨h.1.below hb, fun x hx => (h.2 x hx).below hb⟩
theorem DeedsAt.get {w : World} {a : Option Addr} {X : List XD} (h : DeedsAt w a X) {k : Nat} (hk : k < X.length) : ∃ b o, a = some ⟨b, o, none⟩ ∧ b < w.heap.size ∧ w.cell? ⟨b, o + k * 2, none⟩ = some (.int .i64 X[k].1) ∧
    w.cell? ⟨b, o + k * 2 + 1, none⟩ = some (.slice X[k].2.1.1 X[k].2.2.length X[k].2.1.2) ∧ PartsAt w X[k].2.1.1 X[k].2.2 := by
  rcases h.1 with rfl | ⟨b, o, rfl, hlt, hc⟩
  · simp at hk
  · exact ⟨b, o, rfl, hlt, hc k hk 0 _ rfl, hc k hk 1 _ rfl, h.2 _ (List.getElem_mem hk)⟩

end Go.Proofs.Ytmjekpdgmdpndaa

namespace Go.Proofs.Ytmjekpdgmdpndaa
open Go.RowKit
attribute [local go_sem ↓] Go.wp_at_zero Go.wp_at_succ
theorem OwnL.other {α : Type} {e : TypeId} {size : Nat} {enc : α → List Value} {w : World} {base : Nat} {v : Value} {xs : List α} (h : OwnL e size enc w base v xs) {g : Nat} (hg : w.heap.size ≤ g) : v.ownBlock ≠ some g := fun hv => by
  have := (World.ownsRow.lt h g hv).2
  omega
theorem OwnL.base {α : Type} {e : TypeId} {size : Nat} {enc : α → List Value} {w : World} {base : Nat} {v : Value} {xs : List α} (h : OwnL e size enc w base v xs) : ∀ k, v.ownBlock = some k → base ≤ k := fun k hk => (World.ownsRow.lt h k hk).1
theorem map_take_succ {α β : Type} {X : List α} {k : Nat} (h : k < X.length) (f : α → β) : (X.take (k + 1)).map f = (X.take k).map f ++ [f X[k]] := by rw [take_snoc h, List.map_append]; rfl
/-- A log that is owned: it, and its parts, lie in blocks of their own kinds. -/
def RecsO (w : World) (base : Nat) (v : Value) (Y : List XL) : Prop := OwnL 83 3 encL w base v Y ∧ ∀ y ∈ Y, PartsT base w y.2.2.1.1 y.2.2.2
theorem RecsO.at {w : World} {base : Nat} {a : Option Addr} {n c : Nat} {Y : List XL} (h : RecsO w base (.slice a n c) Y) : RecsAt w a Y := by
  obtain ⟨a', c', hv, hrow, _⟩ := h.1.row lenL
  cases hv
  exact ⟨hrow, fun y hy => (h.2 y hy).at⟩
theorem RecsO.below {w w' : World} {base : Nat} {v : Value} {Y : List XL} (h : RecsO w base v Y) (hb : Below w.heap.size w w') : RecsO w' base v Y := ⟨h.1.below hb (Nat.le_refl _), fun y hy => (h.2 y hy).calm (Calm.below hb (Nat.le_refl _))⟩

theorem RecsO.mono {w : World} {base base' : Nat} {v : Value} {Y : List XL} (h : RecsO w base v Y) (hb : base' ≤ base) : RecsO w base' v Y := ⟨h.1.mono hb, fun y hy => (h.2 y hy).mono hb⟩

end Go.Proofs.Ytmjekpdgmdpndaa

namespace Go.Proofs.Ytmjekpdgmdpndaa
open Go.RowKit
attribute [local go_sem ↓] Go.wp_at_zero Go.wp_at_succ
theorem OwnL.at {α : Type} {e : TypeId} {size : Nat} {enc : α → List Value} {w : World} {base : Nat} {a : Option Addr} {n cap : Nat} {xs : List α} (he : ∀ x, (enc x).length = size) (h : OwnL e size enc w base (.slice a n cap) xs) : RowAt size enc w a xs ∧ n = xs.length ∧ xs.length ≤ cap ∧ cap ≤ maxLen := by
  obtain ⟨a', cap', hv, h1, h2, h3⟩ := h.row he
  cases hv
  exact ⟨h1, rfl, h2, h3⟩
end Go.Proofs.Ytmjekpdgmdpndaa

namespace Go.Proofs.Ytmjekpdgmdpndaa
open Go.RowKit
attribute [local go_sem ↓] Go.wp_at_zero Go.wp_at_succ

theorem sz_int (w : World) : (sizeOf 3).run Try.prog w = .ok 1 w := by kernel_rfl
theorem part4_0 (v0 v1 v2 v3 : Value) (w : World) : (part 3 #[v0, v1, v2, v3] 0).run Try.prog w = .ok v0 w := by kernel_rfl
theorem part4_1 (v0 v1 v2 v3 : Value) (w : World) : (part 3 #[v0, v1, v2, v3] 1).run Try.prog w = .ok v1 w := by kernel_rfl
theorem part4_2 (v0 v1 v2 v3 : Value) (w : World) : (part 3 #[v0, v1, v2, v3] 2).run Try.prog w = .ok v2 w := by kernel_rfl
theorem part4_3 (v0 v1 v2 v3 : Value) (w : World) : (part 3 #[v0, v1, v2, v3] 3).run Try.prog w = .ok v3 w := by kernel_rfl
theorem eq4d (d : Nat) (a0 a1 a2 a3 b0 b1 b2 b3 : Int) (w : World) : (Op.equalIn (d + 2) 121 (.agg #[.int .i64 a0, .int .i64 a1, .int .i64 a2, .int .i64 a3]) (.agg #[.int .i64 b0, .int .i64 b1, .int .i64 b2, .int .i64 b3])).run Try.prog w = .ok (a0 == b0 && a1 == b1 && a2 == b2 && a3 == b3) w := by
  rw [Op.equalIn]
  simp only [Sem.run_bind, run_underlying Try.underlying121, Result.andThen_ok, sz_int, Std.Legacy.Range.forIn_eq_forIn_range', Std.Legacy.Range.size]
  rw [show List.range' 0 ((4 - 0 + 1 - 1) / 1) 1 = [0, 1, 2, 3] from rfl]
  simp only [List.forIn_cons, List.forIn_nil, Sem.run_bind, Nat.mul_one, part4_0, Result.andThen_ok, run_equalIn_int _ _ _ _ _ _ _ Try.underlying3, Sem.run_ite]
  cases h0 : a0 == b0 <;> cases h1 : a1 == b1 <;> cases h2 : a2 == b2 <;> cases h3 : a3 == b3 <;> simp [part4_1, part4_2, part4_3, run_equalIn_int _ _ _ _ _ _ _ Try.underlying3, h1, h2, h3]
theorem eq4 (a0 a1 a2 a3 b0 b1 b2 b3 : Int) (w : World) : (Op.equalIn 10000 121 (.agg #[.int .i64 a0, .int .i64 a1, .int .i64 a2, .int .i64 a3]) (.agg #[.int .i64 b0, .int .i64 b1, .int .i64 b2, .int .i64 b3])).run Try.prog w = .ok (a0 == b0 && a1 == b1 && a2 == b2 && a3 == b3) w := eq4d 9998 a0 a1 a2 a3 b0 b1 b2 b3 w
/-- Four numbers lie at the beginning of block b and may be written. -/
def SumsAt (w : World) (b : Nat) (t0 t1 t2 t3 : Int) : Prop :=
  (w.cell? ⟨b, 0, none⟩ = some (.int .i64 t0) ∧ w.cell? ⟨b, 1, none⟩ = some (.int .i64 t1) ∧ w.cell? ⟨b, 2, none⟩ = some (.int .i64 t2) ∧ w.cell? ⟨b, 3, none⟩ = some (.int .i64 t3)) ∧
  (w.frozen? ⟨b, 0, none⟩ = false ∧ w.frozen? ⟨b, 1, none⟩ = false ∧ w.frozen? ⟨b, 2, none⟩ = false ∧ w.frozen? ⟨b, 3, none⟩ = false)
theorem SumsAt.below {w w' : World} {B b : Nat} {t0 t1 t2 t3 : Int} (h : SumsAt w b t0 t1 t2 t3) (hb : Below B w w') (hlt : b < B) : SumsAt w' b t0 t1 t2 t3 := by
  obtain ⟨⟨c0, c1, c2, c3⟩, ⟨f0, f1, f2, f3⟩⟩ := h
  refine ⟨⟨?_, ?_, ?_, ?_⟩, ⟨?_, ?_, ?_, ?_⟩⟩
  · rw [hb.cell (p := ⟨b, 0, none⟩) hlt]; exact c0
  · rw [hb.cell (p := ⟨b, 1, none⟩) hlt]; exact c1
  · rw [hb.cell (p := ⟨b, 2, none⟩) hlt]; exact c2
  · rw [hb.cell (p := ⟨b, 3, none⟩) hlt]; exact c3
  · rw [hb.frozen (p := ⟨b, 0, none⟩) hlt]; exact f0
  · rw [hb.frozen (p := ⟨b, 1, none⟩) hlt]; exact f1
  · rw [hb.frozen (p := ⟨b, 2, none⟩) hlt]; exact f2
  · rw [hb.frozen (p := ⟨b, 3, none⟩) hlt]; exact f3

theorem cs_other {w : World} {a b : Addr} (v : Value) (h : a ≠ b) : (w.setCell a v).cell? b = w.cell? b := by apply World.cell?_setCell_other; exact h
theorem SumsAt.far {w : World} {b c j : Nat} {t0 t1 t2 t3 : Int} (h : SumsAt w b t0 t1 t2 t3) (hc : c ≠ b) (v : Value) : SumsAt (w.setCell ⟨c, j, none⟩ v) b t0 t1 t2 t3 := by
  obtain ⟨⟨c0, c1, c2, c3⟩, ⟨f0, f1, f2, f3⟩⟩ := h
  refine ⟨⟨?_, ?_, ?_, ?_⟩, ⟨by simpa using f0, by simpa using f1, by simpa using f2, by simpa using f3⟩⟩
  all_goals (rw [cs_other _ (fun h => hc (congrArg Addr.block h))]; assumption)
theorem SumsAt.drew {w : World} {b : Nat} {t0 t1 t2 t3 : Int} (h : SumsAt w b t0 t1 t2 t3) : SumsAt w.drew b t0 t1 t2 t3 := h

end Go.Proofs.Ytmjekpdgmdpndaa
