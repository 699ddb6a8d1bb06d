/- Records and deeds in memory; what slices.Clone of parts and log.deed do. -/
import Derived.Test.YtikmnaegalmfeaaKLists
import Derived.Test.YtikmnaegalmfeaaKLog0
import Derived.Lib.SliceRun
import Derived.Deep.RegionWith
namespace Go.Proofs.Ytikmnaegalmfeaa
open Go.RowKit
attribute [local go_sem ↓] Go.wp_at_zero Go.wp_at_succ

/-- Where a slice lies, and its capacity. -/
abbrev Hd := Option Addr × Nat
/-- A record as it lies: kind, deed, where its parts lie, its parts. -/
abbrev XL := Int × Int × Hd × List P3
/-- A deed as it lies. -/
abbrev XD := Int × Hd × List P3
def encP (p : P3) : List Value := [.int .i64 p.1, .int .i64 p.2.1, .int .i64 p.2.2]
def encL (x : XL) : List Value := [.int .i64 x.1, .int .i64 x.2.1, .slice x.2.2.1.1 x.2.2.2.length x.2.2.1.2]
def encD (x : XD) : List Value := [.int .i64 x.1, .slice x.2.1.1 x.2.2.length x.2.1.2]
def encI (x : Int) : List Value := [.int .i64 x]
theorem lenP (x : P3) : (encP x).length = 3 := rfl
theorem lenL (x : XL) : (encL x).length = 3 := rfl
theorem lenD (x : XD) : (encD x).length = 2 := rfl
theorem lenI (x : Int) : (encI x).length = 1 := rfl
theorem oneP (x : P3) : ∀ u ∈ encP x, u.oneCell' = true := by intro u hu; simp [encP] at hu; rcases hu with rfl | rfl | rfl <;> rfl
theorem oneL (x : XL) : ∀ u ∈ encL x, u.oneCell' = true := by intro u hu; simp [encL] at hu; rcases hu with rfl | rfl | rfl <;> rfl
theorem oneD (x : XD) : ∀ u ∈ encD x, u.oneCell' = true := by intro u hu; simp [encD] at hu; rcases hu with rfl | rfl <;> rfl
theorem oneI (x : Int) : ∀ u ∈ encI x, u.oneCell' = true := by intro u hu; simp [encI] at hu; rcases hu with rfl; rfl
def stripL (x : XL) : R3 := (x.1, x.2.1, x.2.2.2)
def stripD (x : XD) : D2 := (x.1, x.2.2)
theorem infoRec : (Try.prog.info? 67).map (fun i => (i.zero, i.size, i.bytes)) = some (some (.agg #[.int .i64 0, .int .i64 0, .slice none 0 0]), 3, 40) := by kernel_rfl
theorem infoReady : (Try.prog.info? 69).map (fun i => (i.zero, i.size, i.bytes)) = some (some (.agg #[.int .i64 0, .slice none 0 0]), 2, 32) := by kernel_rfl

theorem parts_row {w : World} {a : Option Addr} {l : List P3} (h : PartsAt w a l) : RowAt 3 encP w a l := by
  rcases h with rfl | ⟨b, o, rfl, hlt, hc⟩
  · exact Or.inl rfl
  · refine Or.inr ⟨b, o, rfl, hlt, fun i hi j u hu => ?_⟩
    obtain ⟨h0, h1, h2⟩ := hc i hi
    match j, hu with
    | 0, hu => rw [← hu]; exact h0
    | 1, hu => rw [← hu]; exact h1
    | 2, hu => rw [← hu]; exact h2
    | j + 3, hu => simp [encP] at hu

/-- Records lie in memory, with their parts. -/
def RecsAt (w : World) (a : Option Addr) (X : List XL) : Prop := RowAt 3 encL w a X ∧ ∀ x ∈ X, PartsAt w x.2.2.1.1 x.2.2.2
theorem RecsAt.below {w w' : World} {a : Option Addr} {X : List XL} (h : RecsAt w a X) (hb : Below w.heap.size w w') : RecsAt w' a X := ⟨h.1.below hb, fun x hx => (h.2 x hx).below hb⟩
theorem RecsAt.get {w : World} {a : Option Addr} {X : List XL} (h : RecsAt w a X) {k : Nat} (hk : k < X.length) : ∃ b o, a = some ⟨b, o, none⟩ ∧ b < w.heap.size ∧ w.cell? ⟨b, o + k * 3, none⟩ = some (.int .i64 X[k].1) ∧ w.cell? ⟨b, o + k * 3 + 1, none⟩ = some (.int .i64 X[k].2.1) ∧
    w.cell? ⟨b, o + k * 3 + 2, none⟩ = some (.slice X[k].2.2.1.1 X[k].2.2.2.length X[k].2.2.1.2) ∧ PartsAt w X[k].2.2.1.1 X[k].2.2.2 := by
  rcases h.1 with rfl | ⟨b, o, rfl, hlt, hc⟩
  · simp at hk
  · exact ⟨b, o, rfl, hlt, hc k hk 0 _ rfl, hc k hk 1 _ rfl, hc k hk 2 _ rfl, h.2 _ (List.getElem_mem hk)⟩
/-- Deeds lie in memory, with their parts. -/
def DeedsAt (w : World) (a : Option Addr) (X : List XD) : Prop := RowAt 2 encD w a X ∧ ∀ x ∈ X, PartsAt w x.2.1.1 x.2.2
theorem DeedsAt.below {w w' : World} {a : Option Addr} {X : List XD} (h : DeedsAt w a X) (hb : Below w.heap.size w w') : DeedsAt w' a X := ⟨h.1.below hb, fun x hx => (h.2 x hx).below hb⟩
theorem DeedsAt.get {w : World} {a : Option Addr} {X : List XD} (h : DeedsAt w a X) {k : Nat} (hk : k < X.length) : ∃ b o, a = some ⟨b, o, none⟩ ∧ b < w.heap.size ∧ w.cell? ⟨b, o + k * 2, none⟩ = some (.int .i64 X[k].1) ∧
    w.cell? ⟨b, o + k * 2 + 1, none⟩ = some (.slice X[k].2.1.1 X[k].2.2.length X[k].2.1.2) ∧ PartsAt w X[k].2.1.1 X[k].2.2 := by
  rcases h.1 with rfl | ⟨b, o, rfl, hlt, hc⟩
  · simp at hk
  · exact ⟨b, o, rfl, hlt, hc k hk 0 _ rfl, hc k hk 1 _ rfl, h.2 _ (List.getElem_mem hk)⟩

set_option maxHeartbeats 1000000 in
theorem cloneP_any (a : Option Addr) (l : List P3) (cap n : Nat) (w : World) (hn : n = l.length) (hl : l.length ≤ 1000) (hp : PartsAt w a l) :
    Calls Try.prog 52 #[.slice a n cap] w fun e w' => ∃ a' c', e = .returned (.slice a' n c') ∧ PartsT w.heap.size w' a' l ∧ Below w.heap.size w w' := by
  have q : ∀ (w : World) (a : Option Addr) (n c n' c' : Nat), (binOp .eql 23 (.slice a n c) (.slice none n' c')).run Try.prog w = .ok (.bool a.isNone) w := fun w a n c n' c' => Lib.run_eql_slice_nil w _ _ a n c n' c' Try.underlying23
  cases a with
  | none =>
    have h0 : l = [] := by
      rcases hp with h | ⟨b, o, h, _⟩
      · exact h
      · cases h
    subst h0
    subst hn
    clear hp
    go_enter Try.func52, Try.ntmps52
    go_wp2
    go_ret
    exact ⟨_, _, rfl, Or.inl rfl, Below.refl _ _⟩
  | some ad =>
    have HP : Hid (PartsAt w (some ad) l) := hp
    have HN : Hid (n = l.length) := hn
    clear hp hn
    go_enter Try.func52, Try.ntmps52
    go_wp2_with (at_builtin; refine wpList_append_list lenP oneP Try.underlying23 infoPart rfl (by decide) (by decide) _ rfl _ _ rfl w.heap.size _ [] rfl (World.ownsRow_made w #[] 0 (Nat.le_refl _) (Nat.zero_le _) (by simp)) (some ad) n cap l rfl HN.out (parts_row (HP.out.below (below1 w _))) (by simp; omega) (by simp) ?_; intro a' n' c' w1 hown hn' hgrow hat)
    have HO : Hid (OwnP w1 w.heap.size (.slice a' n' c') l ∧ n' = n) := ⟨by rw [List.nil_append] at hown; exact hown, by rw [hn', HN.out]; simp⟩
    clear hown hn' hat
    go_wp2
    go_ret
    obtain ⟨a2, c2, hv, ht, _⟩ := HO.out.1.typed
    cases hv
    have e := HO.out.2
    subst e
    refine ⟨a', c', rfl, ht, ?_⟩
    exact ((Below.refl _ w).alloc (Nat.le_refl _) _).grown hgrow (by simp) (by intro k hk; cases hk; exact Nat.le_refl _)

set_option maxHeartbeats 1000000 in
theorem deed_any (k d : Int) (a : Option Addr) (l : List P3) (cap n : Nat) (w : World) (hn : n = l.length) (hl : l.length ≤ 1000) (hp : PartsAt w a l) :
    Calls Try.prog 88 #[.agg #[.int .i64 k, .int .i64 d, .slice a n cap]] w fun e w' => ∃ a' c', e = .returned (.agg #[.int .i64 d, .slice a' n c']) ∧ PartsT w.heap.size w' a' l ∧ Below w.heap.size w w' := by
  have HP : Hid (PartsAt w a l ∧ n = l.length) := ⟨hp, hn⟩
  clear hp hn
  go_enter Try.func88, Try.ntmps88
  go_wp2_with fail
  have hbX := below2 w (.cells #[.int .i64 k, .int .i64 d, .slice a n cap] 67) (.cells #[.int .i64 0, .slice none 0 0] 69)
  have hr : Blk ((w.alloc (.cells #[.int .i64 k, .int .i64 d, .slice a n cap] 67)).alloc (.cells #[.int .i64 0, .slice none 0 0] 69)) w.heap.size #[.int .i64 k, .int .i64 d, .slice a n cap] 67 := (Blk.new w _ _).alloc _
  have hz : Blk ((w.alloc (.cells #[.int .i64 k, .int .i64 d, .slice a n cap] 67)).alloc (.cells #[.int .i64 0, .slice none 0 0] 69)) (w.heap.size + 1) #[.int .i64 0, .slice none 0 0] 69 := heap2 _ _ _
  have hp := HP.out.1.below hbX
  generalize ((w.alloc (.cells #[.int .i64 k, .int .i64 d, .slice a n cap] 67)).alloc (.cells #[.int .i64 0, .slice none 0 0] 69)) = X at *
  have HX : Hid (PartsAt X a l ∧ Below w.heap.size w X ∧ (∀ w', Below X.heap.size X w' → Blk w' (w.heap.size + 1) #[.int .i64 0, .slice none 0 0] 69)) := ⟨hp, hbX, fun w' hb => hz.below hb hz.lt⟩
  have HK : Hid (∀ w', Below X.heap.size X w' → ((w'.cell? ⟨w.heap.size, 1, none⟩ = some (.int .i64 d) ∧ w'.cell? ⟨w.heap.size, 2, none⟩ = some (.slice a n cap)) ∧ (w'.cell? ⟨w.heap.size + 1, 0, none⟩ = some (.int .i64 0) ∧ w'.cell? ⟨w.heap.size + 1, 1, none⟩ = some (.slice none 0 0)) ∧ w'.frozen? ⟨w.heap.size + 1, 0, none⟩ = false ∧ w'.frozen? ⟨w.heap.size + 1, 1, none⟩ = false)) := fun w' hb =>
    ⟨⟨(hr.below hb hr.lt).cell 1, (hr.below hb hr.lt).cell 2⟩, ⟨(hz.below hb hz.lt).cell 0, (hz.below hb hz.lt).cell 1⟩, (hz.below hb hz.lt).free 0, (hz.below hb hz.lt).free 1⟩
  have hX0 : Below X.heap.size X X.drew := (Below.refl _ _).drew
  obtain ⟨⟨i0, i1⟩, ⟨i2, i3⟩, i4, i5⟩ := HK.out _ hX0
  clear hr hz hp hbX
  go_region_with (go_at_call 52; refine (cloneP_any a l cap n _ HP.out.2 hl (by exact HX.out.1.below hX0)).mono ?_; rintro e we ⟨a', c', rfl, ht, hbe⟩; have hBe : Below X.heap.size X we := hX0.trans (hbe.mono hX0.size); obtain ⟨⟨j0, j1⟩, ⟨j2, j3⟩, j4, j5⟩ := HK.out _ hBe; clear hbe i0 i1 i2 i3 i4 i5)
  all_goals
    have hz := HX.out.2.2 _ hBe
    have hb2 := (hz.set 0 (.int .i64 d)).set 1 (.slice a' n c')
    have ht2 : PartsT w.heap.size ((we.setCell ⟨w.heap.size + 1, 0, none⟩ (.int .i64 d)).setCell ⟨w.heap.size + 1, 1, none⟩ (.slice a' n c')) a' l := ((ht.mono (show w.heap.size ≤ _ from HX.out.2.1.size)).calm (Calm.setCell (a := ⟨w.heap.size + 1, 0, none⟩) hz (by decide) _)).calm (Calm.setCell (a := ⟨w.heap.size + 1, 1, none⟩) (hz.set 0 (.int .i64 d)) (by decide) _)
    have hbw : Below w.heap.size w ((we.setCell ⟨w.heap.size + 1, 0, none⟩ (.int .i64 d)).setCell ⟨w.heap.size + 1, 1, none⟩ (.slice a' n c')) := ((HX.out.2.1.trans (hBe.mono HX.out.2.1.size)).setCell (by simp) _).setCell (by simp) _
    clear ht j0 j1 j2 j3 j4 j5 hz
    go_wp2_with fail
    have e0 := hb2.cell 0
    have e1 := hb2.cell 1
    simp only [List.setIfInBounds_toArray, List.set_cons_zero, List.set_cons_succ, List.getElem?_toArray, List.getElem?_cons_zero, List.getElem?_cons_succ] at e0 e1
    refine bodyPost_ret (v := .agg #[.int .i64 d, .slice a' n c']) ?_ rfl ⟨a', c', rfl, ht2, hbw⟩
    simp [results, Try.results88, go_sem, e0, e1]

end Go.Proofs.Ytikmnaegalmfeaa
