/- What model.All does, called at right deeds that lie in memory. -/
import Derived.Test.YtmihdckjoodjeabModel3
import Derived.Test.YtmihdckjoodjeabReady
import Derived.OwnWalk
namespace Go.Proofs.Ytmihdckjoodjeab
open Go.RowKit
attribute [local go_sem ↓] Go.wp_at_zero Go.wp_at_succ

def noughts (h : Nat) : List S4 := List.replicate h (0, 0, 0, 0)
theorem noughts_len (h : Nat) : (noughts h).length = h := by simp [noughts]
theorem right_noughts (h : Nat) : RightM (noughts h) := fun s hs => by rw [List.eq_of_mem_replicate hs]; decide
theorem made_noughts {h : Nat} (hh : h ≤ 3) : (madeCells (Value.agg #[.int .i64 0, .int .i64 0, .int .i64 0, .int .i64 0]).cells (h * 4)).toList = cells4L (noughts h) := by
  have e : h = 0 ∨ h = 1 ∨ h = 2 ∨ h = 3 := by omega
  rcases e with rfl | rfl | rfl | rfl <;> simp [madeCells, Value.cells, cells4L, noughts, List.replicate, List.range, List.range.loop]

/-- The value v owns the errors es, in blocks from base on. -/
def OwnE (w : World) (base : Nat) (v : Value) (es : List Int) : Prop := w.ownsRow base 26 1 v es.length (es.map (Value.int .i64))
theorem OwnE.below {w w' : World} {base : Nat} {v : Value} {es : List Int} (h : OwnE w base v es) {B : Nat} (hb : Below B w w') (hB : w.heap.size ≤ B) : OwnE w' base v es := ownsRow_below h hb hB
theorem infoErr : (Try.prog.info? 26).map (fun i => (i.zero, i.size, i.bytes)) = some (some (.int .i64 0), 1, 8) := by kernel_rfl
theorem errs_set {L : List (List P3)} {k : Nat} (h : k < L.length) (S : List S4) : (errsM S (L.take k) ++ List.replicate (L.length - k) 0).set k (errM (allM S (L.take k)) L[k]) = errsM S (L.take (k + 1)) ++ List.replicate (L.length - (k + 1)) 0 := by
  have hlen : (errsM S (L.take k)).length = k := by rw [errsM_len, List.length_take]; omega
  rw [errsM_take h, List.append_assoc, show L.length - k = (L.length - (k + 1)) + 1 by omega, List.replicate_succ, List.set_append_right k _ (by omega), hlen, Nat.sub_self]
  rfl
theorem errs_len (L : List (List P3)) (k : Nat) (S : List S4) : (errsM S (L.take k) ++ List.replicate (L.length - k) 0).length = L.length := by
  rw [List.length_append, errsM_len, List.length_take, List.length_replicate]; omega
theorem OwnM.setOther {w : World} {base : Nat} {v : Value} {S : List S4} (h : OwnM w base v S) {a : Addr} (ha : a.block < base) (u : Value) : OwnM (w.setCell a u) base v S := ownsRow_setCell_below h ha u
theorem OwnE.put {w : World} {base g cap n : Nat} {es : List Int} (h : OwnE w base (.slice (some ⟨g, 0, none⟩) n cap) es) (hn : n = es.length) (i : Nat) (x : Int) : OwnE (w.setCell ⟨g, i, none⟩ (.int .i64 x)) base (.slice (some ⟨g, 0, none⟩) n cap) (es.set i x) := by
  subst hn
  have := (World.ownsRow.stored h i (.int .i64 x)).1
  unfold OwnE
  rw [List.map_set, List.length_set]
  exact this

set_option maxHeartbeats 2000000 in
theorem mall_any (h : Nat) (a : Option Addr) (L : List (List P3)) (cap n : Nat) (w : World) (h1 : 1 ≤ h) (h3 : h ≤ 3) (hn : n = L.length) (hl : L.length ≤ 4398046511104) (hp : ReadysAt w a L) (hr : ∀ l ∈ L, wrong l h = 0) :
    Calls Try.prog 12 #[.int .i64 (h : Int), .slice a n cap] w fun e w' => ∃ v ve, e = .returned (.tuple #[v, ve]) ∧ OwnM w' w.heap.size v (allM (noughts h) L) ∧ OwnE w' w.heap.size ve (errsM (noughts h) L) ∧ Below w.heap.size w w' := by
  subst hn
  obtain ⟨i0, hi, hz0, hz1, hz2⟩ := info_parts infoSums
  obtain ⟨j0, hj, hy0, hy1, hy2⟩ := info_parts infoErr
  have g1 : ¬ (h : Int) < 1 := by omega
  have g3 : ¬ (3 : Int) < (h : Int) := by omega
  have g3' : ¬ (h : Int) > 3 := by omega
  have HP : Hid (ReadysAt w a L ∧ ∀ l ∈ L, wrong l h = 0) := ⟨hp, hr⟩
  clear hp hr
  go_enter Try.func12, Try.ntmps12
  go_wp2_with (
    first
    | (at_make; refine wpList_make_full _ rfl _ _ 22 rfl w.heap.size 29 i0 _ 4 Try.underlying22 hi hz0 hz1 .i64 .i64 _ _ h rfl rfl rfl rfl (by rw [hz2]; omega) (by unfold maxLen; omega) (Nat.le_refl _) ?_; intro w1 hown1 hgrow1)
    | (at_make; refine wpList_make_full _ rfl _ _ 35 rfl w.heap.size 26 j0 _ 1 Try.underlying35 hj hy0 hy1 .i64 .i64 _ _ L.length rfl rfl rfl rfl (by rw [hy2]; omega) (by unfold maxLen; omega) hgrow1.size ?_; intro w2 hown2 hgrow2))
  have hB1 : Below w.heap.size w w1 := (Below.refl _ _).grown hgrow1 (Nat.le_refl _) (fun k hk => by cases hk)
  have hs1 := hB1.size
  rw [made_noughts h3] at hown1
  have ho1 : OwnM w1 w.heap.size (.slice (some ⟨w.heap.size, 0, none⟩) h h) (noughts h) := by unfold OwnM; rw [noughts_len]; exact hown1
  have hlt1 := (World.ownsRow.lt ho1 w.heap.size rfl).2
  clear hgrow1 hown1 hi hz0 hz1 hz2
  have hB2 : Below w.heap.size w w2 := hB1.grown hgrow2 hs1 (fun k hk => by cases hk)
  have ho2 : OwnM w2 w.heap.size (.slice (some ⟨w.heap.size, 0, none⟩) h h) (noughts h) := World.ownsRow.kept ho1 hgrow2 (Or.inr (by simp [Value.ownBlock]))
  have he2 : OwnE w2 w.heap.size (.slice (some ⟨w1.heap.size, 0, none⟩) L.length L.length) (List.replicate L.length 0) := by
    unfold OwnE
    rw [List.length_replicate, List.map_replicate]
    have e : (madeCells (Value.int .i64 0).cells (L.length * 1)).toList = List.replicate L.length (Value.int .i64 0) := by
      rw [Nat.mul_one]; exact toList_madeCells_one _ _
    rw [← e]; exact hown2
  have hlt2 := (World.ownsRow.lt he2 w1.heap.size rfl).2
  clear hgrow2 hown2 hj hy0 hy1 hy2 ho1 hB1
  go_wp2
  go_loopw [6, 23] (fun v i w' => ∃ k : Nat, k ≤ L.length ∧ i = .int .i64 k ∧ OwnM w' w.heap.size v (allM (noughts h) (L.take k)) ∧ OwnE w' w.heap.size (.slice (some ⟨w1.heap.size, 0, none⟩) L.length L.length) (errsM (noughts h) (L.take k) ++ List.replicate (L.length - k) 0) ∧ Below w.heap.size w w' ∧ w1.heap.size < w'.heap.size) (fun _ i _ => L.length - (intOf i).toNat)
  case atStart => exact ⟨0, Nat.zero_le _, rfl, ho2, he2, hB2, hlt2⟩
  case round =>
    obtain ⟨k, hk, rfl, hor, her, hbw, hgr⟩ := hrel
    clear ho2 he2 hB2 hlt2 hlt1
    have hsz := hbw.size
    by_cases hlt : k < L.length
    · have hpr := HP.out.1.below hbw
      rcases hpr with rfl | ⟨b', o, rfl, hb', hc⟩
      · simp at hlt
      obtain ⟨d, a', cp, d0, d1, hq, hcp, hmx⟩ := hc k hlt
      have hwk := HP.out.2 _ (List.getElem_mem hlt)
      have HA : Hid (allM (noughts h) (L.take (k + 1)) = doM (allM (noughts h) (L.take k)) L[k] ∧ errsM (noughts h) (L.take (k + 1)) ++ List.replicate (L.length - (k + 1)) 0 = (errsM (noughts h) (L.take k) ++ List.replicate (L.length - k) 0).set k (errM (allM (noughts h) (L.take k)) L[k])) := ⟨allM_take hlt _, (errs_set hlt _).symm⟩
      have hrm : RightM (allM (noughts h) (L.take k)) := right_allM (right_noughts h) (fun l hl => HP.out.2 l (List.mem_of_mem_take hl))
      have hlm : (allM (noughts h) (L.take k)).length = h := by rw [allM_len, noughts_len]
      have hle := errs_len L k (noughts h)
      obtain ⟨av, cv, rfl, hsv, _⟩ := hor.sums
      generalize allM (noughts h) (L.take k) = T at *
      generalize errsM (noughts h) (L.take k) ++ List.replicate (L.length - k) 0 = es at *
      generalize L[k] = l at *
      obtain ⟨q1, q4, qin, _⟩ := wrong_ok hwk
      have HX : Hid (SumsL wr av T ∧ PartsAt wr a' l ∧ Small l ∧ (∀ s ∈ T, Within 2199023255552 s) ∧ T.length = h ∧ es.length = L.length ∧ OwnE wr w.heap.size (.slice (some ⟨w1.heap.size, 0, none⟩) L.length L.length) es ∧ Below w.heap.size w wr) := ⟨hsv, hq, small_of qin, fun s hs => within_mono (within_right (hrm s hs)) (by omega), hlm, hle, her, hbw⟩
      clear hc hq hsv hrm hlm hle her hor qin hwk hbw
      go_wp2_with fail
      refine (mdo_any av a' T l _ _ _ _ _ rfl rfl (by rw [HX.out.2.2.2.2.1]; exact h3) q4 (HX.out.1.below (below1 wr _)) (HX.out.2.1.below (below1 wr _)) HX.out.2.2.1 HX.out.2.2.2.1).mono ?_
      rintro e w3 ⟨v3, rfl, ho3, hb3⟩
      have hB3 : Below wr.heap.size wr w3 := (below1 wr _).trans (hb3.mono (by simp))
      have hsz3 : wr.heap.size + 1 ≤ w3.heap.size := by have := hb3.size; simpa using this
      have he3 := HX.out.2.2.2.2.2.2.1.below hB3 (Nat.le_refl _)
      have he3' := he3
      unfold OwnE at he3'
      rw [HX.out.2.2.2.2.2.1] at he3'
      obtain ⟨y0, c0⟩ : ∃ y, w3.cell? ⟨w1.heap.size, k, none⟩ = some (.int .i64 y) := by
        have hke : k < es.length := by rw [HX.out.2.2.2.2.2.1]; exact hlt
        refine ⟨es[k], ?_⟩
        rw [he3'.cellAt k (by omega), List.getElem?_map, List.getElem?_eq_getElem hke]
        rfl
      have f0 := he3'.frozenAt k
      have hE4 := he3.put HX.out.2.2.2.2.2.1.symm k (errM T l)
      have hM4 := (ho3.setOther (a := ⟨w1.heap.size, k, none⟩) (by simp; omega) (.int .i64 (errM T l))).mono (base' := w.heap.size) (by simp; omega)
      rw [← HA.out.1] at hM4
      rw [← HA.out.2] at hE4
      have HM : Hid _ := And.intro hM4 hE4
      clear he3 he3' ho3 hE4 hM4 hb3 d0 d1
      generalize errM T l = er at *
      obtain ⟨ax, nx, cx, rfl⟩ : ∃ a n c, v3 = .slice a n c := by
        obtain ⟨a, c, hv, _⟩ := HM.out.1.sums
        exact ⟨a, _, c, hv⟩
      go_wp2
      go_roundw
      case rel => exact ⟨k + 1, by omega, by go_num, HM.out.1, HM.out.2, (HX.out.2.2.2.2.2.2.2.trans (hB3.mono hsz)).setCell (by simpa using hs1) _, by simp; omega⟩
      case measure => simp [intOf]; omega
    · have HE : Hid (L.take k = L ∧ L.length - k = 0) := ⟨List.take_of_length_le (by omega), by omega⟩
      rw [HE.out.1] at hor her
      rw [HE.out.2, List.replicate_zero, List.append_nil] at her
      obtain ⟨ax, cx, rfl, _⟩ := hor.sums
      have HM : Hid _ := And.intro hor her
      clear hor her
      generalize (allM (noughts h) L).length = nx at *
      go_wp2
      refine bodyPost_ret (v := .tuple #[.slice ax nx cx, .slice (some ⟨w1.heap.size, 0, none⟩) L.length L.length]) ?_ rfl ⟨_, _, rfl, HM.out.1, HM.out.2, hbw⟩
      simp [results, Try.results12, go_sem]

end Go.Proofs.Ytmihdckjoodjeab
