/- What the document's All does, called at right deeds that lie in memory. -/
import Derived.Test.YtmihdckjoodjeabModel5
import Derived.Test.YtmihdckjoodjeabModel7
namespace Go.Proofs.Ytmihdckjoodjeab
open Go.RowKit
attribute [local go_sem ↓] Go.wp_at_zero Go.wp_at_succ

theorem SumsL.grown {w w' : World} {a : Option Addr} {S : List S4} (h : SumsL w a S) {row : Option Nat} (hg : w.grownBy w' row) (hne : ∀ ad, a = .some ad → row ≠ .some ad.block) : SumsL w' a S := by
  rcases h with rfl | ⟨b, o, rfl, hlt, hc⟩
  · exact Or.inl rfl
  · have e : ∀ i, w'.cell? ⟨b, i, none⟩ = w.cell? ⟨b, i, none⟩ := fun i => World.grownBy.cell_far hg ⟨b, i, none⟩ hlt (Ne.symm (hne ⟨b, o, none⟩ rfl))
    refine Or.inr ⟨b, o, rfl, Nat.lt_of_lt_of_le hlt hg.size, fun i hi => ?_⟩
    rw [e, e, e, e]
    exact hc i hi
/-- 'append(v, x)' where v owns errors and x lies in a block of its own. -/
theorem wpList_append_err {ops : Array Oper} {rest : List Oper} {o : Oper} {a : Act} {Q : Exit → Act → World → Prop} (w : World) (hgd : o.guard = none) (s x : Operand)
    (ho : o.op = .call { callee := .builtin .append, args := #[s, x], argTypes := #[35, 35] })
    (base : Nat) (v : Value) (es : List Int) (hs : a.eval s = v) (hown : OwnE w base v es) (B : Nat) (p : Int) (hx : a.eval x = .slice (some ⟨B, 0, none⟩) 1 1)
    (hB : w.heap[B]? = some (.cells #[.int .i64 p] 26)) (hl : es.length ≤ 4398046511104) (hbase : base ≤ w.heap.size)
    (h : ∀ g cap w', OwnE w' base (.slice (some ⟨g, 0, none⟩) (es.length + 1) cap) (es ++ [p]) → w.grownBy w' v.ownBlock → (v.ownBlock = some g ∨ g = w.heap.size) → g < w'.heap.size → wpList Try.prog ops Q rest (a.put o.dst (.slice (some ⟨g, 0, none⟩) (es.length + 1) cap)) w') : wpList Try.prog ops Q (o :: rest) a w := by
  obtain ⟨i0, hi, hz0, hz1, hz2⟩ := info_parts infoErr
  refine wpList_append_lies w hgd s x 35 ho base 26 i0 _ 1 8 Try.underlying35 hi hz0 hz1 hz2 rfl (by decide) v es.length (es.map (Value.int .i64)) hs hown ⟨B, 0, none⟩ 1 1 [.int .i64 p] hx rfl (World.news_of_block hB) ?_ (by decide) (by unfold maxLen; omega) (by omega) hbase w.heap.size rfl ?_
  · intro u hu
    simp at hu
    rcases hu with rfl
    rfl
  · intro g cap w' h1 h2 h3 h4
    refine h g cap w' ?_ h2 h3 h4
    unfold OwnE
    rw [List.map_append, List.length_append]
    exact h1

set_option maxRecDepth 20000 in
set_option maxHeartbeats 2000000 in
theorem refAll_any (h : Nat) (a : Option Addr) (L : List (List P3)) (cap n : Nat) (w : World) (h1 : 1 ≤ h) (h3 : h ≤ 3) (hn : n = L.length) (hl : L.length ≤ 4398046511104) (hp : ReadysAt w a L) (hr : ∀ l ∈ L, wrong l h = 0) :
    Calls Try.prog 13 #[.int .i64 (h : Int), .slice a n cap] w fun e w' => ∃ ax cx ve, e = .returned (.tuple #[.slice ax h cx, ve]) ∧ SumsL w' ax (allM (noughts h) L) ∧ OwnE w' w.heap.size ve (errsM (noughts h) L) ∧ Below w.heap.size w w' := by
  subst hn
  obtain ⟨i0, hi, hz0, hz1, hz2⟩ := info_parts infoSums
  have HP : Hid (ReadysAt w a L ∧ ∀ l ∈ L, wrong l h = 0) := ⟨hp, hr⟩
  clear hp hr
  go_enter Try.func13, Try.ntmps13
  go_wp2_with (at_make; refine wpList_make_full _ rfl _ _ 22 rfl w.heap.size 29 i0 _ 4 Try.underlying22 hi hz0 hz1 .i64 .i64 _ _ h rfl rfl rfl rfl (by rw [hz2]; omega) (by unfold maxLen; omega) (Nat.le_refl _) ?_; intro w1 hown1 hgrow1)
  have hB1 : Below w.heap.size w w1 := (Below.refl _ _).grown hgrow1 (Nat.le_refl _) (fun k hk => by cases hk)
  rw [made_noughts h3] at hown1
  have ho1 : OwnM w1 w.heap.size (.slice (some ⟨w.heap.size, 0, none⟩) h h) (noughts h) := by unfold OwnM; rw [noughts_len]; exact hown1
  obtain ⟨ay, cy, hy, hs1, _⟩ := ho1.sums
  simp only [Value.slice.injEq] at hy
  obtain ⟨rfl, -, rfl⟩ := hy
  clear hgrow1 hown1 hi hz0 hz1 hz2 ho1
  go_loopw [6, 7, 16] (fun v ve i w' => ∃ (k : Nat) (ax : Option Addr) (cx : Nat), k ≤ L.length ∧ i = .int .i64 k ∧ v = .slice ax h cx ∧ SumsL w' ax (allM (noughts h) (L.take k)) ∧ OwnE w' w.heap.size ve (errsM (noughts h) (L.take k)) ∧ (∀ ad, ax = some ad → ve.ownBlock ≠ some ad.block) ∧ Below w.heap.size w w') (fun _ _ i _ => L.length - (intOf i).toNat)
  case atStart => exact ⟨0, _, _, Nat.zero_le _, rfl, rfl, hs1, World.ownsRow_nil _ _ _ _, (fun ad _ hh => by cases hh), hB1⟩
  case round =>
    obtain ⟨k, ax, cx, hk, rfl, rfl, hsx, her, hne, hbw⟩ := hrel
    clear hs1 hB1
    have hsz := hbw.size
    by_cases hlt : k < L.length
    · have hpr := HP.out.1.below hbw
      rcases hpr with rfl | ⟨b', o, rfl, hb', hc⟩
      · simp at hlt
      obtain ⟨d, a', cp, d0, d1, hq, hcp, hmx⟩ := hc k hlt
      have hwk := HP.out.2 _ (List.getElem_mem hlt)
      have HA : Hid (allM (noughts h) (L.take (k + 1)) = doM (allM (noughts h) (L.take k)) L[k] ∧ errsM (noughts h) (L.take (k + 1)) = errsM (noughts h) (L.take k) ++ [errM (allM (noughts h) (L.take k)) L[k]]) := ⟨allM_take hlt _, errsM_take hlt _⟩
      have hrm : RightM (allM (noughts h) (L.take k)) := right_allM (right_noughts h) (fun l hl => HP.out.2 l (List.mem_of_mem_take hl))
      have hlm : (allM (noughts h) (L.take k)).length = h := by rw [allM_len, noughts_len]
      have hle : (errsM (noughts h) (L.take k)).length ≤ 4398046511104 := by rw [errsM_len, List.length_take]; omega
      generalize allM (noughts h) (L.take k) = T at *
      generalize errsM (noughts h) (L.take k) = es at *
      generalize L[k] = l at *
      obtain ⟨q1, q4, qin, _⟩ := wrong_ok hwk
      have HX : Hid (SumsL wr ax T ∧ PartsAt wr a' l ∧ Small l ∧ (∀ s ∈ T, Within 2199023255552 s) ∧ T.length = h ∧ es.length ≤ 4398046511104 ∧ OwnE wr w.heap.size u7 es ∧ Below w.heap.size w wr ∧ (∀ p ∈ l, keyB p.2.1 = true)) := ⟨hsx, hq, small_of qin, fun s hs => within_mono (within_right (hrm s hs)) (by omega), hlm, hle, her, hbw, fun p hp => by
        have := qin p hp
        simp only [inB, decide_eq_true_eq] at this
        simp only [keyB, decide_eq_true_eq]; omega⟩
      have HNE : Hid (∀ ad, ax = some ad → u7.ownBlock ≠ some ad.block) := hne
      clear hc hq hsx hrm hlm hle her qin hwk hbw hne
      go_wp2_with fail
      refine (refDoAll_any ax a' T l _ _ _ _ _ HX.out.2.2.2.2.1.symm rfl (by rw [HX.out.2.2.2.2.1]; exact h3) q4 (HX.out.1.below (below1 wr _)) (HX.out.2.1.below (below1 wr _)) HX.out.2.2.1 HX.out.2.2.2.2.2.2.2.2 HX.out.2.2.2.1).mono ?_
      rw [HX.out.2.2.2.2.1]
      rintro e w3 ⟨az, cz, rfl, hs3, hal, hb3⟩
      have hB3 : Below wr.heap.size wr w3 := (below1 wr _).trans (hb3.mono (by simp))
      have hsz3 : wr.heap.size + 1 ≤ w3.heap.size := by have := hb3.size; simpa using this
      have he3 := HX.out.2.2.2.2.2.2.1.below hB3 (Nat.le_refl _)
      have hne3 : ∀ ad, az = some ad → u7.ownBlock ≠ some ad.block := by
        rcases hal with rfl | hal
        · exact HNE.out
        · intro ad had hu
          have h1 := hal ad had
          have h2 := (World.ownsRow.lt HX.out.2.2.2.2.2.2.1 ad.block hu).2
          simp at h1
          omega
      rw [← HA.out.1] at hs3
      have hbw3 : Below w.heap.size w w3 := HX.out.2.2.2.2.2.2.2.1.trans (hB3.mono hsz)
      have HS : Hid (SumsL w3 az (allM (noughts h) (L.take (k + 1))) ∧ OwnE w3 w.heap.size u7 es ∧ (∀ ad, az = some ad → u7.ownBlock ≠ some ad.block) ∧ Below w.heap.size w w3) := ⟨hs3, he3, hne3, hbw3⟩
      clear hs3 he3 hne3 hbw3 hal hb3 d0 d1
      generalize errM T l = er at *
      go_wp2_with (at_builtin; refine wpList_append_err _ rfl _ _ rfl w.heap.size u7 es rfl (HS.out.2.1.below (below1 w3 _) (Nat.le_refl _)) w3.heap.size er rfl (by exact heap_alloc_new w3 _) HX.out.2.2.2.2.2.1 (by have := HS.out.2.2.2.size; simp; omega) ?_; intro g cap' w4 he4 hgrow hat hlt4)
      have hs4 : SumsL w4 az (allM (noughts h) (L.take (k + 1))) := (HS.out.1.below (below1 w3 _)).grown hgrow (fun ad had => HS.out.2.2.1 ad had)
      have hB4 : Below w.heap.size w w4 := (HS.out.2.2.2.trans ((below1 w3 _).mono (by have := HS.out.2.2.2.size; omega))).grown hgrow (by have := HS.out.2.2.2.size; simp; omega) (fun j hj => (World.ownsRow.lt HS.out.2.1 j hj).1)
      have hne4 : ∀ ad, az = some ad → (Value.slice (some ⟨g, 0, none⟩) (es.length + 1) cap').ownBlock ≠ some ad.block := by
        intro ad had hu
        simp [Value.ownBlock] at hu
        rcases hat with hat | hat
        · exact HS.out.2.2.1 ad had (by rw [hat, hu])
        · rcases HS.out.1 with h0 | ⟨b2, o2, e2, hlt2, _⟩
          · have := allM_len (L.take (k + 1)) (noughts h)
            rw [h0, noughts_len] at this
            simp at this
            omega
          · rw [e2] at had
            cases had
            simp at hat hu
            omega
      rw [← HA.out.2] at he4
      have HM : Hid _ := And.intro hs4 (And.intro he4 (And.intro hne4 hB4))
      clear hs4 he4 hne4 hB4 hgrow hat
      go_wp2
      go_roundw
      case rel => exact ⟨k + 1, az, cz, by omega, by go_num, rfl, HM.out.1, HM.out.2.1, HM.out.2.2.1, HM.out.2.2.2⟩
      case measure => simp [intOf]; omega
    · have HE : Hid (L.take k = L) := List.take_of_length_le (by omega)
      rw [HE.out] at hsx her
      have HM : Hid _ := And.intro hsx her
      clear hsx her
      go_wp2
      refine bodyPost_ret (v := .tuple #[.slice ax h cx, u7]) ?_ rfl ⟨ax, cx, u7, rfl, HM.out.1, HM.out.2, hbw⟩
      simp [results, Try.results13, go_sem]

end Go.Proofs.Ytmihdckjoodjeab
