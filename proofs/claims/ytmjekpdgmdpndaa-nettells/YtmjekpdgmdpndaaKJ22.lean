/- Several texts in one: Several cells of a block are stored at once; What slices.Delete does with one entry that is owned. -/
import Derived.Test.YtmjekpdgmdpndaaKJ04
import Derived.Test.YtmjekpdgmdpndaaKNet0
import Derived.Lib.SliceRun
import Derived.Deep.RegionLaw
namespace Go.Proofs.Ytmjekpdgmdpndaa
open Go.RowKit

theorem Blk.setCells {g : Nat} {T : TypeId} : ∀ (vs : List Value) (j : Nat) (w : World) (cur : Array Value), Blk w g cur T → j + vs.length ≤ cur.size → Blk (w.setCells g j vs) g (cur.toList.take j ++ vs ++ cur.toList.drop (j + vs.length)).toArray T
  | [], j, w, cur, h, _ => by
    have e : (cur.toList.take j ++ [] ++ cur.toList.drop (j + ([] : List Value).length)).toArray = cur := by simp
    rw [e]
    exact h
  | u :: r, j, w, cur, h, hl => by
    rw [List.length_cons] at hl
    rw [World.setCells]
    have h1 := Blk.setCells r (j + 1) _ _ (h.set j u) (by simp; omega)
    have e : ((cur.setIfInBounds j u).toList.take (j + 1) ++ r ++ (cur.setIfInBounds j u).toList.drop (j + 1 + r.length)).toArray = (cur.toList.take j ++ (u :: r) ++ cur.toList.drop (j + (u :: r).length)).toArray := by
      have e1 : (cur.setIfInBounds j u).toList = cur.toList.set j u := by simp
      have e2 : (cur.toList.set j u).take (j + 1) = cur.toList.take j ++ [u] := by
        rw [List.take_set, List.take_succ_eq_append_getElem (by simp; omega)]
        rw [List.set_append_right _ _ (by simp; omega)]
        simp
        have : j - min j cur.size = 0 := by omega
        rw [this]
        rfl
      have e3 : (cur.toList.set j u).drop (j + 1 + r.length) = cur.toList.drop (j + (u :: r).length) := by
        rw [List.drop_set_of_lt (by omega)]
        congr 1
        simp
        omega
      rw [e1, e2, e3]
      simp
    rw [e] at h1
    exact h1
theorem Keep.setCells {R : Nat → Prop} {w : World} {g : Nat} (hg : R g) : ∀ (vs : List Value) (j : Nat) (w' : World), Keep R w w' → Keep R w (w'.setCells g j vs)
  | [], _, _, h => h
  | u :: r, j, w', h => by
    rw [World.setCells]
    exact Keep.setCells hg r (j + 1) _ (h.setCell (p := ⟨g, j, none⟩) hg u)

end Go.Proofs.Ytmjekpdgmdpndaa

namespace Go.Proofs.Ytmjekpdgmdpndaa
open Go.RowKit
attribute [local go_sem ↓] Go.wp_at_zero Go.wp_at_succ

theorem zeroN (w : World) : (zeroValue 57).run Try.prog w = .ok (.slice none 0 0) w := by
  obtain ⟨i0, hi, hz0, hz1, hz2⟩ := info_parts infoBs
  simp [zeroValue, typeInfo, hi, hz0]
set_option maxRecDepth 20000 in
set_option maxHeartbeats 2000000 in
theorem delN_any (a : Option Addr) (X : List XN) (cap n base i j : Nat) (w : World) (hj : j = i + 1) (hown : OwnL 57 1 encN w base (.slice a n cap) X) (hi : i < X.length) :
    Calls Try.prog 44 #[.slice a n cap, .int .i64 (i : Nat), .int .i64 (j : Nat)] w fun e w' => e = .returned (.slice a (n - 1) cap) ∧ OwnL 57 1 encN w' base (.slice a (n - 1) cap) (X.eraseIdx i) ∧ Keep (fun b => ∃ ad, a = some ad ∧ b = ad.block) w w' := by
  obtain ⟨i0, hi0, hz0, hz1, hz2⟩ := info_parts infoBs
  have hnX := (hown.at lenN).2.1
  have hO := hown
  rcases hown.2 with ⟨hv, h0⟩ | ⟨g, cap', cur, hv, hg, hh, hcap, hmx, hsz, htake⟩
  · omega
  injection hv with ha hn2 hc2
  subst ha
  subst hc2
  subst hnX
  have hB : Blk w g cur 57 := hh
  unfold maxLen at hmx
  -- the cells that are moved to the left
  obtain ⟨news, hnews⟩ : ∃ news, news = flat encN (X.drop j) := ⟨_, rfl⟩
  have hlen : news.length = (X.length - j) * 1 := by rw [hnews, flat_len lenN]; simp
  have hL : cur.toList.length = cur.size := by simp
  have hcs : X.length * 1 ≤ cur.size := by rw [hsz]; exact Nat.mul_le_mul_right _ hcap
  have hget : ∀ t, t < news.length → cur[j * 1 + t]? = news[t]? := by
    intro t ht
    have h1 : flat encN X = flat encN (X.take j) ++ news := by rw [hnews, ← flat_append, List.take_append_drop]
    have h2 : (flat encN (X.take j)).length = j * 1 := by rw [flat_len lenN, List.length_take]; congr 1; omega
    have h3 : (flat encN X)[j * 1 + t]? = news[t]? := by rw [h1, List.getElem?_append_right (by omega), h2]; congr 1; omega
    rw [← htake, List.getElem?_take_of_lt (by omega)] at h3
    rw [← h3]; simp
  obtain ⟨A, hA, hsrc⟩ : ∃ A : Addr, (if cap = j then some (⟨g, 0, none⟩ : Addr) else some ⟨g, j, none⟩) = some A ∧ Hid (∀ t u, news[t]? = some u → w.drew.cell? (A.add t) = some u) := by
    by_cases h : cap = j
    · refine ⟨⟨g, 0, none⟩, by simp [h], fun t u hu => ?_⟩
      have h0 : news.length = 0 := by rw [hlen]; omega
      rw [List.length_eq_zero_iff.1 h0] at hu
      simp at hu
    · refine ⟨⟨g, j, none⟩, by simp [h], fun t u hu => ?_⟩
      have ht := (List.getElem?_eq_some_iff.1 hu).1
      rw [Addr.add_lit]
      refine (hB.drew.cell _).trans ?_
      have h5 := hget t ht
      rw [hu] at h5
      simpa using h5
  have s1 : Hid (news.length = (X.length - j) * 1) := hlen
  have s2 : Hid (∀ u ∈ news, u.oneCell' = true) := by
    intro u hu
    rw [hnews] at hu
    exact flat_one oneN _ u hu
  have s3 : Hid (∀ t, t < news.length → (w.drew.cell? ⟨g, 0 + i * 1 + t, none⟩).isSome = true ∧ w.drew.frozen? ⟨g, 0 + i * 1 + t, none⟩ = false) := by
    intro t ht
    refine ⟨?_, hB.drew.free _⟩
    rw [hB.drew.cell, Array.getElem?_eq_getElem (by omega)]
    rfl
  obtain ⟨W1, hW1⟩ : ∃ W1, W1 = w.drew.setCells g (0 + i * 1) news := ⟨_, rfl⟩
  have hB1 := Blk.setCells news (0 + i * 1) w.drew cur hB.drew (by omega)
  rw [← hW1] at hB1
  obtain ⟨cur1, hcur1⟩ : ∃ cur1, cur1 = (cur.toList.take (0 + i * 1) ++ news ++ cur.toList.drop (0 + i * 1 + news.length)).toArray := ⟨_, rfl⟩
  rw [← hcur1] at hB1
  have hsz1 : cur1.size = cur.size := by rw [hcur1]; simp; omega
  have hK1 : Keep (fun b => b = g) w W1 := by rw [hW1]; exact Keep.setCells (R := fun b => b = g) rfl _ _ _ (Keep.refl _ _).drew
  have hO1 : OwnL 57 1 encN W1 base (.slice (some ⟨g, 0, none⟩) (X.length - 1) cap) (X.eraseIdx i) := by
    have hel : (X.eraseIdx i).length = X.length - 1 := by rw [List.length_eraseIdx]; simp [hi]
    refine ⟨by rw [flat_len lenN], Or.inr ⟨g, cap, cur1, by rw [hel], hg, hB1, by rw [hel]; omega, by unfold maxLen; exact hmx, by rw [hsz1]; exact hsz, ?_⟩⟩
    have e1 : flat encN (X.eraseIdx i) = flat encN (X.take i) ++ news := by rw [List.eraseIdx_eq_take_drop_succ, flat_append, hnews, hj]
    have e2 : cur.toList.take (0 + i * 1) = flat encN (X.take i) := by
      have h1 : flat encN X = flat encN (X.take i) ++ flat encN (X.drop i) := by rw [← flat_append, List.take_append_drop]
      have h2 : (flat encN (X.take i)).length = 0 + i * 1 := by rw [flat_len lenN, List.length_take, Nat.zero_add]; congr 1; omega
      have h3 : (cur.toList.take (X.length * 1)).take (0 + i * 1) = cur.toList.take (0 + i * 1) := by rw [List.take_take, Nat.min_eq_left (by omega)]
      rw [← h3, htake, h1, ← h2, List.take_left']
      rfl
    rw [e1, hel, hcur1]
    simp only [e2]
    rw [List.take_append_of_le_length (by simp [flat_len lenN, hlen]; omega)]
    rw [List.take_of_length_le (by simp [flat_len lenN, hlen]; omega)]
  have hcl' : ∀ ty, ∃ vs, (Builtin.clear_ #[48] ty #[.slice (some ⟨g, (X.length - 1), none⟩) 1 (cap - (X.length - 1))]).run Try.prog W1 = .ok (.tuple #[]) (W1.setCells g ((X.length - 1)) vs) := fun ty =>
    run_clear_list W1 48 57 ty (.slice none 0 0) Try.underlying48 zeroN (by intro u hu; simp [Value.cells] at hu; subst hu; rfl) g ((X.length - 1)) 1 _ (by omega)
      (fun j hj => by have hj' : j < 1 := (by simpa [Value.cells] using hj); rw [hB1.cell, Array.getElem?_eq_getElem (by omega)]; rfl) (fun j hj => hB1.free _)
  have hW : Hid (W1 = w.drew.setCells g (0 + i * 1) news) := hW1
  have HO : Hid (OwnL 57 1 encN W1 base (.slice (some ⟨g, 0, none⟩) (X.length - 1) cap) (X.eraseIdx i) ∧ Keep (fun b => b = g) w W1 ∧ (X.eraseIdx i).length = X.length - 1) := ⟨hO1, hK1, by rw [List.length_eraseIdx]; simp [hi]⟩
  have hi1 : i ≤ cap := by omega
  have hj1 : j ≤ cap := by omega
  have hjX : j ≤ X.length := by omega
  have hij : ¬ i = j := by omega
  have hjl : i + (X.length - j) = X.length - 1 := by omega
  have hX1 : X.length - (X.length - 1) = 1 := by omega
  have hXc : X.length ≤ cap := hcap
  obtain ⟨vs, hcl⟩ := hcl' 0
  clear hB hh hown hO htake hget hnews hlen hsz hsz1 hcur1 hB1 hO1 hK1 hW1 hL hcs hcap hg hj hi hcl'
  go_enter Try.func44, Try.ntmps44
  go_wp2_with fail
  go_region_law (refine step_append_room rfl (.tmp 22) (.tmp 25) 48 rfl 57 i0 1 Try.underlying48 hi0 hz1 g 0 i cap (by simp [Act.eval, Act.put]) A (X.length - j) (cap - j) news (by simp [Act.eval, Act.put]) s1.out hsrc.out s2.out (by omega) s3.out ?_; rw [← hW.out])
  generalize hmm0 : X.length - 1 = m at *
  have hmm : Hid (X.length - 1 = m) := hmm0
  clear hmm0
  go_wp2
  go_ret
  rw [hmm.out]
  exact ⟨rfl, OwnL.setCells lenN HO.out.2.2.symm vs (m) W1 HO.out.1 (by rw [HO.out.2.2]; omega), (Keep.setCells (R := fun b => b = g) rfl _ _ _ HO.out.2.1).mono (fun b _ hb => ⟨_, rfl, hb⟩)⟩

end Go.Proofs.Ytmjekpdgmdpndaa
