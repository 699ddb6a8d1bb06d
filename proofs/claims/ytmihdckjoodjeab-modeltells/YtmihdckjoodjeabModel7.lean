/- What the document's DoAll does, called at right parts and sums that lie in memory. -/
import Derived.Test.YtmihdckjoodjeabModel4
import Derived.Test.YtmihdckjoodjeabRefOf
import Derived.Test.YtmihdckjoodjeabRef4
import Derived.Deep.RegionHeld3
import Derived.Deep.RegionWith
import Derived.Deep.DrawnRows
namespace Go.Proofs.Ytmihdckjoodjeab
open Go.RowKit
attribute [local go_sem ↓] Go.wp_at_zero Go.wp_at_succ

theorem doV4 {f : Nat} {s : S4} {l : List P3} {args : Array Value} {w : World} {t0 t1 t2 t3 : Int} (hd : doB s l = (t0, t1, t2, t3))
    (h : Calls Try.prog f args w fun e w' => (∃ x0 x1 x2 x3, doB s l = (x0, x1, x2, x3) ∧ e = .returned (.agg #[.int .i64 x0, .int .i64 x1, .int .i64 x2, .int .i64 x3])) ∧ Below w.heap.size w w') :
    Calls Try.prog f args w fun e w' => e = .returned (.agg #[.int .i64 t0, .int .i64 t1, .int .i64 t2, .int .i64 t3]) ∧ Below w.heap.size w w' := by
  refine h.mono ?_
  rintro e w' ⟨⟨x0, x1, x2, x3, hx, rfl⟩, hb⟩
  rw [hd] at hx
  simp only [Prod.mk.injEq] at hx
  obtain ⟨rfl, rfl, rfl, rfl⟩ := hx
  exact ⟨rfl, hb⟩
/-- The cells of an owned list's element, and that they may be stored into. -/
theorem OwnM.slot {w : World} {base g cap n : Nat} {S : List S4} (h : OwnM w base (.slice (some ⟨g, 0, none⟩) n cap) S) (hn : n = S.length) {k : Nat} (hk : k < S.length) :
    ∃ y0 y1 y2 y3 : Int, (w.cell? ⟨g, k * 4, none⟩ = some (.int .i64 y0) ∧ w.cell? ⟨g, k * 4 + 1, none⟩ = some (.int .i64 y1) ∧ w.cell? ⟨g, k * 4 + 2, none⟩ = some (.int .i64 y2) ∧ w.cell? ⟨g, k * 4 + 3, none⟩ = some (.int .i64 y3)) ∧
      (w.frozen? ⟨g, k * 4, none⟩ = false ∧ w.frozen? ⟨g, k * 4 + 1, none⟩ = false ∧ w.frozen? ⟨g, k * 4 + 2, none⟩ = false ∧ w.frozen? ⟨g, k * 4 + 3, none⟩ = false) := by
  subst hn
  unfold OwnM at h
  obtain ⟨e0, e1, e2, e3⟩ := cells4L_get _ k hk
  exact ⟨_, _, _, _, ⟨(h.cellAt _ (by omega)).trans e0, (h.cellAt _ (by omega)).trans e1, (h.cellAt _ (by omega)).trans e2, (h.cellAt _ (by omega)).trans e3⟩, h.frozenAt _, h.frozenAt _, h.frozenAt _, h.frozenAt _⟩
theorem key_of_ofP {l : List P3} (h : ∀ p ∈ l, keyB p.2.1 = true) (i : Nat) : ∀ p ∈ ofP l i, keyB p.2.1 = true := fun p hp => h p (mem_ofP hp).1

set_option maxHeartbeats 2000000 in
theorem refDoAll_any (a a' : Option Addr) (S : List S4) (l : List P3) (cap n cap' n' : Nat) (w : World) (hn : n = S.length) (hn' : n' = l.length) (hl : S.length ≤ 3) (hl' : l.length ≤ 4) (hp : SumsL w a S) (hq : PartsAt w a' l) (hs : Small l) (hky : ∀ p ∈ l, keyB p.2.1 = true) (hw : ∀ s ∈ S, Within 2199023255552 s) :
    Calls Try.prog 8 #[.slice a n cap, .slice a' n' cap'] w fun e w' => ∃ ax cx, e = .returned (.tuple #[.slice ax S.length cx, .int .i64 (errM S l)]) ∧ SumsL w' ax (doM S l) ∧ (ax = a ∨ ∀ ad, ax = some ad → w.heap.size ≤ ad.block) ∧ Below w.heap.size w w' := by
  subst hn hn'
  have HP : Hid (SumsL w a S ∧ PartsAt w a' l) := ⟨hp, hq⟩
  clear hp hq
  go_enter Try.func8, Try.ntmps8
  go_wp2_with (at_builtin; refine wpList_append_sums _ rfl _ _ rfl w.heap.size _ [] rfl (World.ownsRow_made w #[] 0 (Nat.le_refl _) (Nat.zero_le _) (by simp)) a S.length cap S rfl rfl (HP.out.1.below (below1 w _)) (by simp; omega) (by simp) ?_; intro vo w1 ho hgrow hat)
  have hb1 : Below w.heap.size w w1 := ((Below.refl _ w).alloc (Nat.le_refl _) _).grown hgrow (by simp) (by intro k hk; cases hk; exact Nat.le_refl _)
  rw [List.nil_append] at ho
  clear hgrow hat
  go_loopw [14] (fun i w' => ∃ k : Nat, k ≤ S.length ∧ i = .int .i64 k ∧ Hid (errM S l = errFrom l k (S.drop k)) ∧ OwnM w' w.heap.size vo (doneFrom l 0 (S.take k) ++ S.drop k) ∧ Below w.heap.size w w') (fun i _ => S.length - (intOf i).toNat)
  case atStart => exact ⟨0, Nat.zero_le _, rfl, rfl, ho, hb1⟩
  case round =>
    obtain ⟨k, hk, rfl, he, hor, hbw⟩ := hrel
    clear ho hb1
    by_cases hlt : k < S.length
    · have hpr := HP.out.1.below hbw
      have hqr := HP.out.2.below hbw
      have hsz := hbw.size
      have hpr' := hpr
      rcases hpr' with rfl | ⟨b', o, rfl, hb', hc⟩
      · simp at hlt
      have hck := hc k hlt
      have HS := he.out
      rw [err_step hlt] at HS
      have HE : Hid _ := HS
      have hwk := hw _ (List.getElem_mem hlt)
      obtain ⟨g, co, rfl, hgb, hgs⟩ := hor.form (by rw [mid_len]; omega)
      rw [mid_len] at hor ⊢
      have HB : Hid (Below w.heap.size w wr ∧ SumsL wr (some ⟨b', o, none⟩) S ∧ PartsAt wr a' l ∧ OwnM wr w.heap.size (.slice (some ⟨g, 0, none⟩) S.length co) (doneFrom l 0 (S.take k) ++ S.drop k) ∧ Within 2199023255552 S[k] ∧ Small l ∧ ∀ p ∈ l, keyB p.2.1 = true) := ⟨hbw, hpr, hqr, hor, hwk, hs, hky⟩
      clear hc HS he hor hpr hqr hw hbw hwk hs hky
      obtain ⟨s0, s1, s2, s3, hsk⟩ : ∃ s0 s1 s2 s3, S[k] = (s0, s1, s2, s3) := ⟨_, _, _, _, rfl⟩
      have HK : Hid (S[k] = (s0, s1, s2, s3)) := hsk
      rw [hsk] at hck
      clear hsk
      simp only at hck
      have HC : Hid (∀ w', Below wr.heap.size wr w' → (w'.cell? ⟨b', o + k * 4, none⟩ = some (.int .i64 s0) ∧ w'.cell? ⟨b', o + k * 4 + 1, none⟩ = some (.int .i64 s1) ∧ w'.cell? ⟨b', o + k * 4 + 2, none⟩ = some (.int .i64 s2) ∧ w'.cell? ⟨b', o + k * 4 + 3, none⟩ = some (.int .i64 s3))) := fun w' hb => by
        have e : ∀ i, w'.cell? ⟨b', i, none⟩ = wr.cell? ⟨b', i, none⟩ := fun i => hb.cell (p := ⟨b', i, none⟩) hb'
        rw [e, e, e, e]
        exact hck
      obtain ⟨os, hos⟩ : ∃ os, os = ofP l k := ⟨_, rfl⟩
      have hos' : ofB l (k : Int) = os := hos.symm
      obtain ⟨t0, t1, t2, t3, hd⟩ : ∃ t0 t1 t2 t3, doB (s0, s1, s2, s3) os = (t0, t1, t2, t3) := ⟨_, _, _, _, rfl⟩
      have HO : Hid (ofB l (k : Int) = os ∧ Small os ∧ os.length ≤ 4 ∧ Within 2199023255552 (s0, s1, s2, s3) ∧ (∀ p ∈ os, keyB p.2.1 = true) ∧ doB (s0, s1, s2, s3) os = (t0, t1, t2, t3) ∧ os = ofP l k) := ⟨hos', by rw [hos]; exact small_ofP HB.out.2.2.2.2.2.1 k, by rw [hos]; exact Nat.le_trans (ofP_len l k) hl', by have := HB.out.2.2.2.2.1; rwa [HK.out] at this, by rw [hos]; exact key_of_ofP HB.out.2.2.2.2.2.2 k, hd, hos⟩
      have HE2 : Hid (errM S l = if fitsB (s0, s1, s2, s3) os = 0 then errFrom l (k + 1) (S.drop (k + 1)) else fitsB (s0, s1, s2, s3) os) := by
        have := HE.out
        rw [HK.out, ← hos] at this
        exact this
      obtain ⟨fv, hfv⟩ : ∃ fv, fv = fitsB (s0, s1, s2, s3) os := ⟨_, rfl⟩
      have HFV : Hid (fv = fitsB (s0, s1, s2, s3) os) := hfv
      clear HE hos hos' hd hck hb' hfv
      go_wp2_with fail
      go_region_held3 (fun w' => (w'.cell? ⟨b', o + k * 4, none⟩ = some (.int .i64 s0) ∧ w'.cell? ⟨b', o + k * 4 + 1, none⟩ = some (.int .i64 s1) ∧ w'.cell? ⟨b', o + k * 4 + 2, none⟩ = some (.int .i64 s2) ∧ w'.cell? ⟨b', o + k * 4 + 3, none⟩ = some (.int .i64 s3))) (
        first
        | exact HC.out _ hBd
        | exact HC.out _ hBc
        | exact HC.out _ (Below.refl _ _)
        | exact HC.out _ (Below.refl _ _).drew) (
        first
        | (go_at_call 21; refine (refOf_any k a' l _ _ _ rfl hl' (by exact HB.out.2.2.1.below (Below.refl _ _).drew)).mono ?_; rintro e wc ⟨vc, rfl, hoc, hbc⟩; rw [HO.out.1] at hoc; obtain ⟨ac, cc, rfl, hpc, _⟩ := hoc.parts; have hBc : Below wr.heap.size wr wc := (Below.refl _ _).drew.trans hbc; clear hbc hoc)
        | (go_at_call 20; refine (refFits_any s0 s1 s2 s3 ac os _ _ _ rfl HO.out.2.2.1 hpc HO.out.2.1 HO.out.2.2.2.2.1 HO.out.2.2.2.1).mono ?_; rw [← HFV.out]; rintro e wd ⟨rfl, hbd⟩; have hBd : Below wr.heap.size wr wd := hBc.trans (hbd.mono hBc.size); clear hbd hpc))
      by_cases hf : fv = 0
      · have hf0 : fitsB (s0, s1, s2, s3) os = 0 := by rw [← HFV.out]; exact hf
        have HE3 : Hid (errM S l = errFrom l (k + 1) (S.drop (k + 1))) := by have := HE2.out; rw [if_pos hf0] at this; exact this
        have HBd : Hid (Below wr.heap.size wr wd) := hBd
        have hszd := hBd.size
        have hqd := HB.out.2.2.1.below hBd
        have HQ : Hid (PartsAt wd a' l) := hqd
        have HCd : Hid (∀ w', Below wd.heap.size wd w' → (w'.cell? ⟨b', o + k * 4, none⟩ = some (.int .i64 s0) ∧ w'.cell? ⟨b', o + k * 4 + 1, none⟩ = some (.int .i64 s1) ∧ w'.cell? ⟨b', o + k * 4 + 2, none⟩ = some (.int .i64 s2) ∧ w'.cell? ⟨b', o + k * 4 + 3, none⟩ = some (.int .i64 s3))) := fun w' hb => HC.out w' (HBd.out.trans (hb.mono hszd))
        subst hf
        have ho4 : OwnM wd w.heap.size (.slice (some ⟨g, 0, none⟩) S.length co) (doneFrom l 0 (S.take k) ++ S.drop k) := HB.out.2.2.2.1.below hBd (Nat.le_refl _)
        have HOW : Hid (∀ w', Below wd.heap.size wd w' → OwnM w' w.heap.size (.slice (some ⟨g, 0, none⟩) S.length co) (doneFrom l 0 (S.take k) ++ S.drop k)) := fun w' hb => ho4.below hb (Nat.le_refl _)
        clear HE2 hf0 hBd hBc hqd ho4 HC HFV
        have HSL : Hid (∀ w', Below wd.heap.size wd w' → ∃ y0 y1 y2 y3 : Int, (w'.cell? ⟨g, k * 4, none⟩ = some (.int .i64 y0) ∧ w'.cell? ⟨g, k * 4 + 1, none⟩ = some (.int .i64 y1) ∧ w'.cell? ⟨g, k * 4 + 2, none⟩ = some (.int .i64 y2) ∧ w'.cell? ⟨g, k * 4 + 3, none⟩ = some (.int .i64 y3)) ∧
          (w'.frozen? ⟨g, k * 4, none⟩ = false ∧ w'.frozen? ⟨g, k * 4 + 1, none⟩ = false ∧ w'.frozen? ⟨g, k * 4 + 2, none⟩ = false ∧ w'.frozen? ⟨g, k * 4 + 3, none⟩ = false)) := fun w' hb => (HOW.out w' hb).slot (mid_len S l k).symm (by rw [mid_len]; exact hlt)
        have HPUT : Hid (∀ w', Below wd.heap.size wd w' → OwnM ((((w'.setCell ⟨g, k * 4, none⟩ (.int .i64 t0)).setCell ⟨g, k * 4 + 1, none⟩ (.int .i64 t1)).setCell ⟨g, k * 4 + 2, none⟩ (.int .i64 t2)).setCell ⟨g, k * 4 + 3, none⟩ (.int .i64 t3)) w.heap.size (.slice (some ⟨g, 0, none⟩) S.length co) (doneFrom l 0 (S.take (k + 1)) ++ S.drop (k + 1))) := fun w' hb => by
          have hput := (HOW.out w' hb).put (mid_len S l k).symm (by rw [mid_len]; exact hlt) (t0, t1, t2, t3)
          rw [show (doneFrom l 0 (S.take k) ++ S.drop k).set k (t0, t1, t2, t3) = doneFrom l 0 (S.take (k + 1)) ++ S.drop (k + 1) by rw [← done_set hlt, HK.out, ← HO.out.2.2.2.2.2.2, HO.out.2.2.2.2.2.1]] at hput
          exact hput
        go_wp2_with fail
        have hX0 : Below wd.heap.size wd wd.drew := (Below.refl _ _).drew
        obtain ⟨i0, i1, i2, i3⟩ := HCd.out _ hX0
        have hkS : (k : Int) < (S.length : Int) := by omega
        go_region_with (
          first
          | (go_at_call 21; refine (refOf_any k a' l _ _ _ rfl hl' (by exact HQ.out.below hX0)).mono ?_; rintro e we ⟨ve, rfl, hoe, hbe⟩; rw [HO.out.1] at hoe; obtain ⟨ae, ce, rfl, hpe, _⟩ := hoe.parts; have hBe : Below wd.heap.size wd we := hX0.trans (hbe.mono hX0.size); obtain ⟨j0, j1, j2, j3⟩ := HCd.out _ hBe; clear hbe hoe i0 i1 i2 i3)
          | (go_at_call 22; refine (doV4 HO.out.2.2.2.2.2.1 (refDo_any s0 s1 s2 s3 ae os _ _ _ rfl HO.out.2.2.1 hpe HO.out.2.1 HO.out.2.2.2.2.1 HO.out.2.2.2.1)).mono ?_; rintro e wf ⟨rfl, hbf⟩; have hBf : Below wd.heap.size wd wf := hBe.trans (hbf.mono hBe.size); obtain ⟨y0, y1, y2, y3, ⟨c0, c1, c2, c3⟩, f0, f1, f2, f3⟩ := HSL.out _ hBf; clear hbf hpe j0 j1 j2 j3))
        all_goals
          go_wp2
          go_roundw
          case rel => exact ⟨k + 1, by omega, by go_num, HE3, HPUT.out _ hBf, ((((HB.out.1.trans ((HBd.out.trans (hBf.mono hszd)).mono hsz)).setCell hgb _).setCell hgb _).setCell hgb _).setCell hgb _⟩
          case measure => simp [intOf]; omega
      · have hf0 : ¬ fitsB (s0, s1, s2, s3) os = 0 := by rw [← HFV.out]; exact hf
        have HE3 : Hid (errM S l = fv ∧ doM S l = S) := by
          have := HE2.out
          rw [if_neg hf0, ← HFV.out] at this
          refine ⟨this, ?_⟩
          unfold doM
          rw [if_neg (by rw [this]; exact hf)]
        have hfb : (fv != 0) = true := by simpa using hf
        have hsd := HB.out.2.1.below hBd
        have hBw : Below w.heap.size w wd := HB.out.1.trans (hBd.mono hsz)
        clear hf hf0 HE2 HFV hBc hBd
        go_wp2
        refine bodyPost_ret (v := .tuple #[.slice (some ⟨b', o, none⟩) S.length cap, .int .i64 fv]) ?_ rfl ⟨some ⟨b', o, none⟩, cap, by rw [HE3.out.1], by rw [HE3.out.2]; exact hsd, Or.inl rfl, hBw⟩
        simp [results, Try.results8, go_sem]
    · have HE : Hid (errM S l = 0) := by
        have := he.out
        rw [List.drop_eq_nil_of_le (by omega)] at this
        exact this
      have hor2 : OwnM wr w.heap.size vo (doM S l) := by
        unfold doM
        rw [if_pos HE.out]
        rw [List.take_of_length_le (by omega), List.drop_eq_nil_of_le (by omega), List.append_nil] at hor
        exact hor
      obtain ⟨ax, cx, rfl, hsx, _⟩ := hor2.sums
      have HX : Hid (SumsL wr ax (doM S l) ∧ ∀ ad, ax = some ad → w.heap.size ≤ ad.block) := ⟨hsx, fun ad had => (World.ownsRow.lt hor2 ad.block (by rw [had]; rfl)).1⟩
      rw [doM_len]
      clear hor he hsx hor2
      go_wp2
      refine bodyPost_ret (v := .tuple #[.slice ax S.length cx, .int .i64 0]) ?_ rfl ⟨ax, cx, by rw [HE.out], HX.out.1, Or.inr HX.out.2, hbw⟩
      simp [results, Try.results8, go_sem]

end Go.Proofs.Ytmihdckjoodjeab
