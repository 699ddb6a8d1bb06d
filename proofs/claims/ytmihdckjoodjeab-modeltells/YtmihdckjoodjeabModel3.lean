/- What model.Do does, called at sums and parts that lie in memory. -/
import Derived.Test.YtmihdckjoodjeabModel2
import Derived.Test.YtmihdckjoodjeabPart5
import Derived.Deep.RegionHeld3
import Derived.Deep.RegionWith
import Derived.Deep.DrawnRows
namespace Go.Proofs.Ytmihdckjoodjeab
open Go.RowKit
attribute [local go_sem ↓] Go.wp_at_zero Go.wp_at_succ

theorem done_set {S : List S4} {k : Nat} (h : k < S.length) (l : List P3) : (doneFrom l 0 (S.take k) ++ S.drop k).set k (doB S[k] (ofP l k)) = doneFrom l 0 (S.take (k + 1)) ++ S.drop (k + 1) := by
  rw [done_take h, List.append_assoc, List.drop_eq_getElem_cons h]
  have hlen : (doneFrom l 0 (S.take k)).length = k := by rw [doneFrom_len, List.length_take]; omega
  rw [List.set_append_right k _ (by omega), hlen, Nat.sub_self]
  rfl
theorem mid_len (S : List S4) (l : List P3) (k : Nat) : (doneFrom l 0 (S.take k) ++ S.drop k).length = S.length := by
  rw [List.length_append, doneFrom_len, List.length_take, List.length_drop]; omega
theorem OwnM.form {w : World} {base : Nat} {v : Value} {S : List S4} (h : OwnM w base v S) (hn : 0 < S.length) : ∃ g cap, v = .slice (some ⟨g, 0, none⟩) S.length cap ∧ base ≤ g ∧ g < w.heap.size := World.ownsRow.form h hn

theorem OwnM.mono {w : World} {base base' : Nat} {v : Value} {S : List S4} (h : OwnM w base v S) (hb : base' ≤ base) : OwnM w base' v S := by
  refine ⟨h.1, ?_⟩
  rcases h.2 with h0 | ⟨g, cap, cur, hv, hg, r⟩
  · exact Or.inl h0
  · exact Or.inr ⟨g, cap, cur, hv, Nat.le_trans hb hg, r⟩
/-- Four sums lie in a block of their own. -/
def Four (w : World) (b : Nat) (s0 s1 s2 s3 : Int) : Prop := w.cell? ⟨b, 0, none⟩ = some (.int .i64 s0) ∧ w.cell? ⟨b, 1, none⟩ = some (.int .i64 s1) ∧ w.cell? ⟨b, 2, none⟩ = some (.int .i64 s2) ∧ w.cell? ⟨b, 3, none⟩ = some (.int .i64 s3)
theorem Four.below {w w' : World} {b : Nat} {s0 s1 s2 s3 : Int} (h : Four w b s0 s1 s2 s3) {B : Nat} (hb : Below B w w') (hB : b < B) : Four w' b s0 s1 s2 s3 := by
  obtain ⟨h0, h1, h2, h3⟩ := h
  have e : ∀ o, w'.cell? ⟨b, o, none⟩ = w.cell? ⟨b, o, none⟩ := fun o => hb.cell (p := ⟨b, o, none⟩) hB
  exact ⟨(e 0).trans h0, (e 1).trans h1, (e 2).trans h2, (e 3).trans h3⟩
theorem Four.new (w : World) (s0 s1 s2 s3 : Int) (t : TypeId) : Four (w.alloc (.cells #[.int .i64 s0, .int .i64 s1, .int .i64 s2, .int .i64 s3] t)) w.heap.size s0 s1 s2 s3 := by
  unfold Four
  exact ⟨by simp, by simp, by simp, by simp⟩

set_option maxHeartbeats 2000000 in
theorem mdo_any (a a' : Option Addr) (S : List S4) (l : List P3) (cap n cap' n' : Nat) (w : World) (hn : n = S.length) (hn' : n' = l.length) (hl : S.length ≤ 3) (hl' : l.length ≤ 4) (hp : SumsL w a S) (hq : PartsAt w a' l) (hs : Small l) (hw : ∀ s ∈ S, Within 2199023255552 s) :
    Calls Try.prog 7 #[.slice a n cap, .slice a' n' cap'] w fun e w' => ∃ v, e = .returned (.tuple #[v, .int .i64 (errM S l)]) ∧ OwnM w' w.heap.size v (doM S l) ∧ Below w.heap.size w w' := by
  subst hn hn'
  go_enter Try.func7, Try.ntmps7
  go_wp2_with fail
  refine (clone_any a S cap _ w rfl (by omega) hp).mono ?_
  rintro e w1 ⟨vo, rfl, ho, hb1⟩
  go_wp2
  go_loopw [15] (fun i w' => ∃ k : Nat, k ≤ S.length ∧ i = .int .i64 k ∧ Hid (errM S l = errFrom l k (S.drop k)) ∧ OwnM w' w.heap.size vo (doneFrom l 0 (S.take k) ++ S.drop k) ∧ Below w.heap.size w w') (fun i _ => S.length - (intOf i).toNat)
  case atStart => exact ⟨0, Nat.zero_le _, rfl, rfl, ho, hb1⟩
  case round =>
    obtain ⟨k, hk, rfl, he, hor, hbw⟩ := hrel
    clear ho hb1
    by_cases hlt : k < S.length
    · have hpr := hp.below hbw
      have hqr := hq.below hbw
      have hsz := hbw.size
      have hpr' := hpr
      rcases hpr' with rfl | ⟨b', o, rfl, hb', hc⟩
      · simp at hlt
      obtain ⟨d0, d1, d2, d3⟩ := hc k hlt
      have HS := he.out
      rw [err_step hlt] at HS
      have HE : Hid _ := HS
      have hwk := hw _ (List.getElem_mem hlt)
      obtain ⟨g, co, rfl, hgb, hgs⟩ := hor.form (by rw [mid_len]; omega)
      rw [mid_len] at hor ⊢
      have HB : Hid (Below w.heap.size w wr ∧ SumsL w (some ⟨b', o, none⟩) S ∧ SumsL wr (some ⟨b', o, none⟩) S ∧ PartsAt wr a' l ∧ OwnM wr w.heap.size (.slice (some ⟨g, 0, none⟩) S.length co) (doneFrom l 0 (S.take k) ++ S.drop k) ∧ Within 2199023255552 S[k] ∧ Small l) := ⟨hbw, hp, hpr, hqr, hor, hwk, hs⟩
      clear hc HS he hor hpr hqr hp hq hw hbw hwk hs
      obtain ⟨s0, s1, s2, s3, hsk⟩ : ∃ s0 s1 s2 s3, S[k] = (s0, s1, s2, s3) := ⟨_, _, _, _, rfl⟩
      have HK : Hid (S[k] = (s0, s1, s2, s3)) := hsk
      rw [hsk] at d0 d1 d2 d3
      clear hsk
      simp only at d0 d1 d2 d3
      go_wp2_with fail
      refine (of_any k a' l _ _ _ rfl hl' (HB.out.2.2.2.1.below (below1 wr _))).mono ?_
      rintro e w2 ⟨v2, rfl, ho2, hb2⟩
      have hB2 : Below wr.heap.size wr w2 := (below1 wr _).trans (hb2.mono (by simp))
      have hsz2 : wr.heap.size + 1 ≤ w2.heap.size := by have := hb2.size; simpa using this
      have hF2 : Four w2 wr.heap.size s0 s1 s2 s3 := (Four.new wr s0 s1 s2 s3 _).below hb2 (by simp)
      obtain ⟨av, cv, rfl, hpv, _⟩ := ho2.parts
      obtain ⟨os, hos⟩ : ∃ os, os = ofP l k := ⟨_, rfl⟩
      have hos' : ofB l (k : Int) = os := hos.symm
      rw [hos'] at hpv ⊢
      have HO : Hid (os = ofP l k ∧ Small os ∧ os.length ≤ 4 ∧ Within 2199023255552 (s0, s1, s2, s3)) := ⟨hos, by rw [hos]; exact small_ofP HB.out.2.2.2.2.2.2 k, by rw [hos]; exact Nat.le_trans (ofP_len l k) hl', by have := HB.out.2.2.2.2.2.1; rwa [HK.out] at this⟩
      clear hos hos' ho2 hb2 d0 d1 d2 d3 hb'
      have HF2 : Hid (Four w2 wr.heap.size s0 s1 s2 s3) := hF2
      obtain ⟨z0, z1, z2, z3⟩ := hF2
      go_wp2_with fail
      refine (fits_any s0 s1 s2 s3 av os _ _ _ rfl HO.out.2.2.1 hpv HO.out.2.1 HO.out.2.2.2).mono ?_
      rintro e w3 ⟨rfl, hb3⟩
      have hF3 : Four w3 wr.heap.size s0 s1 s2 s3 := HF2.out.below hb3 (by omega)
      have hpv3 := hpv.below hb3
      have hB3 : Below wr.heap.size wr w3 := hB2.trans (hb3.mono hB2.size)
      have hsz3 := hb3.size
      clear HF2 z0 z1 z2 z3 hb3 hB2 hpv
      have HE2 : Hid (errM S l = if fitsB (s0, s1, s2, s3) os = 0 then errFrom l (k + 1) (S.drop (k + 1)) else fitsB (s0, s1, s2, s3) os) := by
        have := HE.out
        rw [HK.out, ← HO.out.1] at this
        exact this
      clear HE
      by_cases hf : fitsB (s0, s1, s2, s3) os = 0
      · have HE3 : Hid (errM S l = errFrom l (k + 1) (S.drop (k + 1))) := by have := HE2.out; rw [if_pos hf] at this; exact this
        rw [hf]
        clear HE2 hf
        obtain ⟨z0, z1, z2, z3⟩ := hF3
        go_wp2_with fail
        obtain ⟨t0, t1, t2, t3, hd⟩ : ∃ t0 t1 t2 t3, doB (s0, s1, s2, s3) os = (t0, t1, t2, t3) := ⟨_, _, _, _, rfl⟩
        refine (do_any s0 s1 s2 s3 av os _ _ _ rfl HO.out.2.2.1 hpv3 HO.out.2.1 HO.out.2.2.2).mono ?_
        rintro e w4 ⟨⟨x0, x1, x2, x3, hx, rfl⟩, hb4⟩
        rw [hd] at hx
        simp only [Prod.mk.injEq] at hx
        obtain ⟨rfl, rfl, rfl, rfl⟩ := hx
        have HD : Hid (doB (s0, s1, s2, s3) os = (t0, t1, t2, t3)) := hd
        have hB4 : Below wr.heap.size wr w4 := hB3.trans (hb4.mono (by omega))
        have hsz4 := hb4.size
        have ho4 : OwnM w4 w.heap.size (.slice (some ⟨g, 0, none⟩) S.length co) (doneFrom l 0 (S.take k) ++ S.drop k) := HB.out.2.2.2.2.1.below hB4 (Nat.le_refl _)
        have hmk : k < (doneFrom l 0 (S.take k) ++ S.drop k).length := by rw [mid_len]; exact hlt
        have ho4' := ho4
        unfold OwnM at ho4'
        rw [mid_len] at ho4'
        obtain ⟨e0, e1, e2, e3⟩ := cells4L_get _ k hmk
        obtain ⟨y0, c0⟩ : ∃ y, w4.cell? ⟨g, k * 4, none⟩ = some (.int .i64 y) := ⟨_, (ho4'.cellAt (k * 4) (by omega)).trans e0⟩
        obtain ⟨y1, c1⟩ : ∃ y, w4.cell? ⟨g, k * 4 + 1, none⟩ = some (.int .i64 y) := ⟨_, (ho4'.cellAt (k * 4 + 1) (by omega)).trans e1⟩
        obtain ⟨y2, c2⟩ : ∃ y, w4.cell? ⟨g, k * 4 + 2, none⟩ = some (.int .i64 y) := ⟨_, (ho4'.cellAt (k * 4 + 2) (by omega)).trans e2⟩
        obtain ⟨y3, c3⟩ : ∃ y, w4.cell? ⟨g, k * 4 + 3, none⟩ = some (.int .i64 y) := ⟨_, (ho4'.cellAt (k * 4 + 3) (by omega)).trans e3⟩
        have f0 := ho4'.frozenAt (k * 4)
        have f1 := ho4'.frozenAt (k * 4 + 1)
        have f2 := ho4'.frozenAt (k * 4 + 2)
        have f3 := ho4'.frozenAt (k * 4 + 3)
        have hput := ho4.put (mid_len S l k).symm hmk (t0, t1, t2, t3)
        rw [show (doneFrom l 0 (S.take k) ++ S.drop k).set k (t0, t1, t2, t3) = doneFrom l 0 (S.take (k + 1)) ++ S.drop (k + 1) by rw [← done_set hlt, HK.out, ← HO.out.1, HD.out]] at hput
        have HP : Hid _ := hput
        clear hput ho4 ho4' e0 e1 e2 e3 hd z0 z1 z2 z3 hb4 hB3 hpv3 hmk
        generalize (doneFrom l 0 (S.take k) ++ S.drop k) = mid at *
        go_wp2
        go_roundw
        case rel => exact ⟨k + 1, by omega, by go_num, HE3, HP.out, ((((HB.out.1.trans (hB4.mono hsz)).setCell hgb _).setCell hgb _).setCell hgb _).setCell hgb _⟩
        case measure => simp [intOf]; omega
      · have HE3 : Hid (errM S l = fitsB (s0, s1, s2, s3) os ∧ doM S l = S) := by
          have := HE2.out
          rw [if_neg hf] at this
          refine ⟨this, ?_⟩
          unfold doM
          rw [if_neg (by rw [this]; exact hf)]
        have hfb : (fitsB (s0, s1, s2, s3) os != 0) = true := by simpa using hf
        clear hf HE2
        generalize fitsB (s0, s1, s2, s3) os = fv at *
        go_wp2_with fail
        refine (clone_any (some ⟨b', o, none⟩) S cap _ w3 rfl (by omega) (HB.out.2.2.1.below hB3)).mono ?_
        rintro e w4 ⟨v4, rfl, ho4, hb4⟩
        have ho5 : OwnM w4 w.heap.size v4 (doM S l) := by rw [HE3.out.2]; exact ho4.mono (by omega)
        have hB4 : Below w.heap.size w w4 := HB.out.1.trans ((hB3.trans (hb4.mono (by omega))).mono hsz)
        clear ho4 hF3 hpv3
        go_wp2
        refine bodyPost_ret (v := .tuple #[v4, .int .i64 fv]) ?_ rfl ⟨v4, by rw [HE3.out.1], ho5, hB4⟩
        simp [results, Try.results7, go_sem]
    · have HE : Hid (errM S l = 0) := by
        have := he.out
        rw [List.drop_eq_nil_of_le (by omega)] at this
        exact this
      have hor2 : OwnM wr w.heap.size vo (doM S l) := by
        unfold doM
        rw [if_pos HE.out]
        rw [List.take_of_length_le (by omega), List.drop_eq_nil_of_le (by omega), List.append_nil] at hor
        exact hor
      clear hor he hp hq
      go_wp2
      refine bodyPost_ret (v := .tuple #[vo, .int .i64 0]) ?_ rfl ⟨vo, by rw [HE.out], hor2, hbw⟩
      simp [results, Try.results7, go_sem]

end Go.Proofs.Ytmihdckjoodjeab
