/- What part.Do does, called at whatever parts and sums that lie within bounds. -/
import Derived.Test.YtikmnaegalmfeaaKJ01
import Derived.Deep.RegionHeld3
import Derived.WalkSmall
import Derived.Deep.DrawnRows
namespace Go.Proofs.Ytikmnaegalmfeaa
open Go.RowKit
attribute [local go_sem ↓] Go.wp_at_zero Go.wp_at_succ

theorem sz_int (w : World) : (sizeOf 3).run Try.prog w = .ok 1 w := by kernel_rfl
theorem part4_0 (v0 v1 v2 v3 : Value) (w : World) : (part 3 #[v0, v1, v2, v3] 0).run Try.prog w = .ok v0 w := by kernel_rfl
theorem part4_1 (v0 v1 v2 v3 : Value) (w : World) : (part 3 #[v0, v1, v2, v3] 1).run Try.prog w = .ok v1 w := by kernel_rfl
theorem part4_2 (v0 v1 v2 v3 : Value) (w : World) : (part 3 #[v0, v1, v2, v3] 2).run Try.prog w = .ok v2 w := by kernel_rfl
theorem part4_3 (v0 v1 v2 v3 : Value) (w : World) : (part 3 #[v0, v1, v2, v3] 3).run Try.prog w = .ok v3 w := by kernel_rfl
theorem eq4d (d : Nat) (a0 a1 a2 a3 b0 b1 b2 b3 : Int) (w : World) : (Op.equalIn (d + 2) 27 (.agg #[.int .i64 a0, .int .i64 a1, .int .i64 a2, .int .i64 a3]) (.agg #[.int .i64 b0, .int .i64 b1, .int .i64 b2, .int .i64 b3])).run Try.prog w = .ok (a0 == b0 && a1 == b1 && a2 == b2 && a3 == b3) w := by
  rw [Op.equalIn]
  simp only [Sem.run_bind, run_underlying Try.underlying27, Result.andThen_ok, sz_int, Std.Legacy.Range.forIn_eq_forIn_range', Std.Legacy.Range.size]
  rw [show List.range' 0 ((4 - 0 + 1 - 1) / 1) 1 = [0, 1, 2, 3] from rfl]
  simp only [List.forIn_cons, List.forIn_nil, Sem.run_bind, Nat.mul_one, part4_0, Result.andThen_ok, run_equalIn_int _ _ _ _ _ _ _ Try.underlying3, Sem.run_ite]
  cases h0 : a0 == b0 <;> cases h1 : a1 == b1 <;> cases h2 : a2 == b2 <;> cases h3 : a3 == b3 <;> simp [part4_1, part4_2, part4_3, run_equalIn_int _ _ _ _ _ _ _ Try.underlying3, h1, h2, h3]
theorem eq4 (a0 a1 a2 a3 b0 b1 b2 b3 : Int) (w : World) : (Op.equalIn 10000 27 (.agg #[.int .i64 a0, .int .i64 a1, .int .i64 a2, .int .i64 a3]) (.agg #[.int .i64 b0, .int .i64 b1, .int .i64 b2, .int .i64 b3])).run Try.prog w = .ok (a0 == b0 && a1 == b1 && a2 == b2 && a3 == b3) w := eq4d 9998 a0 a1 a2 a3 b0 b1 b2 b3 w
/-- Four numbers lie at the beginning of block b and may be written. -/
def SumsAt (w : World) (b : Nat) (t0 t1 t2 t3 : Int) : Prop :=
  (w.cell? ⟨b, 0, none⟩ = some (.int .i64 t0) ∧ w.cell? ⟨b, 1, none⟩ = some (.int .i64 t1) ∧ w.cell? ⟨b, 2, none⟩ = some (.int .i64 t2) ∧ w.cell? ⟨b, 3, none⟩ = some (.int .i64 t3)) ∧
  (w.frozen? ⟨b, 0, none⟩ = false ∧ w.frozen? ⟨b, 1, none⟩ = false ∧ w.frozen? ⟨b, 2, none⟩ = false ∧ w.frozen? ⟨b, 3, none⟩ = false)
theorem SumsAt.below {w w' : World} {B b : Nat} {t0 t1 t2 t3 : Int} (h : SumsAt w b t0 t1 t2 t3) (hb : Below B w w') (hlt : b < B) : SumsAt w' b t0 t1 t2 t3 := by
  obtain ⟨⟨c0, c1, c2, c3⟩, ⟨f0, f1, f2, f3⟩⟩ := h
  refine ⟨⟨?_, ?_, ?_, ?_⟩, ⟨?_, ?_, ?_, ?_⟩⟩
  · rw [hb.cell (p := ⟨b, 0, none⟩) hlt]; exact c0
  · rw [hb.cell (p := ⟨b, 1, none⟩) hlt]; exact c1
  · rw [hb.cell (p := ⟨b, 2, none⟩) hlt]; exact c2
  · rw [hb.cell (p := ⟨b, 3, none⟩) hlt]; exact c3
  · rw [hb.frozen (p := ⟨b, 0, none⟩) hlt]; exact f0
  · rw [hb.frozen (p := ⟨b, 1, none⟩) hlt]; exact f1
  · rw [hb.frozen (p := ⟨b, 2, none⟩) hlt]; exact f2
  · rw [hb.frozen (p := ⟨b, 3, none⟩) hlt]; exact f3

theorem cs_same {w : World} {a : Addr} {u : Value} (v : Value) (h : w.cell? a = some u) : (w.setCell a v).cell? a = some v := World.cell?_setCell_same' w a v (by rw [h]; rfl)
theorem cs_other {w : World} {a b : Addr} (v : Value) (h : a ≠ b) : (w.setCell a v).cell? b = w.cell? b := by apply World.cell?_setCell_other; exact h
theorem SumsAt.far {w : World} {b c j : Nat} {t0 t1 t2 t3 : Int} (h : SumsAt w b t0 t1 t2 t3) (hc : c ≠ b) (v : Value) : SumsAt (w.setCell ⟨c, j, none⟩ v) b t0 t1 t2 t3 := by
  obtain ⟨⟨c0, c1, c2, c3⟩, ⟨f0, f1, f2, f3⟩⟩ := h
  refine ⟨⟨?_, ?_, ?_, ?_⟩, ⟨by simpa using f0, by simpa using f1, by simpa using f2, by simpa using f3⟩⟩
  all_goals (rw [cs_other _ (fun h => hc (congrArg Addr.block h))]; assumption)
theorem SumsAt.put0 {w : World} {b : Nat} {t0 t1 t2 t3 : Int} (h : SumsAt w b t0 t1 t2 t3) (x : Int) : SumsAt (w.setCell ⟨b, 0, none⟩ (.int .i64 x)) b x t1 t2 t3 := by
  obtain ⟨⟨c0, c1, c2, c3⟩, ⟨f0, f1, f2, f3⟩⟩ := h
  exact ⟨⟨cs_same _ c0, by rw [cs_other _ (by simp)]; exact c1, by rw [cs_other _ (by simp)]; exact c2, by rw [cs_other _ (by simp)]; exact c3⟩, ⟨by simpa using f0, by simpa using f1, by simpa using f2, by simpa using f3⟩⟩
theorem SumsAt.put1 {w : World} {b : Nat} {t0 t1 t2 t3 : Int} (h : SumsAt w b t0 t1 t2 t3) (x : Int) : SumsAt (w.setCell ⟨b, 1, none⟩ (.int .i64 x)) b t0 x t2 t3 := by
  obtain ⟨⟨c0, c1, c2, c3⟩, ⟨f0, f1, f2, f3⟩⟩ := h
  exact ⟨⟨by rw [cs_other _ (by simp)]; exact c0, cs_same _ c1, by rw [cs_other _ (by simp)]; exact c2, by rw [cs_other _ (by simp)]; exact c3⟩, ⟨by simpa using f0, by simpa using f1, by simpa using f2, by simpa using f3⟩⟩
theorem SumsAt.put2 {w : World} {b : Nat} {t0 t1 t2 t3 : Int} (h : SumsAt w b t0 t1 t2 t3) (x : Int) : SumsAt (w.setCell ⟨b, 2, none⟩ (.int .i64 x)) b t0 t1 x t3 := by
  obtain ⟨⟨c0, c1, c2, c3⟩, ⟨f0, f1, f2, f3⟩⟩ := h
  exact ⟨⟨by rw [cs_other _ (by simp)]; exact c0, by rw [cs_other _ (by simp)]; exact c1, cs_same _ c2, by rw [cs_other _ (by simp)]; exact c3⟩, ⟨by simpa using f0, by simpa using f1, by simpa using f2, by simpa using f3⟩⟩
theorem SumsAt.put3 {w : World} {b : Nat} {t0 t1 t2 t3 : Int} (h : SumsAt w b t0 t1 t2 t3) (x : Int) : SumsAt (w.setCell ⟨b, 3, none⟩ (.int .i64 x)) b t0 t1 t2 x := by
  obtain ⟨⟨c0, c1, c2, c3⟩, ⟨f0, f1, f2, f3⟩⟩ := h
  exact ⟨⟨by rw [cs_other _ (by simp)]; exact c0, by rw [cs_other _ (by simp)]; exact c1, by rw [cs_other _ (by simp)]; exact c2, cs_same _ c3⟩, ⟨by simpa using f0, by simpa using f1, by simpa using f2, by simpa using f3⟩⟩
theorem SumsAt.drew {w : World} {b : Nat} {t0 t1 t2 t3 : Int} (h : SumsAt w b t0 t1 t2 t3) : SumsAt w.drew b t0 t1 t2 t3 := h

set_option maxHeartbeats 1000000 in
theorem do_any (s0 s1 s2 s3 : Int) (a : Option Addr) (l : List P3) (cap n : Nat) (w : World) (hn : n = l.length) (hl : l.length ≤ 4) (hp : PartsAt w a l) (hs : Small l) (hw : Within 2199023255552 (s0, s1, s2, s3)) :
    Calls Try.prog 89 #[.agg #[.int .i64 s0, .int .i64 s1, .int .i64 s2, .int .i64 s3], .slice a n cap] w fun e w' => (∃ t0 t1 t2 t3 : Int, doB (s0, s1, s2, s3) l = (t0, t1, t2, t3) ∧ e = .returned (.agg #[.int .i64 t0, .int .i64 t1, .int .i64 t2, .int .i64 t3])) ∧ Below w.heap.size w w' := by
  subst hn
  go_enter Try.func89, Try.ntmps89
  go_wp2
  go_loopw [9] (fun i w' => ∃ (k : Nat) (t0 t1 t2 t3 : Int), k ≤ l.length ∧ i = .int .i64 k ∧ Hid (doB (s0, s1, s2, s3) (l.take k) = (t0, t1, t2, t3)) ∧ SumsAt w' w.heap.size t0 t1 t2 t3 ∧ SumsAt w' (w.heap.size + 1) 0 0 0 0 ∧ w.heap.size + 2 ≤ w'.heap.size ∧ Below w.heap.size w w') (fun i _ => l.length - (intOf i).toNat)
  case atStart => exact ⟨0, s0, s1, s2, s3, Nat.zero_le _, rfl, rfl, by simp [SumsAt], by simp [SumsAt], by simp, below2 _ _ _⟩
  case round =>
    obtain ⟨k, t0, t1, t2, t3, hk, rfl, hn, hS, hR, hsz, hbw⟩ := hrel
    by_cases hlt : k < l.length
    · have hW : Within (2199023255552 + 4194304) (t0, t1, t2, t3) := by
        have := within_doB hw (small_take hs k)
        rw [hn.out] at this
        exact within_mono this (by have := List.length_take_le k l; omega)
      obtain ⟨⟨a1, a2⟩, ⟨b1, b2⟩, ⟨c1, c2⟩, ⟨d1, d2⟩⟩ := hW
      simp only at a1 a2 b1 b2 c1 c2 d1 d2
      rcases hp with rfl | ⟨b', o, rfl, hb', hc⟩
      · simp at hlt
      obtain ⟨d0, d1', d2'⟩ := hc k hlt
      have hpn := small_get hs hlt
      have HS : doB (s0, s1, s2, s3) (l.take (k + 1)) = do1 (t0, t1, t2, t3) (l[k].1, l[k].2.1, l[k].2.2) := by rw [take_snoc hlt, doB_snoc, hn.out]
      clear hc hn hs hw
      obtain ⟨hcc, hff⟩ := bcell hbw
      generalize l[k].1 = p0 at *
      generalize l[k].2.1 = p1 at *
      generalize l[k].2.2 = p2 at *
      have HN : Hid _ := HS
      clear HS
      go_wp2_with fail
      refine (hasKey_any _ _ _ _).mono ?_
      rintro e w1 ⟨rfl, hb1⟩
      obtain ⟨hcc1, hff1⟩ := bcell hb1
      have hsz1 : wr.heap.size + 1 ≤ w1.heap.size := by have := hb1.size; simpa using this
      have hbr : Below wr.heap.size wr w1 := (below1 wr _).trans (hb1.mono (by simp))
      have hS1 := hS.below hbr (by omega)
      have hR1 := hR.below hbr (by omega)
      have hB1 : Below w.heap.size w w1 := hbw.trans (hbr.mono (by omega))
      have q1 : w1.cell? ⟨wr.heap.size, 1, none⟩ = some (.int .i64 p1) := by rw [hcc1 _ _ (by simp)]; simp
      have q2 : w1.cell? ⟨wr.heap.size, 2, none⟩ = some (.int .i64 p2) := by rw [hcc1 _ _ (by simp)]; simp
      clear hcc1 hff1 hcc hff d0 d1' d2' hb1 hbw hS hR
      by_cases hkey : 0 ≤ p1 ∧ p1 < 4
      · have hkb : keyB p1 = true := by simpa [keyB] using hkey
        have HN2 := HN.out
        simp only [do1, hkb, if_true] at HN2
        rw [hkb]
        clear HN hkb
        have h4 : p1 = 0 ∨ p1 = 1 ∨ p1 = 2 ∨ p1 = 3 := by omega
        clear hkey
        have HX : Hid (SumsAt w1 w.heap.size t0 t1 t2 t3 ∧ SumsAt w1 (w.heap.size + 1) 0 0 0 0) := ⟨hS1, hR1⟩
        obtain ⟨⟨y0, y1, y2, y3⟩, ⟨f0, f1, f2, f3⟩⟩ := hS1
        clear hR1
        rcases h4 with rfl | rfl | rfl | rfl
        · simp only [sadd, ↓reduceIte] at HN2
          have HN : Hid _ := HN2
          clear HN2
          obtain ⟨hp1, hp2⟩ := hpn
          go_wp2
          go_region
          go_wp2
          go_roundw
          case rel => exact ⟨k + 1, t0 + p2, t1, t2, t3, by omega, by go_num, HN, (HX.out.1.put0 _).drew, (HX.out.2.far (by omega) _).drew, by simp; omega, (hB1.setCell (Nat.le_refl _) _).drew⟩
          case measure => simp [intOf]; omega
        · simp only [sadd, ↓reduceIte, Int.reduceEq] at HN2
          have HN : Hid _ := HN2
          clear HN2
          obtain ⟨hp1, hp2⟩ := hpn
          go_wp2
          go_region
          go_wp2
          go_roundw
          case rel => exact ⟨k + 1, t0, t1 + p2, t2, t3, by omega, by go_num, HN, (HX.out.1.put1 _).drew, (HX.out.2.far (by omega) _).drew, by simp; omega, (hB1.setCell (Nat.le_refl _) _).drew⟩
          case measure => simp [intOf]; omega
        · simp only [sadd, ↓reduceIte, Int.reduceEq] at HN2
          have HN : Hid _ := HN2
          clear HN2
          obtain ⟨hp1, hp2⟩ := hpn
          go_wp2
          go_region
          go_wp2
          go_roundw
          case rel => exact ⟨k + 1, t0, t1, t2 + p2, t3, by omega, by go_num, HN, (HX.out.1.put2 _).drew, (HX.out.2.far (by omega) _).drew, by simp; omega, (hB1.setCell (Nat.le_refl _) _).drew⟩
          case measure => simp [intOf]; omega
        · simp only [sadd, ↓reduceIte, Int.reduceEq] at HN2
          have HN : Hid _ := HN2
          clear HN2
          obtain ⟨hp1, hp2⟩ := hpn
          go_wp2
          go_region
          go_wp2
          go_roundw
          case rel => exact ⟨k + 1, t0, t1, t2, t3 + p2, by omega, by go_num, HN, (HX.out.1.put3 _).drew, (HX.out.2.far (by omega) _).drew, by simp; omega, (hB1.setCell (Nat.le_refl _) _).drew⟩
          case measure => simp [intOf]; omega
      · have hkb : keyB p1 = false := by simpa [keyB] using hkey
        have HN2 := HN.out
        simp [do1, hkb] at HN2
        have HN3 : Hid _ := HN2
        rw [hkb]
        clear HN hkb HN2
        have HX : Hid (SumsAt w1 w.heap.size t0 t1 t2 t3 ∧ SumsAt w1 (w.heap.size + 1) 0 0 0 0) := ⟨hS1, hR1⟩
        clear hS1 hR1
        go_wp2
        go_roundw
        case rel => exact ⟨k + 1, t0, t1, t2, t3, by omega, by go_num, HN3, HX.out.1, HX.out.2, by omega, hB1⟩
        case measure => simp [intOf]; omega
    · clear hp
      have HE : Hid (doB (s0, s1, s2, s3) l = (t0, t1, t2, t3)) := by
        have e1 := hn.out
        rw [List.take_of_length_le (by omega)] at e1
        exact e1
      obtain ⟨⟨y0, y1, y2, y3⟩, ⟨f0, f1, f2, f3⟩⟩ := hS
      obtain ⟨⟨x0, x1, x2, x3⟩, ⟨g0, g1, g2, g3⟩⟩ := hR
      clear hn
      go_wp2
      refine bodyPost_ret (v := .agg #[.int .i64 t0, .int .i64 t1, .int .i64 t2, .int .i64 t3]) ?_ rfl ⟨⟨t0, t1, t2, t3, HE.out, rfl⟩, (((hbw.setCell (by simp) _).setCell (by simp) _).setCell (by simp) _).setCell (by simp) _⟩
      simp [results, Try.results89, go_sem, *]

end Go.Proofs.Ytikmnaegalmfeaa
