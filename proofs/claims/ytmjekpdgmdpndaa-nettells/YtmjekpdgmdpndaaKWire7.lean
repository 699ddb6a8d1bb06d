/- What wire.Read does, called at whatever bytes. -/
import Derived.Test.YtmjekpdgmdpndaaKWire6
namespace Go.Proofs.Ytmjekpdgmdpndaa
open Go.RowKit
attribute [local go_sem ↓] Go.wp_at_zero Go.wp_at_succ

theorem bytesAt_take {w : World} {a : Option Addr} {l : List Nat} (h : BytesAt w a l) (k : Nat) : BytesAt w a (l.take k) := by
  rcases h with rfl | ⟨b, o, rfl, hlt, hc⟩
  · exact Or.inl (by simp)
  · refine Or.inr ⟨b, o, rfl, hlt, fun i hi => ?_⟩
    have hi' : i < l.length := by simp at hi; omega
    have := hc i hi'
    simpa using this
theorem byt_take {l : List Nat} (h : Byt l) (k : Nat) : Byt (l.take k) := fun c hc => h c (List.mem_of_mem_take hc)

theorem OwnP.le {w : World} {base : Nat} {v : Value} {l : List P3} (h : OwnP w base v l) : l.length ≤ 9223372036854775807 := by
  rcases h.2 with ⟨_, h0⟩ | ⟨g, cap, cur, hv, hg, hh, h1, h2, _⟩
  · omega
  · unfold maxLen at h2; omega
theorem put4 {W : World} {N : Nat} {c0 c1 c2 c3 : Value} {t : TypeId} (hb : Blk W N #[c0, c1, c2, c3] t) (v0 v1 v2 v3 : Value) :
    Blk ((((W.setCell ⟨N, 0, none⟩ v0).setCell ⟨N, 1, none⟩ v1).setCell ⟨N, 2, none⟩ v2).setCell ⟨N, 3, none⟩ v3) N #[v0, v1, v2, v3] t ∧
    Keep (fun q => q = N) W ((((W.setCell ⟨N, 0, none⟩ v0).setCell ⟨N, 1, none⟩ v1).setCell ⟨N, 2, none⟩ v2).setCell ⟨N, 3, none⟩ v3) :=
  ⟨(((hb.set 0 _).set 1 _).set 2 _).set 3 _, ((((Keep.refl (fun q => q = N) W).setCell rfl _).setCell rfl _).setCell rfl _).setCell rfl _⟩

set_option maxRecDepth 20000 in
set_option maxHeartbeats 2000000 in
theorem read_any (a : Option Addr) (l : List Nat) (cap n : Nat) (w : World) (hn : n = l.length) (hcap : l.length ≤ cap) (hmax : cap ≤ 9223372036854775807) (hb : Byt l) (hp : BytesAt w a l) :
    Calls Try.prog 43 #[.slice a n cap] w fun e w' => ∃ v, e = .returned (.tuple #[.agg #[.int .i64 (readB l).1.1, .int .i64 (readB l).1.2.1, .int .i64 (readB l).1.2.2.1, v], .int .i64 (readB l).2]) ∧
      OwnP w' w.heap.size v (readB l).1.2.2.2 ∧ Below w.heap.size w w' := by
  subst hn
  by_cases h3 : l.length < 3
  · have HR : Hid (readB l = (m0, 8)) := by show _ = _; unfold readB; exact if_pos h3
    clear hp
    go_enter Try.func43, Try.ntmps43
    go_wp2_with fail
    refine bodyPost_ret (v := .tuple #[.agg #[.int .i64 0, .int .i64 0, .int .i64 0, .slice none 0 0], .int .i64 8]) ?_ rfl ⟨.slice none 0 0, by rw [HR.out]; rfl, by rw [HR.out]; exact World.ownsRow_nil _ _ _ _, below1 _ _⟩
    simp [results, Try.results43, go_sem]
  rcases hp with rfl | ⟨b, o, rfl, hlt, hc⟩
  · simp at h3
  have hbl : b < w.heap.size := hlt
  obtain ⟨q, HQ⟩ : ∃ q, Hid (l.length = q + 2) := ⟨l.length - 2, by show _ = _; omega⟩
  have hq0 := HQ.out
  have x0 := hc q (by omega)
  have x1 := hc (q + 1) (by omega)
  have hy0 : l[q] < 256 := hb _ (List.getElem_mem _)
  have hy1 : l[q + 1] < 256 := hb _ (List.getElem_mem _)
  have HE : Hid (endB l = l[q] * 256 + l[q + 1]) := by
    show _ = _
    unfold endB
    have e1 : l.length - 2 = q := by omega
    have e2 : l.length - 1 = q + 1 := by omega
    rw [e1, e2]
    simp [List.getD_eq_getElem?_getD, List.getElem?_eq_getElem (show q < l.length by omega), List.getElem?_eq_getElem (show q + 1 < l.length by omega)]
  generalize l[q] = y0 at *
  generalize l[q + 1] = y1 at *
  have hbody : BytesAt w (some ⟨b, o, none⟩) (l.take q) := bytesAt_take (Or.inr ⟨b, o, rfl, hlt, hc⟩) q
  have hbb : Byt (l.take q) := byt_take hb q
  have hlq : (l.take q).length = q := by simp; omega
  have HR : Hid (readB l = if sumB (l.take q) = y0 * 256 + y1 then (if (if (messageB (l.take q)).2 = 0 then wrongM (messageB (l.take q)).1 else (messageB (l.take q)).2) = 0 then ((messageB (l.take q)).1, 0) else (m0, if (messageB (l.take q)).2 = 0 then wrongM (messageB (l.take q)).1 else (messageB (l.take q)).2)) else (m0, 7)) := by
    show _ = _
    unfold readB
    rw [if_neg h3, HE.out, hq0, show q + 2 - 2 = q from rfl]
  have hq1 : 1 ≤ q := by omega
  rw [hq0] at hcap
  have hcap2 : q + 2 ≤ cap := hcap
  clear hc hb HE h3
  generalize l.take q = body at *
  rw [hq0]
  clear hq0 HQ
  rw [← Nat.add_assoc] at x1
  go_enter Try.func43, Try.ntmps43
  go_wp2_with fail
  go_region
  have hk1 : Below w.heap.size w (w.alloc (.cells #[.int .i64 0, .int .i64 0, .int .i64 0, .slice none 0 0] 43)).drew := (below1 w _).drew
  have hB1 : Blk (w.alloc (.cells #[.int .i64 0, .int .i64 0, .int .i64 0, .slice none 0 0] 43)).drew w.heap.size #[.int .i64 0, .int .i64 0, .int .i64 0, .slice none 0 0] 43 := Blk.new w _ _
  generalize (w.alloc (.cells #[.int .i64 0, .int .i64 0, .int .i64 0, .slice none 0 0] 43)).drew = W1 at *
  have hbody1 := hbody.below hk1
  have z0 : W1.cell? ⟨b, o + q, none⟩ = some (.int .u8 (y0 : Nat)) := (hk1.cell (p := ⟨b, o + q, none⟩) hlt).trans x0
  have z1 : W1.cell? ⟨b, o + q + 1, none⟩ = some (.int .u8 (y1 : Nat)) := (hk1.cell (p := ⟨b, o + q + 1, none⟩) hlt).trans x1
  have hslt := sumB_lt body
  have HS : ∀ W', BytesAt W' (some ⟨b, o, none⟩) body → Calls Try.prog 66 #[.slice (some ⟨b, o, none⟩) q cap] W' fun e w' => e = .returned (.int .i64 (sumB body : Nat)) ∧ w' = W' := fun W' hW' => sum_any (some ⟨b, o, none⟩) body cap q W' hlq.symm (by omega) hbb hW'
  clear x0 x1 hbody
  go_wp2_with fail
  go_quiet ((go_at_call 66; refine Calls.quiet_of_same (HS _ ?_); exact hbody1.below (below_drewN (Below.refl _ _) _)))
  have hb2 : Below w.heap.size w (W1.drewN nq) := below_drewN hk1 _
  have hB2 : Blk (W1.drewN nq) w.heap.size #[.int .i64 0, .int .i64 0, .int .i64 0, .slice none 0 0] 43 := hB1.below (below_drewN (Below.refl W1.heap.size W1) nq) hB1.lt
  have hbody2 : BytesAt (W1.drewN nq) (some ⟨b, o, none⟩) body := hbody1.below (below_drewN (Below.refl _ _) _)
  generalize W1.drewN nq = W2 at *
  clear hk1 hB1 hbody1 z0 z1 HS
  by_cases hsum : sumB body = y0 * 256 + y1
  case neg =>
    have HF : Hid (readB l = (m0, 7)) := by show _ = _; rw [HR.out, if_neg hsum]
    have hne : (((sumB body : Nat) : Int) != (y0 : Int) * 256 + (y1 : Int)) = true := by
      rw [bne_iff_ne]; omega
    rw [hne]
    clear hne HR hsum
    have f0 := hB2.free 0
    have f1 := hB2.free 1
    have f2 := hB2.free 2
    have f3 := hB2.free 3
    have g0 := hB2.cell 0
    have g1 := hB2.cell 1
    have g2 := hB2.cell 2
    have g3 := hB2.cell 3
    simp at g0 g1 g2 g3
    go_wp2_with fail
    obtain ⟨hbX, hkX⟩ := put4 hB2 (.int .i64 0) (.int .i64 0) (.int .i64 0) (.slice none 0 0)
    have hbelX := (hb2).trans (hkX.below (B := w.heap.size) (by have := hB2.lt; omega) (fun q hq => by omega))
    have hoX : OwnP ((((W2.setCell ⟨w.heap.size, 0, none⟩ (.int .i64 0)).setCell ⟨w.heap.size, 1, none⟩ (.int .i64 0)).setCell ⟨w.heap.size, 2, none⟩ (.int .i64 0)).setCell ⟨w.heap.size, 3, none⟩ (.slice none 0 0)) w.heap.size (.slice none 0 0) (readB l).1.2.2.2 := by rw [HF.out]; exact World.ownsRow_nil _ _ _ _
    clear f0 f1 f2 f3 g0 g1 g2 g3
    have e0 := hbX.cell 0
    have e1 := hbX.cell 1
    have e2 := hbX.cell 2
    have e3 := hbX.cell 3
    simp only [List.getElem?_toArray, List.getElem?_cons_zero, List.getElem?_cons_succ] at e0 e1 e2 e3
    refine bodyPost_ret (v := .tuple #[.agg #[.int .i64 0, .int .i64 0, .int .i64 0, .slice none 0 0], .int .i64 7]) ?_ rfl ⟨.slice none 0 0, by rw [HF.out]; rfl, hoX, hbelX⟩
    simp [results, Try.results43, go_sem, e0, e1, e2, e3]
  have heq : (((sumB body : Nat) : Int) != (y0 : Int) * 256 + (y1 : Int)) = false := by
    have : ((sumB body : Nat) : Int) = (y0 : Int) * 256 + (y1 : Int) := by omega
    simp [this]
  rw [heq]
  have HR' : Hid (readB l = if (if (messageB body).2 = 0 then wrongM (messageB body).1 else (messageB body).2) = 0 then ((messageB body).1, 0) else (m0, if (messageB body).2 = 0 then wrongM (messageB body).1 else (messageB body).2)) := by show _ = _; rw [HR.out, if_pos hsum]
  have HMS := message_any (some ⟨b, o, none⟩) body cap q W2 hlq.symm (by omega) (by omega) hmax hbb hbody2
  clear heq HR hsum hbody2 hbb
  generalize messageB body = r at *
  obtain ⟨⟨k, d, h, ps⟩, y⟩ := r
  simp only at HMS HR'
  go_wp2_with fail
  refine HMS.mono ?_
  rintro e w3 ⟨v, rfl, ho3, hb3⟩
  obtain ⟨av, cv, rfl, hp3, hcv⟩ := ho3.parts
  have hB3 := hB2.below hb3 hB2.lt
  have hbw3 : Below w.heap.size w w3 := hb2.trans (hb3.mono (by have := hB2.lt; omega))
  have hs3 := hb3.size
  have hs2 := hB2.lt
  clear HMS hB2 hb2 hb3
  have hA : Below w3.heap.size w3 (w3.alloc (.cells #[.int .i64 k, .int .i64 d, .int .i64 h, .slice av ps.length cv] 43)) := below1 _ _
  have hBA := hB3.alloc (.cells #[.int .i64 k, .int .i64 d, .int .i64 h, .slice av ps.length cv] 43)
  have hmA : Blk (w3.alloc (.cells #[.int .i64 k, .int .i64 d, .int .i64 h, .slice av ps.length cv] 43)) w3.heap.size #[.int .i64 k, .int .i64 d, .int .i64 h, .slice av ps.length cv] 43 := Blk.new _ _ _
  have hoA := ho3.below hA (Nat.le_refl _)
  have hpA := hp3.below hA
  have hsA : (w3.alloc (.cells #[.int .i64 k, .int .i64 d, .int .i64 h, .slice av ps.length cv] 43)).heap.size = w3.heap.size + 1 := by simp
  have hbA : Below w.heap.size w (w3.alloc (.cells #[.int .i64 k, .int .i64 d, .int .i64 h, .slice av ps.length cv] 43)) := hbw3.trans (hA.mono (by omega))
  have hle := ho3.le
  clear hB3 ho3 hp3 hA
  by_cases hy : y = 0
  · subst hy
    have HWR := wrongM_any k d h av ps cv ps.length (w3.alloc (.cells #[.int .i64 k, .int .i64 d, .int .i64 h, .slice av ps.length cv] 43)) rfl hle hpA hcv
    have HR2 : Hid (readB l = if wrongM (k, d, h, ps) = 0 then ((k, d, h, ps), 0) else (m0, wrongM (k, d, h, ps))) := by show _ = _; rw [HR'.out]; rfl
    clear HR'
    go_wp2_with fail
    generalize (w3.alloc (.cells #[.int .i64 k, .int .i64 d, .int .i64 h, .slice av ps.length cv] 43)) = X at *
    refine HWR.mono ?_
    rintro e w4 ⟨rfl, hb4⟩
    have hB4 := hBA.below hb4 hBA.lt
    have hm4 := hmA.below hb4 hmA.lt
    have ho4 := hoA.below hb4 (Nat.le_refl _)
    have hbw4 : Below w.heap.size w w4 := hbA.trans (hb4.mono (by omega))
    clear HWR hBA hmA hoA hpA hbA hb4
    generalize wrongM (k, d, h, ps) = z at *
    have k0 := hm4.cell 0
    have k1 := hm4.cell 1
    have k2 := hm4.cell 2
    have k3 := hm4.cell 3
    simp at k0 k1 k2 k3
    have f0 := hB4.free 0
    have f1 := hB4.free 1
    have f2 := hB4.free 2
    have f3 := hB4.free 3
    have g0 := hB4.cell 0
    have g1 := hB4.cell 1
    have g2 := hB4.cell 2
    have g3 := hB4.cell 3
    simp at g0 g1 g2 g3
    by_cases hz : z = 0
    · subst hz
      have HF : Hid (readB l = ((k, d, h, ps), 0)) := by show _ = _; rw [HR2.out]; rfl
      clear HR2
      go_wp2_with fail
      obtain ⟨hbX, hkX⟩ := put4 hB4 (.int .i64 k) (.int .i64 d) (.int .i64 h) (.slice av ps.length cv)
      have hbelX := (hbw4).trans (hkX.below (B := w.heap.size) (by have := hB4.lt; omega) (fun q hq => by omega))
      have hoX : OwnP ((((w4.setCell ⟨w.heap.size, 0, none⟩ (.int .i64 k)).setCell ⟨w.heap.size, 1, none⟩ (.int .i64 d)).setCell ⟨w.heap.size, 2, none⟩ (.int .i64 h)).setCell ⟨w.heap.size, 3, none⟩ (.slice av ps.length cv)) w.heap.size (.slice av ps.length cv) (readB l).1.2.2.2 := by rw [HF.out]; exact (ho4.keep hkX (fun j hj _ e => by have e : j = w.heap.size := e; omega)).base (by omega)
      clear f0 f1 f2 f3 g0 g1 g2 g3
      have e0 := hbX.cell 0
      have e1 := hbX.cell 1
      have e2 := hbX.cell 2
      have e3 := hbX.cell 3
      simp only [List.getElem?_toArray, List.getElem?_cons_zero, List.getElem?_cons_succ] at e0 e1 e2 e3
      refine bodyPost_ret (v := .tuple #[.agg #[.int .i64 k, .int .i64 d, .int .i64 h, .slice av ps.length cv], .int .i64 0]) ?_ rfl ⟨.slice av ps.length cv, by rw [HF.out], hoX, hbelX⟩
      simp [results, Try.results43, go_sem, e0, e1, e2, e3]
    · have HF : Hid (readB l = (m0, z)) := by show _ = _; rw [HR2.out, if_neg hz]
      clear HR2
      go_wp2_with fail
      obtain ⟨hbX, hkX⟩ := put4 hB4 (.int .i64 0) (.int .i64 0) (.int .i64 0) (.slice none 0 0)
      have hbelX := (hbw4).trans (hkX.below (B := w.heap.size) (by have := hB4.lt; omega) (fun q hq => by omega))
      have hoX : OwnP ((((w4.setCell ⟨w.heap.size, 0, none⟩ (.int .i64 0)).setCell ⟨w.heap.size, 1, none⟩ (.int .i64 0)).setCell ⟨w.heap.size, 2, none⟩ (.int .i64 0)).setCell ⟨w.heap.size, 3, none⟩ (.slice none 0 0)) w.heap.size (.slice none 0 0) (readB l).1.2.2.2 := by rw [HF.out]; exact World.ownsRow_nil _ _ _ _
      clear f0 f1 f2 f3 g0 g1 g2 g3
      have e0 := hbX.cell 0
      have e1 := hbX.cell 1
      have e2 := hbX.cell 2
      have e3 := hbX.cell 3
      simp only [List.getElem?_toArray, List.getElem?_cons_zero, List.getElem?_cons_succ] at e0 e1 e2 e3
      refine bodyPost_ret (v := .tuple #[.agg #[.int .i64 0, .int .i64 0, .int .i64 0, .slice none 0 0], .int .i64 z]) ?_ rfl ⟨.slice none 0 0, by rw [HF.out]; rfl, hoX, hbelX⟩
      simp [results, Try.results43, go_sem, e0, e1, e2, e3]
  · have HF : Hid (readB l = (m0, y)) := by show _ = _; rw [HR'.out, if_neg hy, if_neg hy]
    clear HR'
    have f0 := hBA.free 0
    have f1 := hBA.free 1
    have f2 := hBA.free 2
    have f3 := hBA.free 3
    have g0 := hBA.cell 0
    have g1 := hBA.cell 1
    have g2 := hBA.cell 2
    have g3 := hBA.cell 3
    simp at g0 g1 g2 g3
    go_wp2_with fail
    obtain ⟨hbX, hkX⟩ := put4 hBA (.int .i64 0) (.int .i64 0) (.int .i64 0) (.slice none 0 0)
    have hbelX := (hbA).trans (hkX.below (B := w.heap.size) (by have := hBA.lt; omega) (fun q hq => by omega))
    have hoX : OwnP (((((w3.alloc (.cells #[.int .i64 k, .int .i64 d, .int .i64 h, .slice av ps.length cv] 43)).setCell ⟨w.heap.size, 0, none⟩ (.int .i64 0)).setCell ⟨w.heap.size, 1, none⟩ (.int .i64 0)).setCell ⟨w.heap.size, 2, none⟩ (.int .i64 0)).setCell ⟨w.heap.size, 3, none⟩ (.slice none 0 0)) w.heap.size (.slice none 0 0) (readB l).1.2.2.2 := by rw [HF.out]; exact World.ownsRow_nil _ _ _ _
    clear f0 f1 f2 f3 g0 g1 g2 g3
    have e0 := hbX.cell 0
    have e1 := hbX.cell 1
    have e2 := hbX.cell 2
    have e3 := hbX.cell 3
    simp only [List.getElem?_toArray, List.getElem?_cons_zero, List.getElem?_cons_succ] at e0 e1 e2 e3
    refine bodyPost_ret (v := .tuple #[.agg #[.int .i64 0, .int .i64 0, .int .i64 0, .slice none 0 0], .int .i64 y]) ?_ rfl ⟨.slice none 0 0, by rw [HF.out]; rfl, hoX, hbelX⟩
    simp [results, Try.results43, go_sem, e0, e1, e2, e3]

end Go.Proofs.Ytmjekpdgmdpndaa
