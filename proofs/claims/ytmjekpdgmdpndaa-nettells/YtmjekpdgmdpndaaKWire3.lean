/- What wire.Bytes does: a new slice that owns a message's bytes. -/
import Derived.Test.YtmjekpdgmdpndaaKWire2
namespace Go.Proofs.Ytmjekpdgmdpndaa
open Go.RowKit
attribute [local go_sem ↓] Go.wp_at_zero Go.wp_at_succ

theorem OwnB.lt {w : World} {base : Nat} {v : Value} {l : List Nat} (h : OwnB w base v l) {j : Nat} (hj : v.ownBlock = some j) : j < w.heap.size := by
  rcases h.2 with ⟨hv, _⟩ | ⟨g, cap, cur, hv, _, hh, _⟩
  · rw [hv] at hj; cases hj
  · rw [hv] at hj; cases hj
    rcases Nat.lt_or_ge g w.heap.size with h' | h'
    · exact h'
    · rw [Array.getElem?_eq_none h'] at hh; cases hh
theorem OwnB.fresh (w : World) {base n : Nat} (hb : base ≤ w.heap.size) (cs : List Nat) (hn : n = cs.length) (hl : cs.length ≤ 1000000) (vs : Array Value) (hv : vs.toList = cells1 cs) : OwnB (w.alloc (.cells vs 5)) base (.slice (some ⟨w.heap.size, 0, none⟩) n n) cs := by
  subst hn
  refine ⟨by simp [cells1], Or.inr ⟨w.heap.size, cs.length, vs, rfl, hb, by exact heap_alloc_new w _, Nat.le_refl _, by unfold maxLen; omega, ?_, ?_⟩⟩
  · rw [← Array.length_toList, hv]; simp [cells1]
  · rw [hv, List.take_of_length_le (by simp [cells1])]
theorem Grew.cell {w w' : World} {v v' : Value} (h : Grew w w' v v') {b o : Nat} (hb : b < w.heap.size) (hne : v.ownBlock ≠ some b) : w'.cell? ⟨b, o, none⟩ = w.cell? ⟨b, o, none⟩ :=
  h.1.cell_far ⟨b, o, none⟩ hb fun e => hne e.symm

/-- All numbers of the parts are of Go's int. -/
def Nums (l : List P3) : Prop := ∀ p ∈ l, (-9223372036854775808 ≤ p.2.1 ∧ p.2.1 ≤ 9223372036854775807) ∧ -9223372036854775808 ≤ p.2.2 ∧ p.2.2 ≤ 9223372036854775807
theorem partsBytes_snoc {l : List P3} {k : Nat} (h : k < l.length) : partsBytes (l.take (k + 1)) = partsBytes (l.take k) ++ numB l[k].2.1 ++ numB l[k].2.2 := by
  rw [take_snoc h, List.append_assoc]; simp only [partsBytes, List.flatMap_append, List.flatMap_cons, List.flatMap_nil, List.append_nil]
theorem partsBytes_len : ∀ l : List P3, (partsBytes l).length ≤ l.length * 20
  | [] => by simp [partsBytes]
  | p :: t => by
    have ih := partsBytes_len t
    have h1 := (numB_len p.2.1).2
    have h2 := (numB_len p.2.2).2
    have e : partsBytes (p :: t) = numB p.2.1 ++ numB p.2.2 ++ partsBytes t := by simp [partsBytes]
    rw [e]; simp; omega
theorem body_byt2 {m : M4} (hd : -9223372036854775808 ≤ m.2.1 ∧ m.2.1 ≤ 9223372036854775807) (hh : -9223372036854775808 ≤ m.2.2.1 ∧ m.2.2.1 ≤ 9223372036854775807) (hl : m.2.2.2.length ≤ 1000000) (hs : Nums m.2.2.2) : Byt (bodyB m) := by
  intro c hc
  simp only [bodyB, List.mem_cons, List.mem_append, partsBytes, List.mem_flatMap] at hc
  rcases hc with rfl | hc | hc | hc | ⟨p, hp, hc | hc⟩
  · omega
  · exact numB_byt (by omega) (by omega) c hc
  · exact numB_byt (by omega) (by omega) c hc
  · exact numB_byt (by omega) (by omega) c hc
  · have := hs p hp; exact numB_byt (by omega) (by omega) c hc
  · have := hs p hp; exact numB_byt (by omega) (by omega) c hc

set_option maxRecDepth 20000 in
set_option maxHeartbeats 2000000 in
theorem bytes_any (k d h : Int) (a : Option Addr) (l : List P3) (cap n : Nat) (w : World) (hn : n = l.length) (hl : l.length ≤ 1000000) (hp : PartsAt w a l)
    (hd : -9223372036854775808 ≤ d ∧ d ≤ 9223372036854775807) (hh : -9223372036854775808 ≤ h ∧ h ≤ 9223372036854775807) (hs : Nums l) :
    Calls Try.prog 50 #[.agg #[.int .i64 k, .int .i64 d, .int .i64 h, .slice a n cap]] w fun e w' => ∃ v, e = .returned v ∧ OwnB w' w.heap.size v (bytesB (k, d, h, l)) ∧ Below w.heap.size w w' := by
  subst hn
  have hbyt := body_byt2 (m := (k, d, h, l)) hd hh hl hs
  obtain ⟨hd1, hd2⟩ := hd
  obtain ⟨hh1, hh2⟩ := hh
  go_enter Try.func50, Try.ntmps50
  go_wp2_with fail
  have hown0 : OwnB ((w.alloc (.cells #[.int .i64 k, .int .i64 d, .int .i64 h, .slice a l.length cap] 43)).alloc (.cells #[.int .u8 (k % 256)] 5)) (w.heap.size + 1) (.slice (some ⟨w.heap.size + 1, 0, none⟩) 1 1) [(k % 256).toNat] := by
    have := OwnB.fresh (w.alloc (.cells #[.int .i64 k, .int .i64 d, .int .i64 h, .slice a l.length cap] 43)) (base := w.heap.size + 1) (n := 1) (by simp) [(k % 256).toNat] rfl (by simp) #[.int .u8 (k % 256)] (by
      have e : (((k % 256).toNat : Nat) : Int) = k % 256 := by omega
      simp only [cells1, List.map_cons, List.map_nil, e])
    simpa using this
  have hW : Below w.heap.size w ((w.alloc (.cells #[.int .i64 k, .int .i64 d, .int .i64 h, .slice a l.length cap] 43)).alloc (.cells #[.int .u8 (k % 256)] 5)) := below2 _ _ _
  have hsz0 : ((w.alloc (.cells #[.int .i64 k, .int .i64 d, .int .i64 h, .slice a l.length cap] 43)).alloc (.cells #[.int .u8 (k % 256)] 5)).heap.size = w.heap.size + 2 := by simp
  have hbox : ((w.alloc (.cells #[.int .i64 k, .int .i64 d, .int .i64 h, .slice a l.length cap] 43)).alloc (.cells #[.int .u8 (k % 256)] 5)).cell? ⟨w.heap.size, 1, none⟩ = some (.int .i64 d) ∧ ((w.alloc (.cells #[.int .i64 k, .int .i64 d, .int .i64 h, .slice a l.length cap] 43)).alloc (.cells #[.int .u8 (k % 256)] 5)).cell? ⟨w.heap.size, 2, none⟩ = some (.int .i64 h) ∧ ((w.alloc (.cells #[.int .i64 k, .int .i64 d, .int .i64 h, .slice a l.length cap] 43)).alloc (.cells #[.int .u8 (k % 256)] 5)).cell? ⟨w.heap.size, 3, none⟩ = some (.slice a l.length cap) := by
    refine ⟨?_, ?_, ?_⟩ <;> (rw [Below.cell (below1 _ _) (by simp)]; simp)
  generalize ((w.alloc (.cells #[.int .i64 k, .int .i64 d, .int .i64 h, .slice a l.length cap] 43)).alloc (.cells #[.int .u8 (k % 256)] 5)) = W0 at *
  have HC : ∀ w', Below (w.heap.size + 1) W0 w' → (w'.cell? ⟨w.heap.size, 1, none⟩ = some (.int .i64 d) ∧ w'.cell? ⟨w.heap.size, 2, none⟩ = some (.int .i64 h) ∧ w'.cell? ⟨w.heap.size, 3, none⟩ = some (.slice a l.length cap)) ∧ Below w.heap.size w w' := by
    intro w' hb
    have hb' : Below w.heap.size w w' := hW.trans (hb.mono (by omega))
    refine ⟨⟨?_, ?_, ?_⟩, hb'⟩
    · rw [hb.cell (p := ⟨w.heap.size, 1, none⟩) (Nat.lt_succ_self _)]; exact hbox.1
    · rw [hb.cell (p := ⟨w.heap.size, 2, none⟩) (Nat.lt_succ_self _)]; exact hbox.2.1
    · rw [hb.cell (p := ⟨w.heap.size, 3, none⟩) (Nat.lt_succ_self _)]; exact hbox.2.2
  clear hW hbox
  have ld := numB_len d
  have lh := numB_len h
  have ln := numB_len (l.length : Int)
  refine (number_any d _ _ (w.heap.size + 1) W0 hd1 hd2 (by simp) hown0 (by omega)).mono ?_
  rintro e w1 ⟨v1, rfl, ho1, hg1⟩
  have hb1 : Below (w.heap.size + 1) W0 w1 := hg1.below hown0 (Nat.le_refl _) (by omega)
  obtain ⟨⟨_, q2, _⟩, _⟩ := HC w1 hb1
  clear hg1 hown0
  have hs1 := hb1.size
  go_wp2_with fail
  refine (number_any h _ _ (w.heap.size + 1) w1 hh1 hh2 (by simp; omega) ho1 (by omega)).mono ?_
  rintro e w2 ⟨v2, rfl, ho2, hg2⟩
  have hb2 : Below (w.heap.size + 1) W0 w2 := hb1.trans (hg2.below ho1 (Nat.le_refl _) (by omega))
  clear q2 hg2 ho1 hb1 hs1
  obtain ⟨⟨_, _, q3⟩, _⟩ := HC w2 hb2
  have hs2 := hb2.size
  go_wp2_with fail
  refine (number_any (l.length : Int) _ _ (w.heap.size + 1) w2 (by omega) (by omega) (by simp; omega) ho2 (by omega)).mono ?_
  rintro e w3 ⟨v3, rfl, ho3, hg3⟩
  have hb3 : Below (w.heap.size + 1) W0 w3 := hb2.trans (hg3.below ho2 (Nat.le_refl _) (by omega))
  clear q3 hg3 ho2 hb2 hs2
  obtain ⟨⟨_, _, q3⟩, hbw3⟩ := HC w3 hb3
  have hs3 := hb3.size
  obtain ⟨pre, HPRE⟩ : ∃ pre, Hid (pre = [(k % 256).toNat] ++ numB d ++ numB h ++ numB l.length) := ⟨_, rfl⟩
  have hpl : pre.length ≤ 31 := by rw [HPRE.out]; simp; omega
  rw [← HPRE.out] at ho3
  have HB : Hid (bodyB (k, d, h, l) = pre ++ partsBytes l) := by show _ = _; rw [HPRE.out]; simp [bodyB]
  clear HC ld lh ln
  go_wp2
  go_loopw [3, 27] (fun v i w' => ∃ j : Nat, j ≤ l.length ∧ i = .int .i64 j ∧ OwnB w' (w.heap.size + 1) v (pre ++ partsBytes (l.take j)) ∧ Below (w.heap.size + 1) w3 w') (fun _ i _ => l.length - (intOf i).toNat)
  case atStart => exact ⟨0, Nat.zero_le _, rfl, by simpa [partsBytes] using ho3, Below.refl _ _⟩
  case round =>
    obtain ⟨j, hj, rfl, hown, hbw⟩ := hrel
    have hszr := hbw.size
    have hlen : (pre ++ partsBytes (l.take j)).length ≤ 20000031 := by
      have h1 := partsBytes_len (l.take j)
      have h2 := List.length_take_le j l
      simp; omega
    clear q3
    by_cases hlt : j < l.length
    · have HE : Hid (pre ++ partsBytes (l.take (j + 1)) = pre ++ partsBytes (l.take j) ++ numB l[j].2.1 ++ numB l[j].2.2) := by show _ = _; rw [partsBytes_snoc hlt]; simp
      obtain ⟨hn1, hn2⟩ := hs _ (List.getElem_mem hlt)
      have lk := numB_len l[j].2.1
      rcases hp.below (hbw3.trans (hbw.mono (by omega))) with rfl | ⟨b', o, rfl, hb', hc⟩
      · simp at hlt
      obtain ⟨d0, d1, d2⟩ := hc j hlt
      clear hc hs hp
      generalize pre ++ partsBytes (l.take j) = lp at *
      generalize l[j].1 = p0 at *
      generalize l[j].2.1 = p1 at *
      generalize l[j].2.2 = p2 at *
      go_wp2_with fail
      have hoA : OwnB (wr.alloc (.cells #[.int .i64 p0, .int .i64 p1, .int .i64 p2] 65)) (w.heap.size + 1) u3 lp := hown.below (below1 wr _) (Nat.le_refl _)
      refine (number_any p1 _ _ (w.heap.size + 1) _ hn1.1 hn1.2 (by omega) hoA (by simp; omega)).mono ?_
      rintro e w4 ⟨v4, rfl, ho4, hg4⟩
      have hbA : Below (w.heap.size + 1) w3 (wr.alloc (.cells #[.int .i64 p0, .int .i64 p1, .int .i64 p2] 65)) := hbw.trans ((below1 wr _).mono (by omega))
      have hb4 : Below (w.heap.size + 1) w3 w4 := hbA.trans (hg4.below hoA (Nat.le_refl _) (by simp; omega))
      have hs4 : wr.heap.size + 1 ≤ w4.heap.size := by have := hg4.1.size; simpa using this
      have q5 : w4.cell? ⟨wr.heap.size, 2, none⟩ = some (.int .i64 p2) := by
        rw [hg4.cell (by simp) (fun e => by have := hown.lt e; omega)]
        simp
      clear hg4 hoA hbA d0 d1 d2
      go_wp2_with fail
      refine (number_any p2 _ _ (w.heap.size + 1) w4 hn2.1 hn2.2 (by simp; omega) ho4 (by omega)).mono ?_
      rintro e w5 ⟨v5, rfl, ho5, hg5⟩
      have hb5 : Below (w.heap.size + 1) w3 w5 := hb4.trans (hg5.below ho4 (Nat.le_refl _) (by omega))
      clear hg5 q5 ho4 hb4 hs4 hown hbw
      go_wp2
      go_roundw
      case rel =>
        refine ⟨j + 1, by omega, by go_num, ?_, hb5⟩
        rw [HE.out]
        exact ho5
      case measure => simp [intOf]; omega
    · have HX : Hid (pre ++ partsBytes (l.take j) = bodyB (k, d, h, l)) := by show _ = _; rw [HB.out, List.take_of_length_le (by omega)]
      rw [HX.out] at hown hlen
      clear hs HX HB HPRE hpl
      have HT : Hid (bytesB (k, d, h, l) = bodyB (k, d, h, l) ++ [sumB (bodyB (k, d, h, l)) / 256, sumB (bodyB (k, d, h, l)) % 256]) := rfl
      generalize bodyB (k, d, h, l) = body at *
      obtain ⟨a', cap', rfl, hat, hcap⟩ := hown.bytes
      have HS := sum_any a' body cap' body.length wr rfl (by omega) hbyt hat
      have hslt := sumB_lt body
      generalize sumB body = s at *
      clear hat hbyt hp
      go_wp2_with fail
      refine HS.mono ?_
      rintro e w6 ⟨rfl, rfl⟩
      clear HS
      go_wp2_with (at_builtin; refine wpList_append_bytes _ rfl _ _ rfl (w.heap.size + 1) _ _ rfl (hown.below (below1 w6 _) (Nat.le_refl _)) w6.heap.size 2 [s / 256, s % 256] rfl (by simp) rfl (by exact heap_alloc_new w6 _) (by simp; omega) (by simp; omega) ?_; intro g cap2 w7 hown2 hgrow)
      go_ret
      refine ⟨_, rfl, ?_, ?_⟩
      · rw [HT.out]
        exact OwnB.base hown2 (Nat.le_succ _)
      · have hoA := hown.below (below1 w6 (.cells (cells1 [s / 256, s % 256]).toArray 5)) (Nat.le_refl _)
        exact hbw3.trans ((hbw.mono (Nat.le_succ _)).trans (((below1 w6 _).mono (by omega)).trans ((hgrow.below hoA (Nat.le_refl _) (by simp; omega)).mono (Nat.le_succ _))))

end Go.Proofs.Ytmjekpdgmdpndaa
