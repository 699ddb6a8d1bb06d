/- PartBack, walked: called at whatever parts and sums it answers true and leaves all older memory as it was. -/
import Derived.Test.YtembpegakcooeaaBase
import Derived.Test.YtembpegakcooeaaPart7
import Derived.Test.YtembpegakcooeaaPure2
import Derived.Deep.RegionHeld3
import Derived.Deep.RegionWith
import Derived.Deep.DrawnRows
namespace Go.Proofs.Ytembpegakcooeaa
open Go.RowKit
attribute [local go_sem ↓] Go.wp_at_zero Go.wp_at_succ
attribute [local go_sem ↓] eq4_self

theorem ownP_grown {w w' : World} {base : Nat} {v : Value} {l : List P3} (h : OwnP w base v l) {row : Option Nat} (hg : w.grownBy w' row) (hne : ∀ g, v.ownBlock = some g → row ≠ some g) : OwnP w' base v l := by
  refine ⟨h.1, ?_⟩
  rcases h.2 with h0 | ⟨g, cap, cur, hv, hg', hh, r⟩
  · exact Or.inl h0
  · refine Or.inr ⟨g, cap, cur, hv, hg', ?_, r⟩
    have hlt : g < w.heap.size := by
      rcases Nat.lt_or_ge g w.heap.size with h' | h'
      · exact h'
      · rw [Array.getElem?_eq_none h'] at hh; cases hh
    rw [hg.block g hlt (Ne.symm (hne g (by rw [hv]; rfl)))]; exact hh
theorem ownP_lt {w : World} {base : Nat} {v : Value} {l : List P3} (h : OwnP w base v l) : ∀ g, v.ownBlock = some g → base ≤ g ∧ g < w.heap.size := by
  intro g hg
  rcases h.2 with ⟨hv, _⟩ | ⟨g', cap, cur, hv, hg', hh, r⟩
  · rw [hv] at hg; cases hg
  · rw [hv] at hg
    cases hg
    refine ⟨hg', ?_⟩
    rcases Nat.lt_or_ge g' w.heap.size with h' | h'
    · exact h'
    · rw [Array.getElem?_eq_none h'] at hh; cases hh
theorem ownP_one {w : World} {base g : Nat} {p : P3} (hb : base ≤ g) (hh : w.heap[g]? = some (.cells #[.int .i64 p.1, .int .i64 p.2.1, .int .i64 p.2.2] 36)) : OwnP w base (.slice (some ⟨g, 0, none⟩) 1 1) [p] :=
  ⟨rfl, Or.inr ⟨g, 1, _, rfl, hb, hh, Nat.le_refl _, by unfold maxLen; omega, rfl, rfl⟩⟩
theorem src_of_parts {w : World} {a : Option Addr} {l : List P3} (h : PartsAt w a l) : SrcAt w a l.length 3 (cells3 l) := by
  refine ⟨cells3_len l, ?_⟩
  rcases h with rfl | ⟨b, o, rfl, hlt, hc⟩
  · exact Or.inl rfl
  · refine Or.inr ⟨_, rfl, fun j u hj => ?_⟩
    have hadd : (⟨b, o, none⟩ : Addr).add j = ⟨b, o + j, none⟩ := by unfold Addr.add; split <;> simp_all
    rw [hadd]
    have hlt : j < l.length * 3 := by
      rcases Nat.lt_or_ge j (l.length * 3) with h' | h'
      · exact h'
      · rw [List.getElem?_eq_none (by rw [cells3_len]; exact h')] at hj; cases hj
    have hi : j / 3 < l.length := by omega
    obtain ⟨e0, e1, e2⟩ := cells3_get l (j / 3) hi
    obtain ⟨c0, c1, c2⟩ := hc (j / 3) hi
    have hm : j = j / 3 * 3 ∨ j = j / 3 * 3 + 1 ∨ j = j / 3 * 3 + 2 := by omega
    rcases hm with hm | hm | hm
    · rw [hm] at hj ⊢; rw [e0] at hj; rw [← hj]; exact c0
    · rw [hm] at hj ⊢; rw [e1] at hj; rw [← hj, ← Nat.add_assoc]; exact c1
    · rw [hm] at hj ⊢; rw [e2] at hj; rw [← hj, ← Nat.add_assoc]; exact c2
theorem cells3_one (l : List P3) : ∀ u ∈ cells3 l, u.oneCell' = true := by
  intro u hu
  simp only [cells3, List.mem_flatMap] at hu
  obtain ⟨p, _, hp⟩ := hu
  simp at hp
  rcases hp with rfl | rfl | rfl <;> rfl

/-- 'append(v, src...)' of parts, where v is owned. -/
theorem wpList_append_parts {ops : Array Oper} {rest : List Oper} {o : Oper} {a : Act} {Q : Exit → Act → World → Prop} (w : World) (hgd : o.guard = none) (s x : Operand)
    (ho : o.op = .call { callee := .builtin .append, args := #[s, x], argTypes := #[22, 22] })
    (base : Nat) (v : Value) (l : List P3) (hs : a.eval s = v) (hown : OwnP w base v l) (ad : Option Addr) (m c : Nat) (ps : List P3) (hx : a.eval x = .slice ad m c) (hm : m = ps.length)
    (hp : PartsAt w ad ps) (hl : l.length + ps.length ≤ 1000000) (hbase : base ≤ w.heap.size)
    (h : ∀ v' w', OwnP w' base v' (l ++ ps) → w.grownBy w' v.ownBlock → (v'.ownBlock = v.ownBlock ∨ v'.ownBlock = some w.heap.size) → wpList Try.prog ops Q rest (a.put o.dst v') w') : wpList Try.prog ops Q (o :: rest) a w := by
  obtain ⟨i0, hi, hz0, hz1, hz2⟩ := info_parts infoPart
  subst hm
  refine wpList_append_any w hgd s x 22 ho base 36 i0 _ 3 24 Try.underlying22 hi hz0 hz1 hz2 rfl (by decide) v l.length (cells3 l) hs hown ad ps.length c (cells3 ps) hx (src_of_parts hp) (cells3_one ps) (by unfold maxLen; omega) (by omega) hbase ?_
  intro v' w' h1 h2 h3
  refine h v' w' ?_ h2 h3
  unfold OwnP
  rw [show cells3 (l ++ ps) = cells3 l ++ cells3 ps by simp [cells3], List.length_append]
  exact h1

theorem back_mid {wr w4 : World} {x0 x1 x2 : Value} {T : TypeId} {o : Obj} {base : Nat} {u : Value} {vs : List P3} (hov : OwnP wr base u vs)
    (hg : ((wr.alloc (.cells #[x0, x1, x2] T)).alloc o).grownBy w4 (some (wr.heap.size + 1))) :
    w4.cell? ⟨wr.heap.size, 0, none⟩ = some x0 ∧ w4.cell? ⟨wr.heap.size, 1, none⟩ = some x1 ∧ w4.cell? ⟨wr.heap.size, 2, none⟩ = some x2 ∧ w4.frozen? ⟨wr.heap.size, 2, none⟩ = false ∧ wr.heap.size + 2 ≤ w4.heap.size ∧ OwnP w4 base u vs := by
  refine ⟨?_, ?_, ?_, ?_, ?_, ?_⟩
  · rw [hg.cell_far _ (by simp; omega) (by simp)]; simp
  · rw [hg.cell_far _ (by simp; omega) (by simp)]; simp
  · rw [hg.cell_far _ (by simp; omega) (by simp)]; simp
  · rw [hg.frozen_far _ (by simp; omega) (by simp)]; simp
  · have := hg.size; simpa using this
  · refine ownP_grown (hov.below (below2 wr _ _) (Nat.le_refl _)) hg (fun g hgb => ?_)
    have := ownP_lt hov g hgb
    intro e
    cases e
    omega
theorem heap_set_alloc (w : World) (a : Addr) (v : Value) (o : Obj) : ((w.setCell a v).alloc o).heap[w.heap.size]? = some o := by have := heap_alloc_new (w.setCell a v) o; simpa using this
theorem own_set_alloc {w : World} {base c j : Nat} {x : Value} {o : Obj} {v : Value} {l : List P3} (h : OwnP w base v l) (hne : ∀ g, v.ownBlock = some g → g ≠ c) : OwnP ((w.setCell ⟨c, j, none⟩ x).alloc o) base v l := by
  refine ⟨h.1, ?_⟩
  rcases h.2 with h0 | ⟨g, cap, cur, hv, hg', hh, r⟩
  · exact Or.inl h0
  · refine Or.inr ⟨g, cap, cur, hv, hg', ?_, r⟩
    have hlt : g < w.heap.size := by
      rcases Nat.lt_or_ge g w.heap.size with h' | h'
      · exact h'
      · rw [Array.getElem?_eq_none h'] at hh; cases hh
    rw [Below.heap_alloc _ _ _ (by simpa [World.setCell] using hlt), Below.heap_setCell _ _ _ _ (hne g (by rw [hv]; rfl))]
    exact hh

theorem do_val (s0 s1 s2 s3 t0 t1 t2 t3 : Int) (a : Option Addr) (l : List P3) (cap n : Nat) (w : World) (hd : doB (s0, s1, s2, s3) l = (t0, t1, t2, t3)) (hn : n = l.length) (hl : l.length ≤ 4) (hp : PartsAt w a l) (hs : Small l) (hw : Within 2199023255552 (s0, s1, s2, s3)) :
    Calls Try.prog 15 #[.agg #[.int .i64 s0, .int .i64 s1, .int .i64 s2, .int .i64 s3], .slice a n cap] w fun e w' => e = .returned (.agg #[.int .i64 t0, .int .i64 t1, .int .i64 t2, .int .i64 t3]) ∧ Below w.heap.size w w' :=
  (do_any s0 s1 s2 s3 a l cap n w hn hl hp hs hw).mono fun e w' ⟨⟨u0, u1, u2, u3, hu, he⟩, hb⟩ => by
    rw [hd] at hu
    cases hu
    exact ⟨he, hb⟩

set_option maxHeartbeats 2000000 in
theorem partBack_any (a : Option Addr) (l : List P3) (cap n : Nat) (s0 s1 s2 s3 : Int) (w : World) (hn : n = l.length) (hm : l.length ≤ 9223372036854775807) (hp : PartsAt w a l) (hcap : l.length ≤ cap) :
    Calls Try.prog 4 #[.slice a n cap, .agg #[.int .i64 s0, .int .i64 s1, .int .i64 s2, .int .i64 s3]] w fun e w' => e = .returned (.bool true) ∧ Below w.heap.size w w' := by
  subst hn
  go_enter Try.func4, Try.ntmps4
  go_wp2_with fail
  have hbA := below1 w (.cells #[.int .i64 s0, .int .i64 s1, .int .i64 s2, .int .i64 s3] 23)
  have hsA : w.heap.size < (w.alloc (.cells #[.int .i64 s0, .int .i64 s1, .int .i64 s2, .int .i64 s3] 23)).heap.size := by simp
  have hSA : SumsAt (w.alloc (.cells #[.int .i64 s0, .int .i64 s1, .int .i64 s2, .int .i64 s3] 23)) w.heap.size s0 s1 s2 s3 := by simp [SumsAt]
  have hpA := hp.below hbA
  generalize w.alloc (.cells #[.int .i64 s0, .int .i64 s1, .int .i64 s2, .int .i64 s3] 23) = wa at *
  refine (alive_any _).mono ?_
  rintro e w1 ⟨rfl, hb1⟩
  have hp1 := hpA.below hb1
  have hS1 := hSA.below hb1 hsA
  have hs1 := hb1.size
  have hB1 : Below w.heap.size w w1 := hbA.trans (hb1.mono (Nat.le_of_lt hsA))
  clear hpA hSA hp hb1 hbA
  go_wp2_with fail
  refine (wrong_any _ l _ 1 _ hm hp1 hcap).mono ?_
  rintro e w2 ⟨rfl, hb2⟩
  have hp2 := hp1.below hb2
  have hS2 := hS1.below hb2 (by omega)
  have hs2 := hb2.size
  have hB2 : Below w.heap.size w w2 := hB1.trans (hb2.mono hB1.size)
  clear hp1 hS1 hb2 hB1
  by_cases hw : wrong l 1 = 0
  · rw [hw]
    obtain ⟨⟨y0, y1, y2, y3⟩, _⟩ := id hS2
    obtain ⟨hl1, hl4, hin, hpw⟩ := wrong_ok hw
    have HK : Hid (Small l ∧ (∀ p ∈ l, keyB p.2.1 = true) ∧ l.Pairwise (fun p q => p.2.1 ≠ q.2.1)) := ⟨small_of hin, (keys_of hin hpw).1, (keys_of hin hpw).2⟩
    clear hw hin hpw
    go_wp2_with fail
    refine (rightSums_any _ _ _ _ _).mono ?_
    rintro e w3 ⟨rfl, hb3⟩
    have hp3 := hp2.below hb3
    have hS3 := hS2.below hb3 (by omega)
    have hs3 := hb3.size
    have hB3 : Below w.heap.size w w3 := hB2.trans (hb3.mono hB2.size)
    clear hp2 hS2 hb3 hB2 y0 y1 y2 y3
    by_cases hr : rightS (s0, s1, s2, s3) = true
    · rw [hr]
      have HR : Hid (rightS (s0, s1, s2, s3) = true) := hr
      have HX : Hid (SumsAt w3 w.heap.size s0 s1 s2 s3) := hS3
      clear hr hS3
      go_wp2
      go_loopw [5, 6, 22] (fun v u i w' => ∃ k : Nat, k ≤ l.length ∧ i = .int .i64 k ∧ OwnP w' w3.heap.size v ((l.take k).map negP) ∧ OwnP w' w3.heap.size u (l.take k).reverse ∧ (∀ g, v.ownBlock = some g → u.ownBlock ≠ some g) ∧ Below w3.heap.size w3 w') (fun _ _ i _ => l.length - (intOf i).toNat)
      case atStart => exact ⟨0, Nat.zero_le _, rfl, World.ownsRow_nil _ _ _ _, World.ownsRow_nil _ _ _ _, (fun g hg => by cases hg), Below.refl _ _⟩
      case round =>
        obtain ⟨k, hk, rfl, hov, hou, hne, hbw⟩ := hrel
        have hp4 := hp3.below hbw
        by_cases hlt : k < l.length
        · have e1 : (l.take (k + 1)).map negP = (l.take k).map negP ++ [negP l[k]] := by rw [take_snoc hlt, List.map_append]; rfl
          have e2 : (l.take (k + 1)).reverse = [l[k]] ++ (l.take k).reverse := by rw [take_snoc hlt, List.reverse_append]; rfl
          have n1 : ((l.take k).map negP).length ≤ 4 := by simp; omega
          have n2 : ((l.take k).reverse).length ≤ 4 := by simp; omega
          rcases hp4 with rfl | ⟨b', o, rfl, hb', hc⟩
          · simp at hlt
          obtain ⟨d0, d1, d2⟩ := hc k hlt
          obtain ⟨a6, c6, rfl, hp6, _⟩ := hou.parts
          generalize (l.take k).map negP = vs at *
          generalize (l.take k).reverse = us at *
          have HE : Hid ((l.take (k + 1)).map negP = vs ++ [negP l[k]] ∧ (l.take (k + 1)).reverse = [l[k]] ++ us) := ⟨e1, e2⟩
          have HO : Hid (OwnP wr w3.heap.size u5 vs ∧ OwnP wr w3.heap.size (.slice a6 us.length c6) us ∧ PartsAt wr a6 us) := ⟨hov, hou, hp6⟩
          have HNE : Hid _ := hne
          have hszw := hbw.size
          clear e1 e2 hc hov hou hp6 hne hp3
          have hpn := small_get HK.out.1 hlt
          obtain ⟨hn1, hn2⟩ := hpn
          go_wp2_with (first
            | (at_builtin; refine wpList_append_parts _ rfl (.tmp 27) (.tmp 28) rfl w3.heap.size (.slice (some ⟨wr.heap.size + 1, 0, none⟩) 1 1) [l[k]] rfl (ownP_one (by omega) (by exact heap2 wr _ _)) a6 us.length c6 us rfl rfl (HO.out.2.2.below (below2 wr _ _)) (by simp; omega) (by simp; omega) ?_; intro v' w4 ho4 hg4 hat4; obtain ⟨q0, q1, q2, f2, hz4, hov4⟩ := back_mid HO.out.1 hg4)
            | (at_builtin; refine wpList_append_part _ rfl (.tmp 34) (.tmp 36) rfl w3.heap.size u5 vs rfl (own_set_alloc hov4 (fun g hg => Nat.ne_of_lt (ownP_lt HO.out.1 g hg).2)) _ (negP l[k]) rfl (by exact heap_set_alloc _ _ _ _) (by omega) (by simp; omega) ?_; intro g5 c5 w5 ho5 hg5 hat5 hlt5))
          go_roundw
          case rel =>
            have hv4 : ∀ g, v'.ownBlock = some g → wr.heap.size + 1 ≤ g ∧ g < w4.heap.size := by
              intro g hg
              refine ⟨?_, (ownP_lt ho4 g hg).2⟩
              rcases hat4 with h | h
              · rw [hg] at h; simp [Value.ownBlock] at h; omega
              · rw [hg] at h; simp at h; omega
            have hu5 : ∀ g, u5.ownBlock = some g → w3.heap.size ≤ g ∧ g < wr.heap.size := ownP_lt HO.out.1
            have hB4 : Below w3.heap.size w3 w4 := (hbw.trans ((below2 wr _ _).mono hszw)).grown hg4 (by simp; omega) (fun g hg => by simp [Value.ownBlock] at hg; omega)
            have hz5 := hg5.size
            simp at hz5
            refine ⟨k + 1, by omega, by go_num, by rw [HE.out.1]; exact ho5, ?_, ?_, ?_⟩
            · rw [HE.out.2]
              refine ownP_grown (own_set_alloc ho4 (fun g hg => by have := hv4 g hg; omega)) hg5 (fun g hg e => ?_)
              have h1 := hv4 g hg
              have h2 := hu5 g e
              omega
            · intro g hg e
              have h1 := hv4 g e
              simp only [Value.ownBlock, Option.some.injEq] at hg
              subst hg
              rcases hat5 with h | h
              · have h2 := hu5 _ h; omega
              · simp at h; omega
            · exact ((hB4.setCell (by show w3.heap.size ≤ wr.heap.size; omega) _).alloc (by simp; omega) _).grown hg5 (by simp; omega) (fun g hg => (hu5 g hg).1)
          case measure => simp [intOf]; omega
        · have e1 : l.take k = l := by rw [List.take_of_length_le (by omega)]
          rw [e1] at hov hou
          obtain ⟨a5, c5, rfl, hp5, _⟩ := hov.parts
          obtain ⟨a6, c6, rfl, hp6, _⟩ := hou.parts
          have hB4 : Below w.heap.size w wr := hB3.trans (hbw.mono hB3.size)
          have hS4 := HX.out.below hbw (by omega)
          have hs4 := hbw.size
          have lv : (l.map negP).length = l.length := by simp
          have lu : l.reverse.length = l.length := by simp
          obtain ⟨hK1, hK2, hK3⟩ := HK.out
          have hsv := small_neg hK1
          have hsu := small_rev hK1
          have hWs : Within 1048576 (s0, s1, s2, s3) := within_right HR.out
          have HD1 := doB_back (s0, s1, s2, s3) l
          have HD2 := doB_reverse (s0, s1, s2, s3) l
          have HD3 := fits_back HR.out hK2 hK3
          have hWx := within_doB hWs hK1
          generalize l.map negP = vs at *
          generalize l.reverse = us at *
          rw [lv, lu]
          have HF : Hid (doB (doB (s0, s1, s2, s3) l) vs = (s0, s1, s2, s3) ∧ doB (s0, s1, s2, s3) us = doB (s0, s1, s2, s3) l ∧ (fitsB (s0, s1, s2, s3) l = 0 → rightS (doB (s0, s1, s2, s3) l) = true ∧ fitsB (doB (s0, s1, s2, s3) l) vs = 0) ∧ Within (1048576 + l.length * 1048576) (doB (s0, s1, s2, s3) l)) := ⟨HD1, HD2, HD3, hWx⟩
          have HL : Hid (vs.length = l.length ∧ us.length = l.length) := ⟨lv, lu⟩
          have HV : Hid (Small l ∧ Small vs ∧ Small us ∧ Within 1048576 (s0, s1, s2, s3)) := ⟨hK1, hsv, hsu, hWs⟩
          clear hov hou hne hp3 e1 HK hK1 hK2 hK3 hsv hsu hWs HD1 HD2 HD3 hWx lv lu HX HR hbw
          obtain ⟨⟨y0, y1, y2, y3⟩, _⟩ := id hS4
          go_wp2_with fail
          refine (do_any s0 s1 s2 s3 a l _ _ _ rfl hl4 hp4 HV.out.1 (within_mono HV.out.2.2.2 (by omega))).mono ?_
          rintro e w5 ⟨⟨x0, x1, x2, x3, hx, rfl⟩, hb5⟩
          have hWx := HF.out.2.2.2
          have hF1 := HF.out.1
          have hF2 := HF.out.2.1
          have hF3 := HF.out.2.2.1
          rw [hx] at hWx hF1 hF2 hF3
          have hWx2 : Within 2199023255552 (x0, x1, x2, x3) := within_mono hWx (by omega)
          have HX : Hid (doB (x0, x1, x2, x3) vs = (s0, s1, s2, s3) ∧ doB (s0, s1, s2, s3) us = (x0, x1, x2, x3) ∧ (fitsB (s0, s1, s2, s3) l = 0 → rightS (x0, x1, x2, x3) = true ∧ fitsB (x0, x1, x2, x3) vs = 0) ∧ Within 2199023255552 (x0, x1, x2, x3)) := ⟨hF1, hF2, hF3, hWx2⟩
          clear hx hWx hF1 hF2 hF3 HF hWx2
          have hp7 := hp4.below hb5
          have hp8 := hp5.below hb5
          have hp9 := hp6.below hb5
          have hS7 := hS4.below hb5 (by omega)
          have hs5 := hb5.size
          have hB5 : Below w.heap.size w w5 := hB4.trans (hb5.mono hB4.size)
          clear hp4 hp5 hp6 hS4 hb5 hB4 y0 y1 y2 y3
          obtain ⟨⟨y0, y1, y2, y3⟩, _⟩ := id hS7
          have hlt5 : w.heap.size < w5.heap.size := by omega
          go_wp2_with fail
          have hbx := below1 w5 (.cells #[.int .i64 x0, .int .i64 x1, .int .i64 x2, .int .i64 x3] 23)
          have hsx : w5.heap.size < (w5.alloc (.cells #[.int .i64 x0, .int .i64 x1, .int .i64 x2, .int .i64 x3] 23)).heap.size := by simp
          have hXA : SumsAt (w5.alloc (.cells #[.int .i64 x0, .int .i64 x1, .int .i64 x2, .int .i64 x3] 23)) w5.heap.size x0 x1 x2 x3 := by simp [SumsAt]
          have hq7 := hp7.below hbx
          have hq8 := hp8.below hbx
          have hq9 := hp9.below hbx
          have hT7 := hS7.below hbx (by omega)
          have hB6 : Below w.heap.size w (w5.alloc (.cells #[.int .i64 x0, .int .i64 x1, .int .i64 x2, .int .i64 x3] 23)) := hB5.trans (hbx.mono hB5.size)
          clear hp7 hp8 hp9 hS7 hbx hB5 y0 y1 y2 y3
          generalize (w5.alloc (.cells #[.int .i64 x0, .int .i64 x1, .int .i64 x2, .int .i64 x3] 23)) = w6 at *
          refine (fits_any s0 s1 s2 s3 a l _ _ _ rfl hl4 hq7 HV.out.1 (within_mono HV.out.2.2.2 (by omega))).mono ?_
          rintro e w7 ⟨rfl, hb7⟩
          have hp7 := hq7.below hb7
          have hp8 := hq8.below hb7
          have hp9 := hq9.below hb7
          have hS7 := hT7.below hb7 (by omega)
          have hX7 := hXA.below hb7 hsx
          have hs7 := hb7.size
          have hB7 : Below w.heap.size w w7 := hB6.trans (hb7.mono hB6.size)
          clear hq7 hq8 hq9 hT7 hXA hB6 hb7
          have hXc := id hX7
          obtain ⟨⟨z0, z1, z2, z3⟩, _⟩ := hXc
          by_cases hf : fitsB (s0, s1, s2, s3) l = 0
          · rw [hf]
            obtain ⟨hr8, hf8⟩ := HX.out.2.2.1 hf
            clear hf
            go_wp2_with fail
            refine (rightSums_any _ _ _ _ _).mono ?_
            rw [hr8]
            rintro e w8 ⟨rfl, hb8⟩
            have hq7 := hp7.below hb8
            have hq8 := hp8.below hb8
            have hq9 := hp9.below hb8
            have hS8 := hS7.below hb8 (by omega)
            have hX8 := hX7.below hb8 (by omega)
            have hs8 := hb8.size
            have hB8 : Below w.heap.size w w8 := hB7.trans (hb8.mono hB7.size)
            clear hp7 hp8 hp9 hS7 hX7 hB7 hb8 z0 z1 z2 z3 hr8
            have hXc := id hX8
            obtain ⟨⟨z0, z1, z2, z3⟩, _⟩ := hXc
            go_wp2_with fail
            refine (fits_any x0 x1 x2 x3 a5 vs _ _ _ HL.out.1.symm (by rw [HL.out.1]; exact hl4) hq8 HV.out.2.1 HX.out.2.2.2).mono ?_
            rw [hf8]
            rintro e w9 ⟨rfl, hb9⟩
            have hp7 := hq7.below hb9
            have hp8 := hq8.below hb9
            have hp9 := hq9.below hb9
            have hS7 := hS8.below hb9 (by omega)
            have hX7 := hX8.below hb9 (by omega)
            have hs9 := hb9.size
            have hB9 : Below w.heap.size w w9 := hB8.trans (hb9.mono hB8.size)
            clear hq7 hq8 hq9 hS8 hX8 hB8 hb9 z0 z1 z2 z3 hf8
            go_wp2_with fail
            have hkeep : ∀ w', Below w9.heap.size w9 w' → (((w'.cell? ⟨w.heap.size, 0, none⟩ = some (.int .i64 s0) ∧ w'.cell? ⟨w.heap.size, 1, none⟩ = some (.int .i64 s1) ∧ w'.cell? ⟨w.heap.size, 2, none⟩ = some (.int .i64 s2) ∧ w'.cell? ⟨w.heap.size, 3, none⟩ = some (.int .i64 s3))) ∧ (w'.cell? ⟨w5.heap.size, 0, none⟩ = some (.int .i64 x0) ∧ w'.cell? ⟨w5.heap.size, 1, none⟩ = some (.int .i64 x1) ∧ w'.cell? ⟨w5.heap.size, 2, none⟩ = some (.int .i64 x2) ∧ w'.cell? ⟨w5.heap.size, 3, none⟩ = some (.int .i64 x3))) :=
              fun w' hb => ⟨(hS7.below hb (by omega)).1, (hX7.below hb (by omega)).1⟩
            have HKP : Hid _ := hkeep
            have HPP : Hid (PartsAt w9 a5 vs ∧ PartsAt w9 a6 us) := ⟨hp8, hp9⟩
            clear hkeep hp7 hp8 hp9 hS7 hX7
            go_region_held3 (fun w' => ((w'.cell? ⟨w.heap.size, 0, none⟩ = some (.int .i64 s0) ∧ w'.cell? ⟨w.heap.size, 1, none⟩ = some (.int .i64 s1) ∧ w'.cell? ⟨w.heap.size, 2, none⟩ = some (.int .i64 s2) ∧ w'.cell? ⟨w.heap.size, 3, none⟩ = some (.int .i64 s3))) ∧ (w'.cell? ⟨w5.heap.size, 0, none⟩ = some (.int .i64 x0) ∧ w'.cell? ⟨w5.heap.size, 1, none⟩ = some (.int .i64 x1) ∧ w'.cell? ⟨w5.heap.size, 2, none⟩ = some (.int .i64 x2) ∧ w'.cell? ⟨w5.heap.size, 3, none⟩ = some (.int .i64 x3))) (
              first
              | exact HKP.out _ hBd
              | exact HKP.out _ hBc
              | exact HKP.out _ (Below.refl _ _)
              | exact HKP.out _ (Below.refl _ _).drew) (
              first
              | (go_at_call_of 15 (Value.agg #[.int .i64 x0, .int .i64 x1, .int .i64 x2, .int .i64 x3]); refine (do_val x0 x1 x2 x3 s0 s1 s2 s3 a5 vs _ _ _ HX.out.1 HL.out.1.symm (by rw [HL.out.1]; exact hl4) (by exact HPP.out.1.below (Below.refl _ _).drew) HV.out.2.1 HX.out.2.2.2).mono ?_; rintro e wc ⟨rfl, hbc⟩; have hBc : Below w9.heap.size w9 wc := (Below.refl _ _).drew.trans hbc; clear hbc)
              | (go_at_call_of 15 (Value.agg #[.int .i64 s0, .int .i64 s1, .int .i64 s2, .int .i64 s3]); refine (do_val s0 s1 s2 s3 x0 x1 x2 x3 a6 us _ _ _ HX.out.2.1 HL.out.2.symm (by rw [HL.out.2]; exact hl4) (by exact HPP.out.2.below hBc) HV.out.2.2.1 (within_mono HV.out.2.2.2 (by omega))).mono ?_; rintro e wd ⟨rfl, hbd⟩; have hBd : Below w9.heap.size w9 wd := hBc.trans (hbd.mono hBc.size); clear hbd))
            go_wp2
            go_ret
            exact ⟨rfl, hB9.trans (hBd.mono hB9.size)⟩
          · have hf2 : (fitsB (s0, s1, s2, s3) l == 0) = false := by simpa using hf
            clear hf z0 z1 z2 z3
            generalize fitsB (s0, s1, s2, s3) l = fv at *
            go_wp2_with fail
            have hkeep : ∀ w', Below w7.heap.size w7 w' → (((w'.cell? ⟨w.heap.size, 0, none⟩ = some (.int .i64 s0) ∧ w'.cell? ⟨w.heap.size, 1, none⟩ = some (.int .i64 s1) ∧ w'.cell? ⟨w.heap.size, 2, none⟩ = some (.int .i64 s2) ∧ w'.cell? ⟨w.heap.size, 3, none⟩ = some (.int .i64 s3))) ∧ (w'.cell? ⟨w5.heap.size, 0, none⟩ = some (.int .i64 x0) ∧ w'.cell? ⟨w5.heap.size, 1, none⟩ = some (.int .i64 x1) ∧ w'.cell? ⟨w5.heap.size, 2, none⟩ = some (.int .i64 x2) ∧ w'.cell? ⟨w5.heap.size, 3, none⟩ = some (.int .i64 x3))) :=
              fun w' hb => ⟨(hS7.below hb (by omega)).1, (hX7.below hb (by omega)).1⟩
            have HKP : Hid _ := hkeep
            have HPP : Hid (PartsAt w7 a5 vs ∧ PartsAt w7 a6 us) := ⟨hp8, hp9⟩
            clear hkeep hp7 hp8 hp9 hS7 hX7
            go_region_held3 (fun w' => ((w'.cell? ⟨w.heap.size, 0, none⟩ = some (.int .i64 s0) ∧ w'.cell? ⟨w.heap.size, 1, none⟩ = some (.int .i64 s1) ∧ w'.cell? ⟨w.heap.size, 2, none⟩ = some (.int .i64 s2) ∧ w'.cell? ⟨w.heap.size, 3, none⟩ = some (.int .i64 s3))) ∧ (w'.cell? ⟨w5.heap.size, 0, none⟩ = some (.int .i64 x0) ∧ w'.cell? ⟨w5.heap.size, 1, none⟩ = some (.int .i64 x1) ∧ w'.cell? ⟨w5.heap.size, 2, none⟩ = some (.int .i64 x2) ∧ w'.cell? ⟨w5.heap.size, 3, none⟩ = some (.int .i64 x3))) (
              first
              | exact HKP.out _ hBd
              | exact HKP.out _ hBc
              | exact HKP.out _ (Below.refl _ _)
              | exact HKP.out _ (Below.refl _ _).drew) (
              first
              | (go_at_call_of 15 (Value.agg #[.int .i64 x0, .int .i64 x1, .int .i64 x2, .int .i64 x3]); refine (do_val x0 x1 x2 x3 s0 s1 s2 s3 a5 vs _ _ _ HX.out.1 HL.out.1.symm (by rw [HL.out.1]; exact hl4) (by exact HPP.out.1.below (Below.refl _ _).drew) HV.out.2.1 HX.out.2.2.2).mono ?_; rintro e wc ⟨rfl, hbc⟩; have hBc : Below w7.heap.size w7 wc := (Below.refl _ _).drew.trans hbc; clear hbc)
              | (go_at_call_of 15 (Value.agg #[.int .i64 s0, .int .i64 s1, .int .i64 s2, .int .i64 s3]); refine (do_val s0 s1 s2 s3 x0 x1 x2 x3 a6 us _ _ _ HX.out.2.1 HL.out.2.symm (by rw [HL.out.2]; exact hl4) (by exact HPP.out.2.below hBc) HV.out.2.2.1 (within_mono HV.out.2.2.2 (by omega))).mono ?_; rintro e wd ⟨rfl, hbd⟩; have hBd : Below w7.heap.size w7 wd := hBc.trans (hbd.mono hBc.size); clear hbd))
            go_wp2
            go_ret
            exact ⟨rfl, hB7.trans (hBd.mono hB7.size)⟩
    · have hr' : rightS (s0, s1, s2, s3) = false := by simpa using hr
      rw [hr']
      clear hr hr' hS3 HK
      go_wp2
      go_ret
      exact ⟨rfl, hB3⟩
  · have hw' : (wrong l 1 == 0) = false := by simpa using hw
    generalize wrong l 1 = x at *
    clear hS2
    have hw2 : (x != 0) = true := by simpa using hw
    clear hw
    go_wp2
    go_ret
    exact ⟨rfl, hB2⟩

end Go.Proofs.Ytembpegakcooeaa
