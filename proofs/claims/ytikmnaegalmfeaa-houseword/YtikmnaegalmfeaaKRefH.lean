/- What the document's House does, called at a log that lies in memory. -/
import Derived.Test.YtikmnaegalmfeaaKLog5
import Derived.Test.YtikmnaegalmfeaaKJ11
import Derived.Test.YtikmnaegalmfeaaKRef4
namespace Go.Proofs.Ytikmnaegalmfeaa
open Go.RowKit
attribute [local go_sem ↓] Go.wp_at_zero Go.wp_at_succ

theorem rdoV {f : Nat} {s : S4} {l : List P3} {args : Array Value} {w : World} {t0 t1 t2 t3 : Int} (hd : doB s l = (t0, t1, t2, t3))
    (h : Calls Try.prog f args w fun e w' => (∃ x0 x1 x2 x3, doB s l = (x0, x1, x2, x3) ∧ e = .returned (.agg #[.int .i64 x0, .int .i64 x1, .int .i64 x2, .int .i64 x3])) ∧ Below w.heap.size w w') :
    Calls Try.prog f args w fun e w' => e = .returned (.agg #[.int .i64 t0, .int .i64 t1, .int .i64 t2, .int .i64 t3]) ∧ Below w.heap.size w w' := doV hd h

/-- On the way: block B holds the house h, whose log is the slice lv; what it has lies from base on, but for parts, of which PP holds. -/
def RAt (PP : Option Addr → List P3 → Prop) (B base : Nat) (lv : Value) (w : World) (h : H3) : Prop :=
  ∃ (ra : Option Addr) (nr rc : Nat) (XR : List XD) (da : Option Addr) (nd dc : Nat),
    Blk w B #[lv, .int .i64 h.1.1, .int .i64 h.1.2.1, .int .i64 h.1.2.2.1, .int .i64 h.1.2.2.2, .slice ra nr rc, .slice da nd dc] 31 ∧
    OwnL 69 2 encD w base (.slice ra nr rc) XR ∧ (∀ x ∈ XR, PP x.2.1.1 x.2.2) ∧ XR.map stripD = h.2.1 ∧ OwnL 3 1 encI w base (.slice da nd dc) h.2.2
/-- Within the inner loop: the sums, what is done, and the old list of what is ready. -/
def QAt (B base : Nat) (lv rv : Value) (w : World) (s : S4) (dn : List Int) : Prop :=
  ∃ (da : Option Addr) (nd dc : Nat), Blk w B #[lv, .int .i64 s.1, .int .i64 s.2.1, .int .i64 s.2.2.1, .int .i64 s.2.2.2, rv, .slice da nd dc] 31 ∧ OwnL 3 1 encI w base (.slice da nd dc) dn

theorem RowAt.keep {α : Type} {size : Nat} {enc : α → List Value} {w w' : World} {a : Option Addr} {xs : List α} (h : RowAt size enc w a xs) {R : Nat → Prop} (hk : Keep R w w') (hR : ∀ ad, a = some ad → ¬ R ad.block) : RowAt size enc w' a xs := by
  rcases h with rfl | ⟨b, o, rfl, hlt, hc⟩
  · exact Or.inl rfl
  · exact Or.inr ⟨b, o, rfl, Nat.lt_of_lt_of_le hlt hk.size, fun i hi j u hu => (hk.cell hlt (hR _ rfl)).trans (hc i hi j u hu)⟩

theorem Blk.drew {w : World} {b : Nat} {cs : Array Value} {t : TypeId} (h : Blk w b cs t) : Blk w.drew b cs t := h
theorem fillS {w : World} {N : Nat} {T : TypeId} {c0 c1 c2 c3 c4 c5 c6 : Value} (hb : Blk w N #[c0, c1, c2, c3, c4, c5, c6] T) (v1 v2 v3 v4 : Value) :
    Blk ((((w.setCell ⟨N, 1, none⟩ v1).setCell ⟨N, 2, none⟩ v2).setCell ⟨N, 3, none⟩ v3).setCell ⟨N, 4, none⟩ v4) N #[c0, v1, v2, v3, v4, c5, c6] T ∧
    Only T w ((((w.setCell ⟨N, 1, none⟩ v1).setCell ⟨N, 2, none⟩ v2).setCell ⟨N, 3, none⟩ v3).setCell ⟨N, 4, none⟩ v4) := by
  have b1 : Blk (w.setCell ⟨N, 1, none⟩ v1) N #[c0, v1, c2, c3, c4, c5, c6] T := hb.set 1 v1
  have b2 : Blk ((w.setCell ⟨N, 1, none⟩ v1).setCell ⟨N, 2, none⟩ v2) N #[c0, v1, v2, c3, c4, c5, c6] T := b1.set 2 v2
  have b3 : Blk (((w.setCell ⟨N, 1, none⟩ v1).setCell ⟨N, 2, none⟩ v2).setCell ⟨N, 3, none⟩ v3) N #[c0, v1, v2, v3, c4, c5, c6] T := b2.set 3 v3
  have b4 : Blk ((((w.setCell ⟨N, 1, none⟩ v1).setCell ⟨N, 2, none⟩ v2).setCell ⟨N, 3, none⟩ v3).setCell ⟨N, 4, none⟩ v4) N #[c0, v1, v2, v3, v4, c5, c6] T := b3.set 4 v4
  exact ⟨b4, (((Only.setCell (a := ⟨N, 1, none⟩) hb v1).trans (Only.setCell (a := ⟨N, 2, none⟩) b1 v2)).trans (Only.setCell (a := ⟨N, 3, none⟩) b2 v3)).trans (Only.setCell (a := ⟨N, 4, none⟩) b3 v4)⟩

/-- What a round of the inner loop leaves. W: the world ahead of the loop; B: the house's block. -/
structure Inner (PP : Option Addr → List P3 → Prop) (W w' : World) (B : Nat) (lv rv : Value) (rest : List XD) (wv : Value) (base : Nat) (rs : Value) (I : I4) : Prop where
  keep : Keep (fun k => k = B ∨ W.heap.size ≤ k) W w'
  own : OwnL 69 2 encD w' W.heap.size rv rest
  parts : ∀ x ∈ rest, PP x.2.1.1 x.2.2
  says : rest.map stripD = I.1
  was : wv = .bool I.2.1
  house : QAt B base lv rs w' I.2.2.1 I.2.2.2

/-- A house as the document makes it: its log is the slice lv; what it is ready for, and has done, lies in blocks of its own from base on; of its parts PP holds. -/
def HouseK (PP : Option Addr → List P3 → Prop) (base : Nat) (w : World) (v lv : Value) (h : H3) : Prop :=
  ∃ (ra : Option Addr) (nr rc : Nat) (XR : List XD) (da : Option Addr) (nd dc : Nat),
    v = .agg #[lv, .int .i64 h.1.1, .int .i64 h.1.2.1, .int .i64 h.1.2.2.1, .int .i64 h.1.2.2.2, .slice ra nr rc, .slice da nd dc] ∧
    OwnL 69 2 encD w base (.slice ra nr rc) XR ∧ (∀ x ∈ XR, PP x.2.1.1 x.2.2) ∧ XR.map stripD = h.2.1 ∧ OwnL 3 1 encI w base (.slice da nd dc) h.2.2

set_option maxRecDepth 20000 in
set_option maxHeartbeats 4000000 in
theorem refHouse_own (PP : Option Addr → List P3 → Prop) (a : Option Addr) (X : List XL) (cap n : Nat) (w : World) (hn : n = X.length) (hc : CalcL (X.map stripL)) (hp : RecsAt w a X) (hw0 : ∀ a l, PP a l → PartsAt w a l) (hp0 : ∀ x ∈ X, PP x.2.2.1.1 x.2.2.2) :
    Calls Try.prog 8 #[.slice a n cap] w fun e w' => ∃ v, e = .returned v ∧ HouseK PP w.heap.size w' v (.slice a n cap) (houseB (X.map stripL)) ∧ Below w.heap.size w w' := by
  have HW0 : Hid ((∀ a l, PP a l → PartsAt w a l) ∧ ∀ x ∈ X, PP x.2.2.1.1 x.2.2.2) := ⟨hw0, hp0⟩
  have HN : Hid (n = X.length ∧ CalcL (X.map stripL) ∧ RecsAt w a X) := ⟨hn, hc, hp⟩
  have hnl : n * 40 ≤ 140737488355328 := by have := hc.size; simp at this; omega
  clear hn hc hp hw0 hp0
  have hN2 : Blk ((w.alloc (.cells #[.slice none 0 0, .int .i64 0, .int .i64 0, .int .i64 0, .int .i64 0, .slice none 0 0, .slice none 0 0] 31)).alloc (.cells #[.slice a n cap, .int .i64 0, .int .i64 0, .int .i64 0, .int .i64 0, .slice none 0 0, .slice none 0 0] 31)) w.heap.size #[.slice none 0 0, .int .i64 0, .int .i64 0, .int .i64 0, .int .i64 0, .slice none 0 0, .slice none 0 0] 31 := (Blk.new _ _ _).alloc _
  have hN3 : Blk ((w.alloc (.cells #[.slice none 0 0, .int .i64 0, .int .i64 0, .int .i64 0, .int .i64 0, .slice none 0 0, .slice none 0 0] 31)).alloc (.cells #[.slice a n cap, .int .i64 0, .int .i64 0, .int .i64 0, .int .i64 0, .slice none 0 0, .slice none 0 0] 31)) (w.heap.size + 1) #[.slice a n cap, .int .i64 0, .int .i64 0, .int .i64 0, .int .i64 0, .slice none 0 0, .slice none 0 0] 31 := heap2 _ _ _
  have hBV := below2 w (.cells #[.slice none 0 0, .int .i64 0, .int .i64 0, .int .i64 0, .int .i64 0, .slice none 0 0, .slice none 0 0] 31) (.cells #[.slice a n cap, .int .i64 0, .int .i64 0, .int .i64 0, .int .i64 0, .slice none 0 0, .slice none 0 0] 31)
  have hsV : ((w.alloc (.cells #[.slice none 0 0, .int .i64 0, .int .i64 0, .int .i64 0, .int .i64 0, .slice none 0 0, .slice none 0 0] 31)).alloc (.cells #[.slice a n cap, .int .i64 0, .int .i64 0, .int .i64 0, .int .i64 0, .slice none 0 0, .slice none 0 0] 31)).heap.size = w.heap.size + 2 := by simp
  go_enter Try.func8, Try.ntmps8
  go_wp2
  generalize (w.alloc (.cells #[.slice none 0 0, .int .i64 0, .int .i64 0, .int .i64 0, .int .i64 0, .slice none 0 0, .slice none 0 0] 31)).alloc (.cells #[.slice a n cap, .int .i64 0, .int .i64 0, .int .i64 0, .int .i64 0, .slice none 0 0, .slice none 0 0] 31) = V at *
  have HV : Hid (Blk V w.heap.size #[.slice none 0 0, .int .i64 0, .int .i64 0, .int .i64 0, .int .i64 0, .slice none 0 0, .slice none 0 0] 31 ∧ Below w.heap.size w V) := ⟨hN2, hBV⟩
  go_loopw [14] (fun i w' => ∃ k : Nat, k ≤ n ∧ i = .int .i64 k ∧ Hid (RAt PP (w.heap.size + 1) (w.heap.size + 2) (.slice a n cap) w' (houseB ((X.take k).map stripL)) ∧ Below (w.heap.size + 1) V w' ∧ w.heap.size + 2 ≤ w'.heap.size)) (fun i _ => n - (intOf i).toNat)
  case atStart => exact ⟨0, Nat.zero_le _, rfl, ⟨none, 0, 0, [], none, 0, 0, hN3, OwnL.nil _ _, (fun x hx => by cases hx), rfl, OwnL.nil _ _⟩, Below.refl _ _, by omega⟩
  case round =>
    clear hN2 hN3
    obtain ⟨k, hk, rfl, hH⟩ := hrel
    by_cases hlt : k < n
    · have hkX : k < X.length := by have := HN.out.1; omega
      have hbw : Below w.heap.size w wr := HV.out.2.trans (hH.out.2.1.mono (by omega))
      obtain ⟨b, o, rfl, hb, c0, c1, c2, -⟩ := (HN.out.2.2.below hbw).get hkX
      have hq := HW0.out.2 _ (List.getElem_mem hkX)
      have hokk := okL_get HN.out.2.1.ok hkX
      have htk : (X.map stripL).take k = (X.take k).map stripL := by rw [List.map_take]
      have hinv : HInv k (houseB ((X.take k).map stripL)) := by
        have := houseB_inv_take HN.out.2.1.ok (k := k) (by simp; omega)
        rwa [htk] at this
      have HS : Hid (houseB ((X.take (k + 1)).map stripL) = rstep (houseB ((X.take k).map stripL)) (stripL X[k])) := by
        show _ = _
        rw [rstep_hstep _ hinv.nd, map_take_succ hkX, houseB_snoc]
      have hwi := HN.out.2.1.within k (by simp; omega)
      rw [htk] at hwi
      obtain ⟨hRA, hBR, hsR⟩ := hH.out
      clear hH htk
      generalize houseB ((X.take k).map stripL) = h at *
      obtain ⟨⟨s0, s1, s2, s3⟩, DD, dn⟩ := h
      obtain ⟨ra, nr, rc, XR, da, nd, dc, hB, hR, hT, hD, hI⟩ := hRA
      simp only at hB hD hI hwi
      generalize X[k] = x at *
      obtain ⟨kd, dd, ⟨ax, cx⟩, l⟩ := x
      simp only [stripL] at c0 c1 c2 hq hokk HS
      generalize hll : l.length = nl at *
      have HLL : Hid (l.length = nl) := hll
      clear hll
      have hnr := (hR.at lenD).2.1
      have hnrk : nr ≤ k := by
        have h1 := hinv.few
        have h2 := congrArg List.length hD
        simp at h1 h2
        omega
      have hW2 : Below wr.heap.size wr (wr.alloc (.cells #[.int .i64 kd, .int .i64 dd, .slice ax nl cx] 67)) := below1 _ _
      have hr2 : Blk (wr.alloc (.cells #[.int .i64 kd, .int .i64 dd, .slice ax nl cx] 67)) wr.heap.size #[.int .i64 kd, .int .i64 dd, .slice ax nl cx] 67 := Blk.new _ _ _
      have hs2 : (wr.alloc (.cells #[.int .i64 kd, .int .i64 dd, .slice ax nl cx] 67)).heap.size = wr.heap.size + 1 := by simp
      have hB2 := hB.below hW2 hB.lt
      have HA : Hid (Blk (wr.alloc (.cells #[.int .i64 kd, .int .i64 dd, .slice ax nl cx] 67)) (w.heap.size + 1) #[.slice (some ⟨b, o, none⟩) n cap, .int .i64 s0, .int .i64 s1, .int .i64 s2, .int .i64 s3, .slice ra nr rc, .slice da nd dc] 31 ∧ Blk (wr.alloc (.cells #[.int .i64 kd, .int .i64 dd, .slice ax nl cx] 67)) wr.heap.size #[.int .i64 kd, .int .i64 dd, .slice ax nl cx] 67 ∧ OwnL 69 2 encD (wr.alloc (.cells #[.int .i64 kd, .int .i64 dd, .slice ax nl cx] 67)) (w.heap.size + 2) (.slice ra nr rc) XR ∧ OwnL 3 1 encI (wr.alloc (.cells #[.int .i64 kd, .int .i64 dd, .slice ax nl cx] 67)) (w.heap.size + 2) (.slice da nd dc) dn ∧ Below (w.heap.size + 1) V (wr.alloc (.cells #[.int .i64 kd, .int .i64 dd, .slice ax nl cx] 67))) := ⟨hB2, hr2, hR.below hW2 (Nat.le_refl _), hI.below hW2 (Nat.le_refl _), hBR.trans (hW2.mono (by omega))⟩
      have HP : Hid ((∀ x ∈ XR, PP x.2.1.1 x.2.2) ∧ XR.map stripD = DD ∧ nr = XR.length ∧ PP ax l ∧ OkP l ∧ HInv k ((s0, s1, s2, s3), DD, dn) ∧ Within 2199023255552 (s0, s1, s2, s3)) := ⟨hT, hD, hnr, hq, hokk, hinv, hwi⟩
      have z5 := hB2.cell 5
      simp at z5
      have hzl := hB2.lt
      clear hB hR hT hD hI hB2 hr2 hq hokk hinv hwi hnr hBR hW2
      go_wp2
      generalize wr.alloc (.cells #[.int .i64 kd, .int .i64 dd, .slice ax nl cx] 67) = W at *
      have HQ : Hid (∀ ad : Addr, ra = some ad → ¬ (ad.block = w.heap.size + 1 ∨ W.heap.size ≤ ad.block)) := fun ad had => by
        obtain ⟨ab, ao, asp⟩ := ad
        intro hor
        rcases HA.out.2.2.1.2 with ⟨hv, _⟩ | ⟨g, cp, cur, hv, hg, hh, _⟩
        · cases hv; cases had
        · cases hv
          cases had
          rcases hor with h1 | h1
          · exact HA.out.2.2.1.neT HA.out.1 (by decide) (by rw [← h1]; rfl)
          · have hlt' := (World.ownsRow.lt HA.out.2.2.1 ab rfl).2
            have h2 : W.heap.size ≤ ab := h1
            omega
      have HRow : Hid (RowAt 2 encD W ra XR) := (HA.out.2.2.1.at lenD).1
      generalize hwo : wr = wo at *
      clear hwo
      go_loopw [6, 7, 21] (fun rv wv i w' => ∃ (j : Nat) (rest : List XD), j ≤ nr ∧ i = .int .i64 j ∧ Hid (Inner PP W w' (w.heap.size + 1) (.slice (some ⟨b, o, none⟩) n cap) rv rest wv (w.heap.size + 2) (.slice ra nr rc) (iall kd dd (s0, s1, s2, s3) dn (DD.take j)))) (fun _ _ i _ => nr - (intOf i).toNat)
      case atStart => exact ⟨0, [], Nat.zero_le _, rfl, Keep.refl _ _, OwnL.nil _ _, (fun x hx => by cases hx), rfl, rfl, da, nd, dc, HA.out.1, HA.out.2.2.2.1⟩
      case round =>
        obtain ⟨j, rest, hj, rfl, hIn⟩ := hrel
        have hWs : W.heap.size = wo.heap.size + 1 := hs2
        by_cases hjl : j < nr
        · have hjX : j < XR.length := by have := HP.out.2.2.1; omega
          have hjD : j < DD.length := by rw [← HP.out.2.1, List.length_map]; exact hjX
          have hDj : DD[j] = (XR[j].1, XR[j].2.2) := by
            have : DD = XR.map stripD := HP.out.2.1.symm
            subst this
            rw [List.getElem_map]
            rfl
          have HSJ : Hid (iall kd dd (s0, s1, s2, s3) dn (DD.take (j + 1)) = istep kd dd (iall kd dd (s0, s1, s2, s3) dn (DD.take j)) (XR[j].1, XR[j].2.2)) := by
            show _ = _
            rw [iall_take hjD, hDj]
          have HFA : Hid ((iall kd dd (s0, s1, s2, s3) dn (DD.take j)).2.1 = false → (iall kd dd (s0, s1, s2, s3) dn (DD.take j)).2.2 = ((s0, s1, s2, s3), dn)) := iall_false
          have hlen := ifold_sub kd dd (DD.take j) ([], false, (s0, s1, s2, s3), dn)
          change (iall kd dd (s0, s1, s2, s3) dn (DD.take j)).1.length ≤ _ ∧ (iall kd dd (s0, s1, s2, s3) dn (DD.take j)).2.2.2.length ≤ _ at hlen
          simp only [List.length_nil, Nat.zero_add, List.length_take] at hlen
          have hoky : OkP XR[j].2.2 := by
            have := HP.out.2.2.2.2.2.1.ok DD[j] (List.getElem_mem hjD)
            rw [hDj] at this
            exact this
          have hdnk : dn.length ≤ k := HP.out.2.2.2.2.2.1.done
          obtain ⟨hK, hO, hPt, hSay, rfl, da2, nd2, dc2, hBq, hIq⟩ := hIn.out
          have hyq := HP.out.1 _ (List.getElem_mem hjX)
          generalize iall kd dd (s0, s1, s2, s3) dn (DD.take j) = I at *
          obtain ⟨rD, wb, ⟨t0, t1, t2, t3⟩, dn2⟩ := I
          simp only at hSay hBq hIq HFA hlen
          rcases HRow.out.keep hK HQ.out with hnil | ⟨g, og, rfl, hgl, hgc⟩
          · exfalso; rw [hnil] at hjX; simp at hjX
          have d0 := hgc j hjX 0 _ rfl
          have d1 := hgc j hjX 1 _ rfl
          have hrr := HA.out.2.1.keep hK (by omega)
          have r0 := hrr.cell 0
          have r1 := hrr.cell 1
          simp at r0 r1
          have hrl := hrr.lt
          obtain ⟨av, nv, cv, rfl⟩ : ∃ a n c, u6 = .slice a n c := by
            obtain ⟨a, c, hv, _⟩ := hO.row lenD
            exact ⟨a, _, c, hv⟩
          have hrlen : rest.length = rD.length := by rw [← hSay, List.length_map]
          clear hIn hgc hgl hDj hjD
          generalize XR[j] = y at *
          obtain ⟨yd, ⟨ya, yc⟩, yl⟩ := y
          simp only [Nat.add_zero] at d0 d1 hyq hoky HSJ
          generalize hyl : yl.length = ny at *
          have HYL : Hid (yl.length = ny) := hyl
          have HO : Hid (OwnL 69 2 encD wr W.heap.size (.slice av nv cv) rest ∧ rest.length + 1 ≤ n ∧ Keep (fun k => k = w.heap.size + 1 ∨ W.heap.size ≤ k) W wr) := ⟨hO, by omega, hK⟩
          have HZ : Hid ((∀ x ∈ rest, PP x.2.1.1 x.2.2) ∧ PP ya yl ∧ rest.map stripD = rD) := ⟨hPt, hyq, hSay⟩
          have HQB : Hid (Blk wr (w.heap.size + 1) #[.slice (some ⟨b, o, none⟩) n cap, .int .i64 t0, .int .i64 t1, .int .i64 t2, .int .i64 t3, .slice (some ⟨g, og, none⟩) nr rc, .slice da2 nd2 dc2] 31 ∧ OwnL 3 1 encI wr (w.heap.size + 2) (.slice da2 nd2 dc2) dn2) := ⟨hBq, hIq⟩
          have hdn2 : dn2.length ≤ 2 * k := by omega
          have hsw := hK.size
          clear hO hK hPt hyq hSay hBq hIq hyl hrr hrlen hlen hdnk
          by_cases hyd : yd = dd
          · subst hyd
            cases wb with
            | true =>
              have HST : istep kd yd (rD, true, (t0, t1, t2, t3), dn2) (yd, yl) = (rD ++ [(yd, yl)], true, (t0, t1, t2, t3), dn2) := by simp [istep]
              go_wp2_with (at_builtin; refine wpList_append_listB lenD oneD Try.underlying28 infoReady rfl (by decide) _ rfl _ _ rfl W.heap.size _ rest rfl (HO.out.1.below (below2 wr _ _) (Nat.le_refl _)) (some ⟨wr.heap.size + 1, 0, none⟩) 1 1 [(yd, (ya, yc), yl)] rfl rfl (RowAt.one (heap2 wr _ _) (by simp [encD, HYL.out])) (by have := HO.out.2.1; unfold maxLen; simp; omega) (by have := HO.out.2.1; simp; omega) (by have := HO.out.2.2.size; simp; omega) ?_; intro a4 n4 c4 w4 hown4 hn4 hgrow4 hat4; clear hn4 hat4)
              have hgT := HO.out.1.below (below2 wr (.cells #[.int .i64 yd, .slice ya ny yc] 69) (.cells #[.int .i64 yd, .slice ya ny yc] 69)) (Nat.le_refl _)
              have HF : Hid (Inner PP W w4 (w.heap.size + 1) (.slice (some ⟨b, o, none⟩) n cap) (.slice a4 n4 c4) (rest ++ [(yd, (ya, yc), yl)]) (.bool true) (w.heap.size + 2) (.slice (some ⟨g, og, none⟩) nr rc) (iall kd yd (s0, s1, s2, s3) dn (DD.take (j + 1)))) := by
                rw [HSJ.out, HST]
                exact ⟨((HO.out.2.2.alloc _).alloc _).trans (Keep.ofGrown hgrow4 (fun k hk => Or.inr (hgT.base k hk))), hown4, (fun x hx => by rcases List.mem_append.1 hx with hx | hx; exact HZ.out.1 x hx; rw [List.mem_singleton.1 hx]; exact HZ.out.2.1), (by rw [List.map_append, HZ.out.2.2]; rfl), rfl, da2, nd2, dc2, ((HQB.out.1.alloc _).alloc _).keptT hgrow4 (hgT.grownT (by decide)), (HQB.out.2.below (below2 wr _ _) (Nat.le_refl _)).keptT hgrow4 (hgT.grownT (by decide))⟩
              clear hgT hgrow4 hown4
              go_wp2
              go_roundw
              case rel => exact ⟨j + 1, _, by omega, by go_num, HF⟩
              case measure => simp [intOf]; omega
            | false =>
              have hfa := HFA.out rfl
              simp only [Prod.mk.injEq] at hfa
              obtain ⟨⟨rfl, rfl, rfl, rfl⟩, rfl⟩ := hfa
              by_cases k2 : kd = 2
              · subst k2
                have HST : Hid (istep 2 yd (rD, false, (t0, t1, t2, t3), dn2) (yd, yl) = (rD, true, doB (t0, t1, t2, t3) yl, dn2 ++ [yd])) := by show _ = _; simp [istep]
                generalize hdo : doB (t0, t1, t2, t3) yl = q at *
                obtain ⟨q0, q1, q2, q3⟩ := q
                have HDO : Hid (doB (t0, t1, t2, t3) yl = (q0, q1, q2, q3)) := hdo
                clear hdo
                have hBT := HQB.out.1.alloc (.cells #[.int .i64 yd, .slice ya ny yc] 69)
                have z1 := hBT.cell 1
                have z2 := hBT.cell 2
                have z3 := hBT.cell 3
                have z4 := hBT.cell 4
                simp at z1 z2 z3 z4
                have HT : Hid (Below wr.heap.size wr (wr.alloc (.cells #[.int .i64 yd, .slice ya ny yc] 69))) := below1 _ _
                have HBw : Hid (Below w.heap.size w wr) := HV.out.2.trans ((HA.out.2.2.2.2.trans (HO.out.2.2.below (by omega) (fun k hk => by omega))).mono (by omega))
                have hbl := HQB.out.1.lt
                clear hBT
                go_wp2_with fail
                refine (rdoV HDO.out (refDo_any t0 t1 t2 t3 ya yl yc ny _ HYL.out.symm hoky.1 (((HW0.out.1 _ _ HZ.out.2.1).below HBw.out).below HT.out) hoky.2.1 hoky.2.2 HP.out.2.2.2.2.2.2)).mono ?_
                rintro e w3 ⟨rfl, hb3⟩
                have hB3 : Below wr.heap.size wr w3 := HT.out.trans (hb3.mono HT.out.size)
                have hq3 := HQB.out.1.below hB3 hbl
                obtain ⟨hY, hOnly⟩ := fillS hq3 (.int .i64 q0) (.int .i64 q1) (.int .i64 q2) (.int .i64 q3)
                have hr3 : Blk w3 wo.heap.size #[.int .i64 2, .int .i64 yd, .slice ax nl cx] 67 := (HA.out.2.1.keep HO.out.2.2 (by omega)).below hB3 hrl
                have HY : Hid (Blk ((((w3.setCell ⟨w.heap.size + 1, 1, none⟩ (.int .i64 q0)).setCell ⟨w.heap.size + 1, 2, none⟩ (.int .i64 q1)).setCell ⟨w.heap.size + 1, 3, none⟩ (.int .i64 q2)).setCell ⟨w.heap.size + 1, 4, none⟩ (.int .i64 q3)) (w.heap.size + 1) #[.slice (some ⟨b, o, none⟩) n cap, .int .i64 q0, .int .i64 q1, .int .i64 q2, .int .i64 q3, .slice (some ⟨g, og, none⟩) nr rc, .slice da2 nd2 dc2] 31 ∧ Blk ((((w3.setCell ⟨w.heap.size + 1, 1, none⟩ (.int .i64 q0)).setCell ⟨w.heap.size + 1, 2, none⟩ (.int .i64 q1)).setCell ⟨w.heap.size + 1, 3, none⟩ (.int .i64 q2)).setCell ⟨w.heap.size + 1, 4, none⟩ (.int .i64 q3)) wo.heap.size #[.int .i64 2, .int .i64 yd, .slice ax nl cx] 67 ∧ OwnL 69 2 encD ((((w3.setCell ⟨w.heap.size + 1, 1, none⟩ (.int .i64 q0)).setCell ⟨w.heap.size + 1, 2, none⟩ (.int .i64 q1)).setCell ⟨w.heap.size + 1, 3, none⟩ (.int .i64 q2)).setCell ⟨w.heap.size + 1, 4, none⟩ (.int .i64 q3)) W.heap.size (.slice av nv cv) rest ∧ OwnL 3 1 encI ((((w3.setCell ⟨w.heap.size + 1, 1, none⟩ (.int .i64 q0)).setCell ⟨w.heap.size + 1, 2, none⟩ (.int .i64 q1)).setCell ⟨w.heap.size + 1, 3, none⟩ (.int .i64 q2)).setCell ⟨w.heap.size + 1, 4, none⟩ (.int .i64 q3)) (w.heap.size + 2) (.slice da2 nd2 dc2) dn2 ∧ Keep (fun k => k = w.heap.size + 1 ∨ W.heap.size ≤ k) W ((((w3.setCell ⟨w.heap.size + 1, 1, none⟩ (.int .i64 q0)).setCell ⟨w.heap.size + 1, 2, none⟩ (.int .i64 q1)).setCell ⟨w.heap.size + 1, 3, none⟩ (.int .i64 q2)).setCell ⟨w.heap.size + 1, 4, none⟩ (.int .i64 q3))) :=
                  ⟨hY, hOnly _ _ _ (by decide) hr3, (HO.out.1.below hB3 (Nat.le_refl _)).only hOnly (by decide), (HQB.out.2.below hB3 (Nat.le_refl _)).only hOnly (by decide), ((((HO.out.2.2.trans (Keep.ofBelow hB3 (fun k h1 h2 => absurd h1 (by omega)))).setCell (Or.inl rfl) _).setCell (Or.inl rfl) _).setCell (Or.inl rfl) _).setCell (Or.inl rfl) _⟩
                have u1 := hq3.cell 1
                have u2 := hq3.cell 2
                have u3 := hq3.cell 3
                have u4 := hq3.cell 4
                have f1 := hq3.free 1
                have f2 := hq3.free 2
                have f3 := hq3.free 3
                have f4 := hq3.free 4
                simp at u1 u2 u3 u4
                clear z1 z2 z3 z4 d0 d1 r0 r1 hb3 hB3 hq3 hY hOnly hr3 HT
                go_upto_region 17 with fail
                clear u1 u2 u3 u4 f1 f2 f3 f4
                generalize ((((w3.setCell ⟨w.heap.size + 1, 1, none⟩ (.int .i64 q0)).setCell ⟨w.heap.size + 1, 2, none⟩ (.int .i64 q1)).setCell ⟨w.heap.size + 1, 3, none⟩ (.int .i64 q2)).setCell ⟨w.heap.size + 1, 4, none⟩ (.int .i64 q3)) = Y at *
                have hYl := HY.out.1.lt
                have hYr := HY.out.2.1.lt
                have HK : Hid (∀ w', Below Y.heap.size Y w' → ((w'.cell? ⟨wo.heap.size, 1, none⟩ = some (.int .i64 yd) ∧ w'.cell? ⟨w.heap.size + 1, 6, none⟩ = some (.slice da2 nd2 dc2) ∧ w'.frozen? ⟨w.heap.size + 1, 6, none⟩ = false) ∧ RowAt 1 encI w' da2 dn2 ∧ nd2 = dn2.length)) := fun w' hb =>
                  ⟨⟨(HY.out.2.1.below hb hYr).cell 1, (HY.out.1.below hb hYl).cell 6, (HY.out.1.below hb hYl).free 6⟩, ((HY.out.2.2.2.1.below hb (Nat.le_refl _)).at lenI).1, (HY.out.2.2.2.1.at lenI).2.1⟩
                obtain ⟨⟨i1, i6, i7⟩, -⟩ := HK.out _ (Below.refl _ _)
                have hYl1 : w.heap.size + 1 < Y.heap.size + 1 := by omega
                have hYr1 : wo.heap.size < Y.heap.size + 1 := by omega
                go_region_law (
                  first
                  | (refine step_append_listB lenI oneI Try.underlying29 infoInt rfl (by decide) _ rfl (.tmp 51) (.tmp 53) rfl Y.heap.size (.slice (some ⟨Y.heap.size, 0, none⟩) 0 0) [] rfl (by first | exact OwnL.made0 (Blk.drew (Blk.new _ _ _)) (by simp <;> omega) | exact OwnL.made0 (Blk.drew ((Blk.new _ _ _).alloc _)) (by simp <;> omega) | exact OwnL.made0 (Blk.drew (heap2 _ _ _)) (by simp <;> omega)) da2 nd2 dc2 dn2 rfl (HK.out _ (Below.refl _ _)).2.2 (HK.out _ (by first | exact ((Below.refl _ _).alloc (by simp <;> omega) _).drew | exact (((Below.refl _ _).alloc (by simp <;> omega) _).alloc (by simp <;> omega) _).drew)).2.1 (by unfold maxLen; simp; omega) (by simp; omega) (by simp <;> omega) ?_; intro a5 n5 c5 w5 hown5 hn5 hgrow5 hat5; have hB5 : Below Y.heap.size Y w5 := (by first | exact (((Below.refl _ _).alloc (by simp <;> omega) _).drew).grown hgrow5 (by simp <;> omega) (fun k hk => by cases hk; simp) | exact ((((Below.refl _ _).alloc (by simp <;> omega) _).alloc (by simp <;> omega) _).drew).grown hgrow5 (by simp <;> omega) (fun k hk => by cases hk; simp)); obtain ⟨⟨j1, j6, j7⟩, -⟩ := HK.out _ hB5; have HO5 : Hid (OwnL 3 1 encI w5 Y.heap.size (.slice a5 n5 c5) dn2) := hown5; have hs5 := hB5.size; clear hown5 hn5 hat5)
                  | (refine step_append_listB lenI oneI Try.underlying29 infoInt rfl (by decide) _ rfl (.tmp 51) (.tmp 53) rfl Y.heap.size (.slice (some ⟨Y.heap.size + 1, 0, none⟩) 0 0) [] rfl (by first | exact OwnL.made0 (Blk.drew (Blk.new _ _ _)) (by simp <;> omega) | exact OwnL.made0 (Blk.drew ((Blk.new _ _ _).alloc _)) (by simp <;> omega) | exact OwnL.made0 (Blk.drew (heap2 _ _ _)) (by simp <;> omega)) da2 nd2 dc2 dn2 rfl (HK.out _ (Below.refl _ _)).2.2 (HK.out _ (by first | exact ((Below.refl _ _).alloc (by simp <;> omega) _).drew | exact (((Below.refl _ _).alloc (by simp <;> omega) _).alloc (by simp <;> omega) _).drew)).2.1 (by unfold maxLen; simp; omega) (by simp; omega) (by simp <;> omega) ?_; intro a5 n5 c5 w5 hown5 hn5 hgrow5 hat5; have hB5 : Below Y.heap.size Y w5 := (by first | exact (((Below.refl _ _).alloc (by simp <;> omega) _).drew).grown hgrow5 (by simp <;> omega) (fun k hk => by cases hk; simp) | exact ((((Below.refl _ _).alloc (by simp <;> omega) _).alloc (by simp <;> omega) _).drew).grown hgrow5 (by simp <;> omega) (fun k hk => by cases hk; simp)); obtain ⟨⟨j1, j6, j7⟩, -⟩ := HK.out _ hB5; have HO5 : Hid (OwnL 3 1 encI w5 Y.heap.size (.slice a5 n5 c5) dn2) := hown5; have hs5 := hB5.size; clear hown5 hn5 hat5)
                  | (refine step_append_listB lenI oneI Try.underlying29 infoInt rfl (by decide) _ rfl (.tmp 54) (.tmp 57) rfl Y.heap.size (.slice a5 n5 c5) dn2 rfl (by first | exact HO5.out | exact HO5.out.below (below1 w5 _) (Nat.le_refl _)) _ 1 1 [yd] rfl rfl (by first | exact RowAt.one (Blk.new _ _ _) (by simp [encI]) | exact RowAt.one (Blk.keptNe hgrow5 (Blk.drew (heap2 _ _ _)) (by simp [Value.ownBlock])) (by simp [encI]) | exact RowAt.one (Blk.keptNe hgrow5 (Blk.drew ((Blk.new _ _ _).alloc _)) (by simp [Value.ownBlock])) (by simp [encI])) (by unfold maxLen; simp; omega) (by simp; omega) (by first | exact hs5 | (simp; omega)) ?_; intro a6 n6 c6 w6 hown6 hn6 hgrow6 hat6; have hB6 : Below Y.heap.size Y w6 := (by first | exact hB5.grown hgrow6 hs5 HO5.out.base | exact (hB5.alloc hs5 _).grown hgrow6 (by simp; omega) HO5.out.base); obtain ⟨⟨m1, m6, m7⟩, -⟩ := HK.out _ hB6; have HO6 : Hid (OwnL 3 1 encI w6 Y.heap.size (.slice a6 n6 c6) (dn2 ++ [yd])) := hown6; clear hown6 hn6 hat6))
                all_goals
                  have HF : Hid (Inner PP W (w6.setCell ⟨w.heap.size + 1, 6, none⟩ (.slice a6 n6 c6)) (w.heap.size + 1) (.slice (some ⟨b, o, none⟩) n cap) (.slice av nv cv) rest (.bool true) (w.heap.size + 2) (.slice (some ⟨g, og, none⟩) nr rc) (iall 2 yd (t0, t1, t2, t3) dn2 (DD.take (j + 1)))) := by
                    have hb6 := HY.out.1.below hB6 hYl
                    rw [HSJ.out, HST.out]
                    exact ⟨(HY.out.2.2.2.2.trans (Keep.ofBelow hB6 (fun k h1 h2 => absurd h1 (by omega)))).setCell (Or.inl rfl) _, (HY.out.2.2.1.below hB6 (Nat.le_refl _)).setOther (a := ⟨w.heap.size + 1, 6, none⟩) hb6 (by decide) _, HZ.out.1, HZ.out.2.2, rfl, a6, n6, c6, hb6.set 6 _, (HO6.out.mono (by omega)).setOther (a := ⟨w.heap.size + 1, 6, none⟩) hb6 (by decide) _⟩
                  clear i1 i6 i7 j1 j6 j7 m1 m6 m7 hgrow5 hgrow6
                  go_wp2
                  go_roundw
                  case rel => exact ⟨j + 1, _, by omega, by go_num, HF⟩
                  case measure => simp [intOf]; omega
              · have k2' : (kd == 2) = false := by simpa using k2
                by_cases k3 : kd = 3
                · subst k3
                  have HST : Hid (istep 3 yd (rD, false, (t0, t1, t2, t3), dn2) (yd, yl) = (rD, true, (t0, t1, t2, t3), dn2)) := by show _ = _; simp [istep]
                  have HF : Hid (Inner PP W (wr.alloc (.cells #[.int .i64 yd, .slice ya ny yc] 69)) (w.heap.size + 1) (.slice (some ⟨b, o, none⟩) n cap) (.slice av nv cv) rest (.bool true) (w.heap.size + 2) (.slice (some ⟨g, og, none⟩) nr rc) (iall 3 yd (t0, t1, t2, t3) dn2 (DD.take (j + 1)))) := by
                    rw [HSJ.out, HST.out]
                    exact ⟨HO.out.2.2.alloc _, HO.out.1.below (below1 _ _) (Nat.le_refl _), HZ.out.1, HZ.out.2.2, rfl, da2, nd2, dc2, HQB.out.1.alloc _, HQB.out.2.below (below1 _ _) (Nat.le_refl _)⟩
                  go_wp2
                  go_roundw
                  case rel => exact ⟨j + 1, _, by omega, by go_num, HF⟩
                  case measure => simp [intOf]; omega
                · have k3' : (kd == 3) = false := by simpa using k3
                  have HST : istep kd yd (rD, false, (t0, t1, t2, t3), dn2) (yd, yl) = (rD ++ [(yd, yl)], true, (t0, t1, t2, t3), dn2) := by simp [istep, k2, k3]
                  have HST' : Hid (istep kd yd (rD, false, (t0, t1, t2, t3), dn2) (yd, yl) = (rD ++ [(yd, yl)], true, (t0, t1, t2, t3), dn2)) := HST
                  clear k2 k3 HST
                  go_wp2_with (at_builtin; refine wpList_append_listB lenD oneD Try.underlying28 infoReady rfl (by decide) _ rfl _ _ rfl W.heap.size _ rest rfl (HO.out.1.below (below2 wr _ _) (Nat.le_refl _)) (some ⟨wr.heap.size + 1, 0, none⟩) 1 1 [(yd, (ya, yc), yl)] rfl rfl (RowAt.one (heap2 wr _ _) (by simp [encD, HYL.out])) (by have := HO.out.2.1; unfold maxLen; simp; omega) (by have := HO.out.2.1; simp; omega) (by have := HO.out.2.2.size; simp; omega) ?_; intro a4 n4 c4 w4 hown4 hn4 hgrow4 hat4; clear hn4 hat4)
                  have hgT := HO.out.1.below (below2 wr (.cells #[.int .i64 yd, .slice ya ny yc] 69) (.cells #[.int .i64 yd, .slice ya ny yc] 69)) (Nat.le_refl _)
                  have HF : Hid (Inner PP W w4 (w.heap.size + 1) (.slice (some ⟨b, o, none⟩) n cap) (.slice a4 n4 c4) (rest ++ [(yd, (ya, yc), yl)]) (.bool true) (w.heap.size + 2) (.slice (some ⟨g, og, none⟩) nr rc) (iall kd yd (t0, t1, t2, t3) dn2 (DD.take (j + 1)))) := by
                    rw [HSJ.out, HST'.out]
                    exact ⟨((HO.out.2.2.alloc _).alloc _).trans (Keep.ofGrown hgrow4 (fun k hk => Or.inr (hgT.base k hk))), hown4, (fun x hx => by rcases List.mem_append.1 hx with hx | hx; exact HZ.out.1 x hx; rw [List.mem_singleton.1 hx]; exact HZ.out.2.1), (by rw [List.map_append, HZ.out.2.2]; rfl), rfl, da2, nd2, dc2, ((HQB.out.1.alloc _).alloc _).keptT hgrow4 (hgT.grownT (by decide)), (HQB.out.2.below (below2 wr _ _) (Nat.le_refl _)).keptT hgrow4 (hgT.grownT (by decide))⟩
                  clear hgT hgrow4 hown4
                  go_wp2
                  go_roundw
                  case rel => exact ⟨j + 1, _, by omega, by go_num, HF⟩
                  case measure => simp [intOf]; omega
          · have hyd' : (yd == dd) = false := by simpa using hyd
            have HST : Hid (istep kd dd (rD, wb, (t0, t1, t2, t3), dn2) (yd, yl) = (rD ++ [(yd, yl)], wb, (t0, t1, t2, t3), dn2)) := by show _ = _; unfold istep; rw [if_pos (Or.inl hyd)]
            have hyd2 : (yd != dd) = true := by simpa using hyd
            clear hyd'
            go_wp2_with (at_builtin; refine wpList_append_listB lenD oneD Try.underlying28 infoReady rfl (by decide) _ rfl _ _ rfl W.heap.size _ rest rfl (HO.out.1.below (below2 wr _ _) (Nat.le_refl _)) (some ⟨wr.heap.size + 1, 0, none⟩) 1 1 [(yd, (ya, yc), yl)] rfl rfl (RowAt.one (heap2 wr _ _) (by simp [encD, HYL.out])) (by have := HO.out.2.1; unfold maxLen; simp; omega) (by have := HO.out.2.1; simp; omega) (by have := HO.out.2.2.size; simp; omega) ?_; intro a4 n4 c4 w4 hown4 hn4 hgrow4 hat4; clear hn4 hat4)
            have hgT := HO.out.1.below (below2 wr (.cells #[.int .i64 yd, .slice ya ny yc] 69) (.cells #[.int .i64 yd, .slice ya ny yc] 69)) (Nat.le_refl _)
            have HF : Hid (Inner PP W w4 (w.heap.size + 1) (.slice (some ⟨b, o, none⟩) n cap) (.slice a4 n4 c4) (rest ++ [(yd, (ya, yc), yl)]) (.bool wb) (w.heap.size + 2) (.slice (some ⟨g, og, none⟩) nr rc) (iall kd dd (s0, s1, s2, s3) dn (DD.take (j + 1)))) := by
              rw [HSJ.out, HST.out]
              exact ⟨((HO.out.2.2.alloc _).alloc _).trans (Keep.ofGrown hgrow4 (fun k hk => Or.inr (hgT.base k hk))), hown4, (fun x hx => by rcases List.mem_append.1 hx with hx | hx; exact HZ.out.1 x hx; rw [List.mem_singleton.1 hx]; exact HZ.out.2.1), (by rw [List.map_append, HZ.out.2.2]; rfl), rfl, da2, nd2, dc2, ((HQB.out.1.alloc _).alloc _).keptT hgrow4 (hgT.grownT (by decide)), (HQB.out.2.below (below2 wr _ _) (Nat.le_refl _)).keptT hgrow4 (hgT.grownT (by decide))⟩
            clear hgT hgrow4 hown4
            go_wp2
            go_roundw
            case rel => exact ⟨j + 1, _, by omega, by go_num, HF⟩
            case measure => simp [intOf]; omega
        · have hjn : j = nr := by omega
          have hfull : DD.take j = DD := List.take_of_length_le (by
            have h1 := HP.out.2.2.1
            have h2 := congrArg List.length HP.out.2.1
            simp at h2
            omega)
          obtain ⟨hK, hO, hPt, hSay, rfl, da2, nd2, dc2, hBq, hIq⟩ := hIn.out
          rw [hfull] at hSay hBq hIq ⊢
          have hlen := ifold_sub kd dd DD ([], false, (s0, s1, s2, s3), dn)
          change (iall kd dd (s0, s1, s2, s3) dn DD).1.length ≤ _ ∧ _ at hlen
          have HSK : Hid (houseB ((X.take (k + 1)).map stripL) = ((iall kd dd (s0, s1, s2, s3) dn DD).2.2.1, if kd = 1 ∧ (iall kd dd (s0, s1, s2, s3) dn DD).2.1 = false then (iall kd dd (s0, s1, s2, s3) dn DD).1 ++ [(dd, l)] else (iall kd dd (s0, s1, s2, s3) dn DD).1, (iall kd dd (s0, s1, s2, s3) dn DD).2.2.2)) := HS.out
          have hDl : DD.length ≤ k := HP.out.2.2.2.2.2.1.few
          generalize iall kd dd (s0, s1, s2, s3) dn DD = I at *
          obtain ⟨rD, wb, ⟨t0, t1, t2, t3⟩, dn2⟩ := I
          simp only [List.length_nil, Nat.zero_add] at hSay hBq hIq HSK hlen
          have hrlen : rest.length = rD.length := by rw [← hSay, List.length_map]
          have hrr := HA.out.2.1.keep hK (by omega)
          obtain ⟨av, nv, cv, rfl⟩ : ∃ a n c, u6 = .slice a n c := by
            obtain ⟨a, c, hv, _⟩ := hO.row lenD
            exact ⟨a, _, c, hv⟩
          have hBs : Blk (wr.setCell ⟨w.heap.size + 1, 5, none⟩ (.slice av nv cv)) (w.heap.size + 1) #[.slice (some ⟨b, o, none⟩) n cap, .int .i64 t0, .int .i64 t1, .int .i64 t2, .int .i64 t3, .slice av nv cv, .slice da2 nd2 dc2] 31 := hBq.set 5 _
          have hBel : Below (w.heap.size + 1) V wr := HA.out.2.2.2.2.trans (hK.below (by omega) (fun k hk => by omega))
          have HS5 : Hid (Blk (wr.setCell ⟨w.heap.size + 1, 5, none⟩ (.slice av nv cv)) (w.heap.size + 1) #[.slice (some ⟨b, o, none⟩) n cap, .int .i64 t0, .int .i64 t1, .int .i64 t2, .int .i64 t3, .slice av nv cv, .slice da2 nd2 dc2] 31 ∧ Blk (wr.setCell ⟨w.heap.size + 1, 5, none⟩ (.slice av nv cv)) wo.heap.size #[.int .i64 kd, .int .i64 dd, .slice ax nl cx] 67 ∧ OwnL 69 2 encD (wr.setCell ⟨w.heap.size + 1, 5, none⟩ (.slice av nv cv)) (w.heap.size + 2) (.slice av nv cv) rest ∧ (∀ x ∈ rest, PP x.2.1.1 x.2.2) ∧ rest.map stripD = rD ∧ OwnL 3 1 encI (wr.setCell ⟨w.heap.size + 1, 5, none⟩ (.slice av nv cv)) (w.heap.size + 2) (.slice da2 nd2 dc2) dn2 ∧ Below (w.heap.size + 1) V (wr.setCell ⟨w.heap.size + 1, 5, none⟩ (.slice av nv cv))) :=
            ⟨hBs, hrr.setOther (a := ⟨w.heap.size + 1, 5, none⟩) (by simp; omega) _, (hO.mono (by omega)).setOther (a := ⟨w.heap.size + 1, 5, none⟩) hBq (by decide) _, hPt, hSay, hIq.setOther (a := ⟨w.heap.size + 1, 5, none⟩) hBq (by decide) _, hBel.setCell (Nat.le_refl _) _⟩
          have y5 := hBq.cell 5
          have f5 := hBq.free 5
          simp at y5
          have hws : w.heap.size + 2 ≤ (wr.setCell ⟨w.heap.size + 1, 5, none⟩ (.slice av nv cv)).heap.size := by have := hK.size; simp; omega
          have hr1 : rest.length + 1 ≤ n := by omega
          clear hIn hK hO hPt hSay hBq hIq hrr hBs hBel hlen hrlen hDl hfull
          go_upto_region 21 with fail
          clear y5 f5
          generalize wr.setCell ⟨w.heap.size + 1, 5, none⟩ (.slice av nv cv) = S at *
          have hSl := HS5.out.1.lt
          have hSr := HS5.out.2.1.lt
          have r0 := HS5.out.2.1.cell 0
          simp at r0
          by_cases k1 : kd = 1 ∧ wb = false
          · obtain ⟨rfl, rfl⟩ := k1
            rw [if_pos ⟨rfl, rfl⟩] at HSK
            have r1 := HS5.out.2.1.cell 1
            have r2 := HS5.out.2.1.cell 2
            have g5 := HS5.out.1.cell 5
            simp at r1 r2 g5
            go_wp2_with (at_builtin; refine wpList_append_listB lenD oneD Try.underlying28 infoReady rfl (by decide) _ rfl _ _ rfl (w.heap.size + 2) _ rest rfl (HS5.out.2.2.1.below (below1 S _) (Nat.le_refl _)) (some ⟨S.heap.size, 0, none⟩) 1 1 [(dd, (ax, cx), l)] rfl rfl (RowAt.one (Blk.new S _ _) (by simp [encD, HLL.out])) (by unfold maxLen; simp; omega) (by simp; omega) (by simp; omega) ?_; intro a4 n4 c4 w4 hown4 hn4 hgrow4 hat4; have hK4 := (HS5.out.1.alloc _).keptT hgrow4 ((HS5.out.2.2.1.below (below1 S _) (Nat.le_refl _)).grownT (by decide)); have j5 := hK4.cell 5; have j5' := hK4.free 5; simp at j5; have HK4 : Hid (Blk w4 (w.heap.size + 1) #[.slice (some ⟨b, o, none⟩) n cap, .int .i64 t0, .int .i64 t1, .int .i64 t2, .int .i64 t3, .slice av nv cv, .slice da2 nd2 dc2] 31) := hK4; clear hK4 hn4 hat4)
            have hgT := HS5.out.2.2.1.below (below1 S (.cells #[.int .i64 dd, .slice ax nl cx] 69)) (Nat.le_refl _)
            have HF : Hid (RAt PP (w.heap.size + 1) (w.heap.size + 2) (.slice (some ⟨b, o, none⟩) n cap) (w4.setCell ⟨w.heap.size + 1, 5, none⟩ (.slice a4 n4 c4)) ((t0, t1, t2, t3), rD ++ [(dd, l)], dn2) ∧ Below (w.heap.size + 1) V (w4.setCell ⟨w.heap.size + 1, 5, none⟩ (.slice a4 n4 c4)) ∧ w.heap.size + 2 ≤ (w4.setCell ⟨w.heap.size + 1, 5, none⟩ (.slice a4 n4 c4)).heap.size) := by
              refine ⟨⟨a4, n4, c4, rest ++ [(dd, (ax, cx), l)], da2, nd2, dc2, HK4.out.set 5 _, hown4.setOther (a := ⟨w.heap.size + 1, 5, none⟩) HK4.out (by decide) _, ?_, ?_, ?_⟩, ?_, ?_⟩
              · intro x hx
                rcases List.mem_append.1 hx with hx | hx
                · exact HS5.out.2.2.2.1 x hx
                · rw [List.mem_singleton.1 hx]; exact HP.out.2.2.2.1
              · rw [List.map_append, HS5.out.2.2.2.2.1]; rfl
              · exact ((HS5.out.2.2.2.2.2.1.below (below1 S _) (Nat.le_refl _)).keptT hgrow4 (hgT.grownT (by decide))).setOther (a := ⟨w.heap.size + 1, 5, none⟩) HK4.out (by decide) _
              · exact ((HS5.out.2.2.2.2.2.2.alloc (by omega) _).grown hgrow4 (by simp; omega) (fun k hk => by have := hgT.base k hk; omega)).setCell (Nat.le_refl _) _
              · have := hgrow4.size
                simp at this ⊢
                omega
            clear hgT hgrow4 hown4 r0 r1 r2 g5 HK4
            go_wp2
            go_roundw
            case rel => exact ⟨k + 1, by omega, by go_num, by rw [HSK.out]; exact HF.out⟩
            case measure => simp [intOf]; omega
          · rw [if_neg k1] at HSK
            have HF : Hid (RAt PP (w.heap.size + 1) (w.heap.size + 2) (.slice (some ⟨b, o, none⟩) n cap) S ((t0, t1, t2, t3), rD, dn2) ∧ Below (w.heap.size + 1) V S ∧ w.heap.size + 2 ≤ S.heap.size) := ⟨⟨av, nv, cv, rest, da2, nd2, dc2, HS5.out.1, HS5.out.2.2.1, HS5.out.2.2.2.1, HS5.out.2.2.2.2.1, HS5.out.2.2.2.2.2.1⟩, HS5.out.2.2.2.2.2.2, hws⟩
            by_cases k2 : kd = 1
            · subst k2
              have hwb : wb = true := by cases wb; exact absurd ⟨rfl, rfl⟩ k1; rfl
              subst hwb
              clear k1
              go_wp2
              go_roundw
              case rel => exact ⟨k + 1, by omega, by go_num, by rw [HSK.out]; exact HF.out⟩
              case measure => simp [intOf]; omega
            · have k2' : (kd == 1) = false := by simpa using k2
              clear k1 k2
              go_wp2
              go_roundw
              case rel => exact ⟨k + 1, by omega, by go_num, by rw [HSK.out]; exact HF.out⟩
              case measure => simp [intOf]; omega
    · have hkn : k = n := by omega
      have hfull : (X.take k).map stripL = X.map stripL := by rw [List.take_of_length_le (by have := HN.out.1; omega)]
      obtain ⟨hRA, hB1, hsw⟩ := hH.out
      rw [hfull] at hRA
      obtain ⟨ra, nr, rc, XR, da, nd, dc, hB, hR, hT, hD, hI⟩ := hRA
      have hN := HV.out.1.below hB1 (by omega)
      generalize hhb : houseB (X.map stripL) = h at *
      have HHB : Hid (houseB (X.map stripL) = h) := hhb
      clear hhb hH hfull
      obtain ⟨⟨t0, t1, t2, t3⟩, DD, dn⟩ := h
      simp only at hB hD hI
      obtain ⟨hW, hOnly⟩ := fill7 hN (.slice a n cap) (.int .i64 t0) (.int .i64 t1) (.int .i64 t2) (.int .i64 t3) (.slice ra nr rc) (.slice da nd dc)
      have hBw0 : Below w.heap.size w wr := HV.out.2.trans (hB1.mono (by omega))
      have hBW : Below w.heap.size w (((((((wr.setCell ⟨w.heap.size, 0, none⟩ (.slice a n cap)).setCell ⟨w.heap.size, 1, none⟩ (.int .i64 t0)).setCell ⟨w.heap.size, 2, none⟩ (.int .i64 t1)).setCell ⟨w.heap.size, 3, none⟩ (.int .i64 t2)).setCell ⟨w.heap.size, 4, none⟩ (.int .i64 t3)).setCell ⟨w.heap.size, 5, none⟩ (.slice ra nr rc)).setCell ⟨w.heap.size, 6, none⟩ (.slice da nd dc)) :=
        (((((((hBw0).setCell (Nat.le_refl _) _).setCell (Nat.le_refl _) _).setCell (Nat.le_refl _) _).setCell (Nat.le_refl _) _).setCell (Nat.le_refl _) _).setCell (Nat.le_refl _) _).setCell (Nat.le_refl _) _
      have HF : Hid (HouseK PP w.heap.size (((((((wr.setCell ⟨w.heap.size, 0, none⟩ (.slice a n cap)).setCell ⟨w.heap.size, 1, none⟩ (.int .i64 t0)).setCell ⟨w.heap.size, 2, none⟩ (.int .i64 t1)).setCell ⟨w.heap.size, 3, none⟩ (.int .i64 t2)).setCell ⟨w.heap.size, 4, none⟩ (.int .i64 t3)).setCell ⟨w.heap.size, 5, none⟩ (.slice ra nr rc)).setCell ⟨w.heap.size, 6, none⟩ (.slice da nd dc)) (.agg #[.slice a n cap, .int .i64 t0, .int .i64 t1, .int .i64 t2, .int .i64 t3, .slice ra nr rc, .slice da nd dc]) (.slice a n cap) ((t0, t1, t2, t3), DD, dn)) :=
        ⟨ra, nr, rc, XR, da, nd, dc, rfl, (hR.only hOnly (by decide)).mono (by omega), hT, hD, (hI.only hOnly (by decide)).mono (by omega)⟩
      have HBlk : Hid _ := And.intro hW hBW
      have b0 := hB.cell 0
      have b1 := hB.cell 1
      have b2 := hB.cell 2
      have b3 := hB.cell 3
      have b4 := hB.cell 4
      have b5 := hB.cell 5
      have b6 := hB.cell 6
      have n0 := hN.cell 0
      have n1 := hN.cell 1
      have n2 := hN.cell 2
      have n3 := hN.cell 3
      have n4 := hN.cell 4
      have n5 := hN.cell 5
      have n6 := hN.cell 6
      have f0 := hN.free 0
      have f1 := hN.free 1
      have f2 := hN.free 2
      have f3 := hN.free 3
      have f4 := hN.free 4
      have f5 := hN.free 5
      have f6 := hN.free 6
      simp at b0 b1 b2 b3 b4 b5 b6 n0 n1 n2 n3 n4 n5 n6
      clear hW hBW hOnly hB hN hR hT hD hI hBw0
      go_wp2_with fail
      clear b0 b1 b2 b3 b4 b5 b6 n0 n1 n2 n3 n4 n5 n6 f0 f1 f2 f3 f4 f5 f6
      have e0 := Blk.cell HBlk.out.1 0
      have e1 := Blk.cell HBlk.out.1 1
      have e2 := Blk.cell HBlk.out.1 2
      have e3 := Blk.cell HBlk.out.1 3
      have e4 := Blk.cell HBlk.out.1 4
      have e5 := Blk.cell HBlk.out.1 5
      have e6 := Blk.cell HBlk.out.1 6
      simp only [List.getElem?_toArray, List.getElem?_cons_zero, List.getElem?_cons_succ] at e0 e1 e2 e3 e4 e5 e6
      refine bodyPost_ret (v := .agg #[.slice a n cap, .int .i64 t0, .int .i64 t1, .int .i64 t2, .int .i64 t3, .slice ra nr rc, .slice da nd dc]) ?_ rfl ⟨_, rfl, by rw [HHB.out]; exact HF.out, HBlk.out.2⟩
      simp [results, Try.results8, go_sem, e0, e1, e2, e3, e4, e5, e6]

theorem HouseK.at {PP : Option Addr → List P3 → Prop} {w : World} {base : Nat} {v : Value} {a : Option Addr} {X : List XL} {n cap : Nat} {h : H3} (hh : HouseK PP base w v (.slice a n cap) h) (hn : n = X.length) (hp : RecsAt w a X) (hb : ∀ a l, PP a l → PartsAt w a l) : HouseAt w v (X.map stripL) h := by
  obtain ⟨ra, nr, rc, XR, da, nd, dc, hv, hR, hT, hD, hI⟩ := hh
  have k2 := hR.at lenD
  have k3 := hI.at lenI
  exact ⟨a, n, cap, X, ra, nr, rc, XR, da, nd, dc, hv, ⟨by rw [List.length_map]; exact hn, rfl, hp⟩, ⟨k2.2.1, hD, k2.1, fun x hx => hb _ _ (hT x hx)⟩, k3.2.1, by rw [k3.2.1]; exact k3.2.2.1, k3.2.2.2, k3.1⟩
theorem refHouse_any (a : Option Addr) (X : List XL) (cap n : Nat) (w : World) (hn : n = X.length) (hc : CalcL (X.map stripL)) (hp : RecsAt w a X) :
    Calls Try.prog 8 #[.slice a n cap] w fun e w' => ∃ v, e = .returned v ∧ HouseAt w' v (X.map stripL) (houseB (X.map stripL)) ∧ Below w.heap.size w w' := by
  refine (refHouse_own (PartsAt w) a X cap n w hn hc hp (fun _ _ h => h) hp.2).mono ?_
  rintro e w' ⟨v, rfl, hh, hb⟩
  exact ⟨v, rfl, hh.at hn (hp.below hb) (fun _ _ h => h.below hb), hb⟩

end Go.Proofs.Ytikmnaegalmfeaa
