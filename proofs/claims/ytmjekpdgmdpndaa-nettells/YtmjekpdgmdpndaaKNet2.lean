/- What net.Take does. -/
import Derived.Test.YtmjekpdgmdpndaaKNet1
import Derived.Test.YtmjekpdgmdpndaaKJ29
import Derived.Deep.RegionWith
namespace Go.Proofs.Ytmjekpdgmdpndaa
open Go.RowKit
attribute [local go_sem ↓] Go.wp_at_zero Go.wp_at_succ

/-- A net without a message, and that message. -/
def takeN (bs : List (List Nat)) (i : Int) : List (List Nat) × M4 × Int :=
  if 0 ≤ i ∧ i < (bs.length : Nat) then (bs.eraseIdx i.toNat, (readB ((bs[i.toNat]?).getD [])).1, (readB ((bs[i.toNat]?).getD [])).2) else (bs, m0, 6)
theorem Calm.keep {t : TypeId} {R : Nat → Prop} {w w' : World} (hk : Keep R w w') (hR : ∀ b, R b → ∃ cs t', Blk w b cs t' ∧ t' ≠ t) : Calm t w w' := fun b cs x => x.keep hk (fun hb => by
  obtain ⟨cs', t', h1, h2⟩ := hR b hb
  unfold Blk at h1 x
  rw [x] at h1
  injection h1 with h1
  injection h1 with _ q _
  exact h2 q.symm)

theorem OwnL.set4 {α : Type} {e T : TypeId} {size : Nat} {enc : α → List Value} {w : World} {base N : Nat} {v : Value} {xs : List α} {c0 c1 c2 c3 : Value} (h : OwnL e size enc w base v xs) (hz : Blk w N #[c0, c1, c2, c3] T) (hT : T ≠ e) (v0 v1 v2 v3 : Value) : OwnL e size enc ((((w.setCell ⟨N, 0, none⟩ v0).setCell ⟨N, 1, none⟩ v1).setCell ⟨N, 2, none⟩ v2).setCell ⟨N, 3, none⟩ v3) base v xs :=
  (((h.setOther (a := ⟨N, 0, none⟩) hz hT _).setOther (a := ⟨N, 1, none⟩) (hz.set 0 _) hT _).setOther (a := ⟨N, 2, none⟩) ((hz.set 0 _).set 1 _) hT _).setOther (a := ⟨N, 3, none⟩) (((hz.set 0 _).set 1 _).set 2 _) hT _
theorem Calm.set4 {t T : TypeId} {w : World} {N : Nat} {c0 c1 c2 c3 : Value} (hz : Blk w N #[c0, c1, c2, c3] T) (hT : T ≠ t) (v0 v1 v2 v3 : Value) : Calm t w ((((w.setCell ⟨N, 0, none⟩ v0).setCell ⟨N, 1, none⟩ v1).setCell ⟨N, 2, none⟩ v2).setCell ⟨N, 3, none⟩ v3) :=
  (((Calm.setCell (a := ⟨N, 0, none⟩) hz hT _).trans (Calm.setCell (a := ⟨N, 1, none⟩) (hz.set 0 _) hT _)).trans (Calm.setCell (a := ⟨N, 2, none⟩) ((hz.set 0 _).set 1 _) hT _)).trans (Calm.setCell (a := ⟨N, 3, none⟩) (((hz.set 0 _).set 1 _).set 2 _) hT _)
theorem eraseIdx_map {α β : Type} (f : α → β) : ∀ (l : List α) (i : Nat), (l.map f).eraseIdx i = (l.eraseIdx i).map f
  | [], _ => by simp
  | x :: t, 0 => by simp
  | x :: t, i + 1 => by simp [eraseIdx_map f t i]
theorem OwnL.hasBlk {α : Type} {e : TypeId} {size : Nat} {enc : α → List Value} {w : World} {base : Nat} {a : Option Addr} {n c : Nat} {xs : List α} (h : OwnL e size enc w base (.slice a n c) xs) {T : TypeId} (hT : e ≠ T) {b : Nat} (hb : ∃ ad, a = some ad ∧ b = ad.block) : ∃ cs t', Blk w b cs t' ∧ t' ≠ T := by
  obtain ⟨ad, rfl, rfl⟩ := hb
  rcases h.2 with ⟨hv, h0⟩ | ⟨g, cap, cur, hv, hg, hh, _⟩
  · cases hv
  · cases hv
    exact ⟨cur, e, hh, hT⟩
theorem OwnL.hasBase {α : Type} {e : TypeId} {size : Nat} {enc : α → List Value} {w : World} {base : Nat} {a : Option Addr} {n c : Nat} {xs : List α} (h : OwnL e size enc w base (.slice a n c) xs) {b : Nat} (hb : ∃ ad, a = some ad ∧ b = ad.block) : base ≤ b := by
  obtain ⟨ad, rfl, rfl⟩ := hb
  rcases h.2 with ⟨hv, h0⟩ | ⟨g, cap, cur, hv, hg, hh, _⟩
  · cases hv
  · cases hv
    exact hg
set_option maxRecDepth 20000 in
set_option maxHeartbeats 2000000 in
theorem netTake_any (R : Nat → Prop) (a : Option Addr) (n cap : Nat) (X : List XN) (bs : List (List Nat)) (i : Int) (w : World) (hN : NetF R w a n X bs) (hl : X.length ≤ 1000000) (hlb : ∀ x ∈ X, x.2.length ≤ 140737488355328) (hby : ∀ b ∈ bs, Byt b) :
    Calls Try.prog 16 #[.slice a n cap, .int .i64 i] w fun e w' => ∃ v pa pc, e = .returned (.tuple #[v, .agg #[.int .i64 (takeN bs i).2.1.1, .int .i64 (takeN bs i).2.1.2.1, .int .i64 (takeN bs i).2.1.2.2.1, .slice pa (takeN bs i).2.1.2.2.2.length pc], .int .i64 (takeN bs i).2.2]) ∧ NetO w' w.heap.size v (takeN bs i).1 ∧ PartsT w.heap.size w' pa (takeN bs i).2.1.2.2.2 ∧ Below w.heap.size w w' := by
  have HN : Hid (NetF R w a n X bs ∧ (∀ x ∈ X, x.2.length ≤ 140737488355328) ∧ n = X.length ∧ bs.length = n ∧ (∀ b ∈ bs, Byt b)) := ⟨hN, hlb, hN.n, by rw [← hN.says, List.length_map, hN.n], hby⟩
  have hXl : X.length ≤ 1000000 := hl
  have HE : Hid (bs.length = n) := HN.out.2.2.2.1
  have hbA := below1 w (.cells #[.int .i64 0, .int .i64 0, .int .i64 0, .slice none 0 0] 43)
  have hBm : Blk (w.alloc (.cells #[.int .i64 0, .int .i64 0, .int .i64 0, .slice none 0 0] 43)) w.heap.size #[.int .i64 0, .int .i64 0, .int .i64 0, .slice none 0 0] 43 := Blk.new _ _ _
  clear hN hlb hl hby
  go_enter Try.func16, Try.ntmps16
  go_wp2_with fail
  have hSz : (w.alloc (.cells #[.int .i64 0, .int .i64 0, .int .i64 0, .slice none 0 0] 43)).heap.size = w.heap.size + 1 := by simp
  generalize w.alloc (.cells #[.int .i64 0, .int .i64 0, .int .i64 0, .slice none 0 0] 43) = V at *
  refine (netOwn_any R a n cap X bs V (HN.out.1.below hbA) hXl HN.out.2.1).mono ?_
  rintro e w1 ⟨v1, rfl, hO1, hb1⟩
  obtain ⟨Z, hZl, z1, z2, z3, z4⟩ := hO1.len
  obtain ⟨av, nv, cv, rfl⟩ := z1.slice lenN
  have hnv : nv = n := by have := (z1.at lenN).2.1; have := HE.out; omega
  subst hnv
  have HV : Hid (Below w.heap.size w V ∧ V.heap.size = w.heap.size + 1) := ⟨hbA, hSz⟩
  have HO : Hid (NetO w1 V.heap.size (.slice av nv cv) bs ∧ Below w.heap.size w w1 ∧ Blk w1 w.heap.size #[.int .i64 0, .int .i64 0, .int .i64 0, .slice none 0 0] 43) := ⟨hO1, hbA.trans (hb1.mono hbA.size), hBm.below hb1 hBm.lt⟩
  have HZ : Hid (OwnL 57 1 encN w1 V.heap.size (.slice av nv cv) Z ∧ Z.map (·.2) = bs ∧ (∀ x ∈ Z, BytesT V.heap.size w1 x.1.1 x.2) ∧ (∀ x ∈ Z, x.2.length ≤ x.1.2 ∧ x.1.2 ≤ maxLen) ∧ Z.length ≤ 1000000 ∧ Z.length = bs.length) := ⟨z1, z2, z3, z4, by have := HE.out; have := HN.out.2.2.1; omega, hZl⟩
  clear hO1 hb1 z1 z2 z3 z4 hZl hbA hBm hSz
  go_wp2_with fail
  refine (hasPlace_any a nv cap i w1).mono ?_
  rintro e w2 ⟨rfl, rfl⟩
  by_cases c : 0 ≤ i ∧ i < (nv : Nat)
  · obtain ⟨k, rfl⟩ : ∃ k : Nat, i = (k : Int) := ⟨i.toNat, by omega⟩
    have hk : k < nv := by omega
    have e1 : decide (0 ≤ (k : Int) ∧ (k : Int) < (nv : Nat)) = true := decide_eq_true c
    have hkX : k < X.length := by have := HN.out.2.2.1; omega
    have HT : Hid (takeN bs (k : Int) = (bs.eraseIdx k, (readB X[k].2).1, (readB X[k].2).2)) := by
      show _ = _
      unfold takeN
      rw [if_pos (by rw [HE.out]; exact c)]
      have h := HN.out.1.says
      subst h
      simp [hkX]
    rw [e1]
    clear e1 c
    have hXB := ((HN.out.1.bytes _ (List.getElem_mem hkX)).below HO.out.2.1).1
    have hXc := HN.out.1.caps _ (List.getElem_mem hkX)
    have hXy : Byt X[k].2 := HN.out.2.2.2.2 _ (by rw [← HN.out.1.says]; exact List.mem_map.2 ⟨_, List.getElem_mem hkX, rfl⟩)
    rcases HN.out.1.row.below HO.out.2.1 with h0 | ⟨g, o, rfl, hg, hc⟩
    · rw [h0] at hkX; simp at hkX
    have d0 := hc k hkX 0 _ rfl
    generalize X[k] = x at *
    obtain ⟨⟨ax, cx⟩, l⟩ := x
    simp only [Nat.mul_one, Nat.add_zero] at d0 hXB hXc HT hXy
    obtain ⟨ln, HLL⟩ : ∃ ln, Hid (l.length = ln) := ⟨_, rfl⟩
    rw [HLL.out] at d0
    unfold maxLen at hXc
    have HQ : Hid (BytesAt w2 ax l ∧ l.length ≤ cx ∧ cx ≤ 9223372036854775807 ∧ Byt l) := ⟨hXB, hXc.1, by omega, hXy⟩
    clear hXB hXc hc hXy
    go_wp2_with fail
    refine (read_any ax l cx ln w2 HLL.out.symm HQ.out.2.1 HQ.out.2.2.1 HQ.out.2.2.2 HQ.out.1).mono ?_
    rintro e w5 ⟨v5, rfl, hP5, hb5⟩
    obtain ⟨pa, pc, rfl, hT5, -, -⟩ := hP5.typed
    have hs2 := HO.out.2.1.size
    have hs5 := hb5.size
    have HR5 : Hid (PartsT w2.heap.size w5 pa (readB l).1.2.2.2 ∧ Below w2.heap.size w2 w5) := ⟨hT5, hb5⟩
    have HB5 := HO.out.2.2.below hb5 HO.out.2.2.lt
    clear hP5 hT5 hb5 d0
    generalize (readB l).1 = m at *
    generalize (readB l).2 = er at *
    obtain ⟨mk, md, mh, ml⟩ := m
    simp only at HT HR5
    obtain ⟨lm, HLM⟩ : ∃ lm, Hid (ml.length = lm) := ⟨_, rfl⟩
    rw [HLM.out]
    have hwk : IntKind.i64.wrap ((k : Int) + 1) = (k : Int) + 1 := by rw [IntKind.wrap_i64]; omega
    go_upto_region 5 with fail
    have hY1 := below1 w5 (.cells #[.int .i64 mk, .int .i64 md, .int .i64 mh, .slice pa lm pc] 43)
    have hYm : Blk (w5.alloc (.cells #[.int .i64 mk, .int .i64 md, .int .i64 mh, .slice pa lm pc] 43)) w5.heap.size #[.int .i64 mk, .int .i64 md, .int .i64 mh, .slice pa lm pc] 43 := Blk.new _ _ _
    generalize w5.alloc (.cells #[.int .i64 mk, .int .i64 md, .int .i64 mh, .slice pa lm pc] 43) = Y at *
    have HY : Hid (Below w2.heap.size w2 Y ∧ Blk Y w5.heap.size #[.int .i64 mk, .int .i64 md, .int .i64 mh, .slice pa lm pc] 43 ∧ Blk Y w.heap.size #[.int .i64 0, .int .i64 0, .int .i64 0, .slice none 0 0] 43 ∧ PartsT w2.heap.size Y pa ml) := ⟨HR5.out.2.trans (hY1.mono hs5), hYm, HB5.below hY1 HB5.lt, HR5.out.1.calm (Calm.below hY1 (Nat.le_refl _))⟩
    have HZD : Hid (OwnL 57 1 encN Y.drew V.heap.size (.slice av nv cv) Z ∧ k < Z.length ∧ w.heap.size < w5.heap.size) := ⟨(HZ.out.1.below HY.out.1 (Nat.le_refl _)).below ((Below.refl _ _).drew) (Nat.le_refl _), by have := HZ.out.2.2.2.2.2; have := HE.out; omega, by have := HO.out.2.2.lt; omega⟩
    have HK : Hid (∀ w', Blk w' w5.heap.size #[.int .i64 mk, .int .i64 md, .int .i64 mh, .slice pa lm pc] 43 → (w'.cell? ⟨w5.heap.size, 0, none⟩ = some (.int .i64 mk) ∧ w'.cell? ⟨w5.heap.size, 1, none⟩ = some (.int .i64 md) ∧ w'.cell? ⟨w5.heap.size, 2, none⟩ = some (.int .i64 mh) ∧ w'.cell? ⟨w5.heap.size, 3, none⟩ = some (.slice pa lm pc))) := fun w' hb => hb.cells4
    have hM0 := HY.out.2.1.drew
    clear hY1 hYm HB5 hs5
    go_region_held3 (fun w' => (w'.cell? ⟨w5.heap.size, 0, none⟩ = some (.int .i64 mk) ∧ w'.cell? ⟨w5.heap.size, 1, none⟩ = some (.int .i64 md) ∧ w'.cell? ⟨w5.heap.size, 2, none⟩ = some (.int .i64 mh) ∧ w'.cell? ⟨w5.heap.size, 3, none⟩ = some (.slice pa lm pc))) (
      first
      | (with_reducible exact HK.out _ hMS)
      | (with_reducible exact HK.out _ hMD)
      | (with_reducible exact HK.out _ hM0)) (
      first
      | (go_at_call 44; refine (delN_any av Z cv nv V.heap.size k (k + 1) _ rfl HZD.out.1 HZD.out.2.1).mono ?_; rintro e wD ⟨rfl, hoD, hkD⟩; have hCD : Hid (∀ T, 57 ≠ T → Calm T Y.drew wD) := (fun T hT => Calm.keep hkD (fun b hb => HZD.out.1.hasBlk hT hb)); have hMD := hCD.out 43 (by decide) _ _ hM0; have hRD := hCD.out 43 (by decide) _ _ HY.out.2.2.1.drew; obtain ⟨n0, n1, n2, n3⟩ := hRD.cells4; obtain ⟨y0, y1, y2, y3⟩ := hRD.free4; have hlD := hRD.lt; obtain ⟨hRS, hKS⟩ := fill4K hRD (.int .i64 mk) (.int .i64 md) (.int .i64 mh) (.slice pa lm pc); have hMS := hMD.keep hKS (by have := HZD.out.2.2; omega); have HD : Hid (OwnL 57 1 encN wD V.heap.size (.slice av (nv - 1) cv) (Z.eraseIdx k) ∧ Keep (fun b => ∃ ad, av = some ad ∧ b = ad.block) Y.drew wD ∧ Blk wD w.heap.size #[.int .i64 0, .int .i64 0, .int .i64 0, .slice none 0 0] 43) := ⟨hoD, hkD, hRD⟩; obtain ⟨e0, e1, e2, e3⟩ := hRS.cells4; clear hoD hkD hRD hRS hKS))
    all_goals
      have HF : Hid (NetO ((((wD.setCell ⟨w.heap.size, 0, none⟩ (.int .i64 mk)).setCell ⟨w.heap.size, 1, none⟩ (.int .i64 md)).setCell ⟨w.heap.size, 2, none⟩ (.int .i64 mh)).setCell ⟨w.heap.size, 3, none⟩ (.slice pa lm pc)) w.heap.size (.slice av (nv - 1) cv) (bs.eraseIdx k) ∧ PartsT w.heap.size ((((wD.setCell ⟨w.heap.size, 0, none⟩ (.int .i64 mk)).setCell ⟨w.heap.size, 1, none⟩ (.int .i64 md)).setCell ⟨w.heap.size, 2, none⟩ (.int .i64 mh)).setCell ⟨w.heap.size, 3, none⟩ (.slice pa lm pc)) pa ml ∧ Below w.heap.size w ((((wD.setCell ⟨w.heap.size, 0, none⟩ (.int .i64 mk)).setCell ⟨w.heap.size, 1, none⟩ (.int .i64 md)).setCell ⟨w.heap.size, 2, none⟩ (.int .i64 mh)).setCell ⟨w.heap.size, 3, none⟩ (.slice pa lm pc))) := by
        have hsV := HV.out.2
        have hbY : Below w.heap.size w Y.drew := (HO.out.2.1.trans (HY.out.1.mono hs2)).drew
        have hKS := (fill4K HD.out.2.2 (.int .i64 mk) (.int .i64 md) (.int .i64 mh) (.slice pa lm pc)).2
        have hC2 : Calm 5 w2 wD := (Calm.below (HY.out.1.drew) (Nat.le_refl _)).trans (hCD.out 5 (by decide))
        have hC3 := Calm.set4 (t := 5) HD.out.2.2 (by decide) (.int .i64 mk) (.int .i64 md) (.int .i64 mh) (.slice pa lm pc)
        have hC4 := Calm.set4 (t := 65) HD.out.2.2 (by decide) (.int .i64 mk) (.int .i64 md) (.int .i64 mh) (.slice pa lm pc)
        refine ⟨⟨Z.eraseIdx k, (HD.out.1.set4 HD.out.2.2 (by decide) _ _ _ _).mono (by omega), ?_, fun x hx => ?_, fun x hx => HZ.out.2.2.2.1 x (List.mem_of_mem_eraseIdx hx)⟩, ?_, ?_⟩
        · rw [← HZ.out.2.1]
          exact (eraseIdx_map _ _ _).symm
        · exact (((HZ.out.2.2.1 x (List.mem_of_mem_eraseIdx hx)).mono (by omega)).calm hC2).calm hC3
        · exact ((HY.out.2.2.2.mono hs2).calm ((Calm.below ((Below.refl Y.heap.size Y).drew) (Nat.le_refl _)).trans (hCD.out 65 (by decide)))).calm hC4
        · exact (hbY.trans ((HD.out.2.1.below (by have := hbY.size; omega) (fun b hb => by have := HZD.out.1.hasBase hb; omega)))).trans (hKS.below (by have := HO.out.2.1.size; have := HD.out.2.2.lt; omega) (fun b hb => by omega))
      clear n0 n1 n2 n3 y0 y1 y2 y3 hMS hMD
      go_wp2_with fail
      generalize ((((wD.setCell ⟨w.heap.size, 0, none⟩ (.int .i64 mk)).setCell ⟨w.heap.size, 1, none⟩ (.int .i64 md)).setCell ⟨w.heap.size, 2, none⟩ (.int .i64 mh)).setCell ⟨w.heap.size, 3, none⟩ (.slice pa lm pc)) = Z9 at *
      refine bodyPost_ret (v := .tuple #[.slice av (nv - 1) cv, .agg #[.int .i64 mk, .int .i64 md, .int .i64 mh, .slice pa lm pc], .int .i64 er]) ?_ rfl ⟨.slice av (nv - 1) cv, pa, pc, by rw [HT.out]; simp only [HLM.out], by rw [HT.out]; exact HF.out.1, by rw [HT.out]; exact HF.out.2.1, HF.out.2.2⟩
      simp [results, Try.results16, go_sem, e0, e1, e2, e3]
  · have e1 : decide (0 ≤ i ∧ i < (nv : Nat)) = false := decide_eq_false c
    have HT : Hid (takeN bs i = (bs, m0, 6)) := by show _ = _; unfold takeN; rw [if_neg (by rw [HE.out]; exact c)]
    rw [e1]
    clear e1 c
    obtain ⟨n0, n1, n2, n3⟩ := HO.out.2.2.cells4
    obtain ⟨y0, y1, y2, y3⟩ := HO.out.2.2.free4
    have hlt := HO.out.2.2.lt
    obtain ⟨hRS, hKS⟩ := fill4K HO.out.2.2 (.int .i64 0) (.int .i64 0) (.int .i64 0) (.slice none 0 0)
    obtain ⟨e0, e1, e2, e3⟩ := hRS.cells4
    have HF : Hid (NetO ((((w2.setCell ⟨w.heap.size, 0, none⟩ (.int .i64 0)).setCell ⟨w.heap.size, 1, none⟩ (.int .i64 0)).setCell ⟨w.heap.size, 2, none⟩ (.int .i64 0)).setCell ⟨w.heap.size, 3, none⟩ (.slice none 0 0)) w.heap.size (.slice av nv cv) bs ∧ Below w.heap.size w ((((w2.setCell ⟨w.heap.size, 0, none⟩ (.int .i64 0)).setCell ⟨w.heap.size, 1, none⟩ (.int .i64 0)).setCell ⟨w.heap.size, 2, none⟩ (.int .i64 0)).setCell ⟨w.heap.size, 3, none⟩ (.slice none 0 0))) := by
      have hsV := HV.out.2
      have hC3 := Calm.set4 (t := 5) HO.out.2.2 (by decide) (.int .i64 0) (.int .i64 0) (.int .i64 0) (.slice none 0 0)
      exact ⟨⟨Z, (HZ.out.1.set4 HO.out.2.2 (by decide) _ _ _ _).mono (by omega), HZ.out.2.1, fun x hx => ((HZ.out.2.2.1 x hx).mono (by omega)).calm hC3, HZ.out.2.2.2.1⟩, HO.out.2.1.trans (hKS.below HO.out.2.1.size (fun b hb => by omega))⟩
    clear hRS hKS
    go_wp2_with fail
    clear n0 n1 n2 n3 y0 y1 y2 y3
    generalize ((((w2.setCell ⟨w.heap.size, 0, none⟩ (.int .i64 0)).setCell ⟨w.heap.size, 1, none⟩ (.int .i64 0)).setCell ⟨w.heap.size, 2, none⟩ (.int .i64 0)).setCell ⟨w.heap.size, 3, none⟩ (.slice none 0 0)) = Z9 at *
    refine bodyPost_ret (v := .tuple #[.slice av nv cv, .agg #[.int .i64 0, .int .i64 0, .int .i64 0, .slice none 0 0], .int .i64 6]) ?_ rfl ⟨_, none, 0, by rw [HT.out]; rfl, by rw [HT.out]; exact HF.out.1, by rw [HT.out]; exact Or.inl rfl, HF.out.2⟩
    simp [results, Try.results16, go_sem, e0, e1, e2, e3]

end Go.Proofs.Ytmjekpdgmdpndaa
