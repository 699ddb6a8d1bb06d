/- What slices.IndexFunc and slices.DeleteFunc do with deeds that are ready, asked for a deed's number. -/
import Derived.Test.YtikmnaegalmfeaaKLog2
import Derived.OwnWalk
namespace Go.Proofs.Ytikmnaegalmfeaa
open Go.RowKit
attribute [local go_sem ↓] Go.wp_at_zero Go.wp_at_succ

/-- Where the first entry of that deed is; -1: there is none. -/
def Idx (X : List XD) (D r : Int) : Prop := (r = -1 ∧ ∀ x ∈ X, x.1 ≠ D) ∨ ∃ i, ∃ h : i < X.length, r = (i : Int) ∧ X[i].1 = D ∧ ∀ j, j < i → ∀ h' : j < X.length, X[j].1 ≠ D
theorem grown_of_below {w w' : World} (h : Below w.heap.size w w') {row : Option Nat} : w.grownBy w' row := ⟨h.os, h.tape, h.output, h.size, fun k hk _ => h.block k hk⟩
theorem OwnL.at {α : Type} {e : TypeId} {size : Nat} {enc : α → List Value} {w : World} {base : Nat} {a : Option Addr} {n cap : Nat} {xs : List α} (he : ∀ x, (enc x).length = size) (h : OwnL e size enc w base (.slice a n cap) xs) : RowAt size enc w a xs ∧ n = xs.length ∧ xs.length ≤ cap ∧ cap ≤ maxLen := by
  obtain ⟨a', cap', hv, h1, h2, h3⟩ := h.row he
  cases hv
  exact ⟨h1, rfl, h2, h3⟩
theorem grown_setCell (w : World) (g j : Nat) (u : Value) : w.grownBy (w.setCell ⟨g, j, none⟩ u) (some g) := ⟨rfl, rfl, rfl, by simp, fun k _ hk => heap_setCell_other w ⟨g, j, none⟩ k u (fun e => hk (by simp [e]))⟩
theorem grown_setCells (g : Nat) : ∀ (vs : List Value) (j : Nat) (w : World), w.grownBy (w.setCells g j vs) (some g)
  | [], _, w => World.grownBy.refl _ _
  | u :: r, j, w => by
    rw [World.setCells]
    exact (grown_setCell w g j u).trans (grown_setCells g r (j + 1) _)

set_option maxHeartbeats 400000 in
theorem sameD_any (d : Int) (v1 : Value) (b : Nat) (D : Int) (w : World) (hb : b < w.heap.size) (c1 : w.cell? ⟨b, 1, none⟩ = some (.int .i64 D)) :
    Calls Try.prog 86 #[.agg #[.int .i64 d, v1], .pointer (some ⟨b, 0, none⟩)] w fun e w' => e = .returned (.bool (decide (d = D))) ∧ Below w.heap.size w w' := by
  have c2 : (w.alloc (.cells #[.int .i64 d, v1] 69)).cell? ⟨b, 1, none⟩ = some (.int .i64 D) := by rw [Below.cell (below1 w _) hb]; exact c1
  clear c1
  go_enter Try.func86, Try.ntmps86
  go_wp2
  all_goals
    go_ret
    refine ⟨ret_bool ?_, below1 _ _⟩
    rw [Bool.eq_iff_iff]; simp_all

theorem rowD_get {w : World} {g o : Nat} {X : List XD} (h : RowAt 2 encD w (some ⟨g, o, none⟩) X) {k : Nat} (hk : k < X.length) : g < w.heap.size ∧ w.cell? ⟨g, o + k * 2, none⟩ = some (.int .i64 X[k].1) ∧ w.cell? ⟨g, o + k * 2 + 1, none⟩ = some (.slice X[k].2.1.1 X[k].2.2.length X[k].2.1.2) := by
  rcases h with rfl | ⟨b, o', e, hlt, hc⟩
  · simp at hk
  · cases e
    exact ⟨hlt, hc k hk 0 _ rfl, hc k hk 1 _ rfl⟩

set_option maxHeartbeats 1000000 in
theorem indexD_any (a : Option Addr) (X : List XD) (cap n : Nat) (b : Nat) (D : Int) (w : World) (hn : n = X.length) (hl : X.length ≤ 4398046511104) (hp : RowAt 2 encD w a X) (hb : b < w.heap.size) (c1 : w.cell? ⟨b, 1, none⟩ = some (.int .i64 D)) :
    Calls Try.prog 87 #[.slice a n cap, .func (.func 86) #[] #[.pointer (some ⟨b, 0, none⟩)]] w fun e w' => ∃ r : Int, e = .returned (.int .i64 r) ∧ Idx X D r ∧ Below w.heap.size w w' := by
  have HP : Hid (n = X.length ∧ RowAt 2 encD w a X ∧ w.cell? ⟨b, 1, none⟩ = some (.int .i64 D)) := ⟨hn, hp, c1⟩
  have hnl : n ≤ 4398046511104 := by omega
  clear hn hp c1
  go_enter Try.func87, Try.ntmps87
  go_wp2
  go_loopw [8] (fun i w' => ∃ k : Nat, k ≤ n ∧ i = .int .i64 k ∧ Hid (∀ x ∈ X.take k, x.1 ≠ D) ∧ Below w.heap.size w w') (fun i _ => n - (intOf i).toNat)
  case atStart => exact ⟨0, Nat.zero_le _, rfl, (fun x hx => by simp at hx), Below.refl _ _⟩
  case round =>
    obtain ⟨k, hk, rfl, hno, hbw⟩ := hrel
    have hsz := hbw.size
    by_cases hlt : k < n
    · have hkX : k < X.length := by have := HP.out.1; omega
      have hrow := HP.out.2.1.below hbw
      obtain ⟨g, o, rfl⟩ : ∃ g o, a = some ⟨g, o, none⟩ := by
        rcases HP.out.2.1 with h | ⟨g, o, h, _⟩
        · rw [h] at hkX; simp at hkX
        · exact ⟨g, o, h⟩
      obtain ⟨_, d0, d1⟩ := rowD_get hrow hkX
      have HI : Hid (X[k].1 = D → Idx X D k) := fun h => Or.inr ⟨k, hkX, rfl, h, fun j hj hj' => hno.out _ (List.mem_take_iff_getElem.2 ⟨j, by omega, rfl⟩)⟩
      have HJ : Hid (X[k].1 ≠ D → ∀ x ∈ X.take (k + 1), x.1 ≠ D) := fun h x hx => by
        rw [take_snoc hkX] at hx
        rcases List.mem_append.1 hx with hx | hx
        · exact hno.out x hx
        · rw [List.mem_singleton.1 hx]; exact h
      have hcc : wr.cell? ⟨b, 1, none⟩ = some (.int .i64 D) := (hbw.cell (p := ⟨b, 1, none⟩) hb).trans HP.out.2.2
      clear hrow hno
      generalize X[k] = x at *
      obtain ⟨dd, ⟨ax, cx⟩, l⟩ := x
      simp only at d0 d1  HI HJ
      generalize l.length = nl at *
      have HC : Hid (b < wr.heap.size ∧ wr.cell? ⟨b, 1, none⟩ = some (.int .i64 D)) := ⟨by omega, hcc⟩
      clear hcc
      go_wp2_with fail
      refine (sameD_any dd (.slice ax nl cx) b D _ HC.out.1 HC.out.2).mono ?_
      rintro e w1 ⟨rfl, hb1⟩
      have hB1 : Below w.heap.size w w1 := hbw.trans (hb1.mono hsz)
      clear d0 d1  hb1
      by_cases hd : dd = D
      · have HI2 : Hid _ := HI.out hd
        have e : decide (dd = D) = true := by simpa using hd
        rw [e]
        clear e hd HI HJ
        go_wp2
        go_ret
        exact ⟨_, rfl, HI2.out, hB1⟩
      · have HJ2 : Hid (∀ x ∈ X.take (k + 1), x.1 ≠ D) := HJ.out hd
        have e : decide (dd = D) = false := by simpa using hd
        rw [e]
        clear e hd HI HJ
        go_wp2
        go_roundw
        case rel => exact ⟨k + 1, by omega, by go_num, HJ2, hB1⟩
        case measure => simp [intOf]; omega
    · have HF : Hid (Idx X D (-1)) := Or.inl ⟨rfl, fun x hx => hno.out x (by rw [List.take_of_length_le (by have := HP.out.1; omega)]; exact hx)⟩
      clear hno
      go_wp2
      go_ret
      exact ⟨_, rfl, HF.out, hbw⟩

theorem infoD2 (w : World) : (zeroValue 69).run Try.prog w = .ok (.agg #[.int .i64 0, .slice none 0 0]) w := by kernel_rfl

set_option maxRecDepth 20000 in
set_option maxHeartbeats 2000000 in
theorem deleteD_any (a : Option Addr) (X : List XD) (cap n base : Nat) (b : Nat) (D : Int) (w : World) (hl : X.length ≤ 4398046511104) (hown : OwnL 69 2 encD w base (.slice a n cap) X) (hb : b < w.heap.size) (hne : Value.ownBlock (.slice a n cap) ≠ some b) (c1 : w.cell? ⟨b, 1, none⟩ = some (.int .i64 D)) :
    Calls Try.prog 90 #[.slice a n cap, .func (.func 86) #[] #[.pointer (some ⟨b, 0, none⟩)]] w fun e w' => ∃ n', e = .returned (.slice a n' cap) ∧ OwnL 69 2 encD w' base (.slice a n' cap) (X.filter fun x => !decide (x.1 = D)) ∧ w.grownBy w' (Value.ownBlock (.slice a n cap)) := by
  obtain ⟨a', cap', hv, hrow, hcap, hmax⟩ := hown.row lenD
  cases hv
  have HC := indexD_any a X cap X.length b D w rfl hl hrow hb c1
  have HO : Hid (OwnL 69 2 encD w base (.slice a X.length cap) X ∧ w.cell? ⟨b, 1, none⟩ = some (.int .i64 D) ∧ (Value.ownBlock (.slice a X.length cap) ≠ some b) ∧ cap ≤ maxLen) := ⟨hown, c1, hne, hmax⟩
  have hm63 : (cap : Int) ≤ 9223372036854775807 := by unfold maxLen at hmax; omega
  clear hown hrow c1 hne hmax
  generalize hxl : X.length = n at *
  have HL : Hid (X.length = n) := hxl
  clear hxl
  go_enter Try.func90, Try.ntmps90
  go_wp2_with fail
  refine HC.mono ?_
  rintro e w1 ⟨r, rfl, hidx, hb1⟩
  clear HC
  rcases hidx with ⟨rfl, hall⟩ | ⟨i0, hi0, rfl, hD, hlow⟩
  · have HF : Hid ((X.filter fun x => !decide (x.1 = D)) = X) := by
      show _ = _
      rw [List.filter_eq_self]
      intro x hx
      simpa using hall x hx
    clear hall
    go_wp2
    go_ret
    exact ⟨n, rfl, by rw [HF.out]; exact HO.out.1.below hb1 (Nat.le_refl _), grown_of_below hb1⟩
  · rw [HL.out] at hi0
    have hi0n : i0 < n := hi0
    obtain ⟨g, ha⟩ : ∃ g, a = some ⟨g, 0, none⟩ := by
      rcases HO.out.1.2 with ⟨hv, h0⟩ | ⟨g, cap', cur, hv, _⟩
      · exfalso; have := HL.out; omega
      · cases hv; exact ⟨g, rfl⟩
    subst ha
    have hK0 : Hid ((X.take (i0 + 1)).filter (fun x => !decide (x.1 = D)) = X.take i0) := by
      show _ = _
      have hx : i0 < X.length := by rw [HL.out]; exact hi0
      rw [take_snoc hx, List.filter_append]
      have e1 : (X.take i0).filter (fun x => !decide (x.1 = D)) = X.take i0 := by
        rw [List.filter_eq_self]
        intro x hx'
        obtain ⟨j, hj, rfl⟩ := List.mem_take_iff_getElem.1 hx'
        simpa using hlow j (by omega) (by omega)
      rw [e1]
      simp [hD]
    have hne1 : ((i0 : Int) == -1) = false := beq_eq_false_iff_ne.2 (by omega)
    clear hlow hD hi0
    go_wp2_with fail
    go_loopw [5, 6] (fun s5 s6 w' => ∃ (i j : Nat) (K M : List XD), s5 = .int .i64 i ∧ s6 = .int .i64 j ∧ j ≤ n ∧ i < j ∧ Hid (K = (X.take j).filter (fun x => !decide (x.1 = D)) ∧ K.length = i ∧ K.length + M.length = j) ∧ OwnL 69 2 encD w' base (.slice (some ⟨g, 0, none⟩) n cap) (K ++ (M ++ X.drop j)) ∧ w.grownBy w' (some g)) (fun _ s6 _ => n - (intOf s6).toNat)
    case atStart =>
      have hx : i0 < X.length := by rw [HL.out]; exact hi0n
      refine ⟨i0, i0 + 1, X.take i0, [X[i0]], rfl, by go_num, by omega, by omega, ⟨hK0.out.symm, by simp; omega, by simp; omega⟩, ?_, grown_of_below hb1⟩
      rw [List.singleton_append, ← List.drop_eq_getElem_cons hx, List.take_append_drop]
      exact HO.out.1.below hb1 (Nat.le_refl _)
    case round =>
      obtain ⟨i, j, K, M, rfl, rfl, hj, hij, hKM, hown, hgr⟩ := hrel
      have hlen : Hid ((K ++ (M ++ X.drop j)).length = n) := by
        show _ = _
        have := hKM.out.2.2
        have := HL.out
        simp only [List.length_append, List.length_drop]; omega
      have hrow2 := (hown.at lenD).1
      have hsz := hgr.size
      by_cases hlt : j < n
      · have hjX : j < X.length := by rw [HL.out]; exact hlt
        obtain ⟨hgl, d0, d1⟩ := rowD_get hrow2 (k := j) (by rw [hlen.out]; exact hlt)
        obtain ⟨_, t0, t1⟩ := rowD_get hrow2 (k := i) (by rw [hlen.out]; omega)
        have ho' := hown
        unfold OwnL at ho'
        rw [hlen.out] at ho'
        have fz : ∀ q, wr.frozen? ⟨g, q, none⟩ = false := fun q => World.ownsRow.frozenAt ho' q
        have hget : (K ++ (M ++ X.drop j))[j]'(by rw [hlen.out]; exact hlt) = X[j] := by
          have h1 := hKM.out.2.2
          rw [List.getElem_append_right (by omega), List.getElem_append_right (by omega)]
          rw [List.getElem_drop]
          congr 1
          omega
        rw [hget] at d0 d1
        have HS : Hid (X.drop j = X[j] :: X.drop (j + 1) ∧ X.take (j + 1) = X.take j ++ [X[j]]) := ⟨List.drop_eq_getElem_cons hjX, take_snoc hjX⟩
        generalize (K ++ (M ++ X.drop j))[i]'(by rw [hlen.out]; omega) = old at *
        clear hget hrow2
        generalize X[j] = x at *
        have HX : Hid (x = x ∧ encD x = [.int .i64 x.1, .slice x.2.1.1 x.2.2.length x.2.1.2]) := ⟨rfl, rfl⟩
        obtain ⟨dd, ⟨ax, cx⟩, l⟩ := x
        obtain ⟨od, ⟨oa, oc⟩, ol⟩ := old
        simp only at d0 d1 t0 t1 HX
        simp only [Nat.zero_add] at d0 d1 t0 t1
        generalize l.length = nl at *
        generalize ol.length = nol at *
        have hblt : b < wr.heap.size := by omega
        have hcb : wr.cell? ⟨b, 1, none⟩ = some (.int .i64 D) := hgr.cell HO.out.2.1 (fun h => HO.out.2.2.1 h.symm)
        have HCB : Hid (wr.cell? ⟨b, 1, none⟩ = some (.int .i64 D)) := hcb
        have HW : Hid (OwnL 69 2 encD wr base (.slice (some ⟨g, 0, none⟩) n cap) (K ++ (M ++ X.drop j)) ∧ w.grownBy wr (some g)) := ⟨hown, hgr⟩
        have hi2 : (i : Int) < (n : Int) := by omega
        have fi0 := fz (i * 2)
        have fi1 := fz (i * 2 + 1)
        
        clear hown hgr hcb ho' fz
        have hA : Below wr.heap.size wr (wr.alloc (.cells #[.int .i64 dd, .slice ax nl cx] 69)) := below1 _ _
        go_wp2_with fail
        refine (sameD_any dd (.slice ax nl cx) b D _ (by simp; omega) (by rw [Below.cell hA (by show b < _; omega)]; exact HCB.out)).mono ?_
        rintro e w2 ⟨rfl, hb2⟩
        have hB2 : Below wr.heap.size wr w2 := hA.trans (hb2.mono (by simp))
        have hv2 : Blk w2 wr.heap.size #[.int .i64 dd, .slice ax nl cx] 69 := (Blk.new wr _ _).below hb2 (by simp)
        have v0 := hv2.cell 0
        have v1 := hv2.cell 1
        
        simp at v0 v1
        obtain ⟨bc, bf⟩ := bcell hB2
        have t0' := (bc g (i * 2) hgl).trans t0
        have t1' := (bc g (i * 2 + 1) hgl).trans t1
        have f0' := (bf g (i * 2) hgl).trans fi0
        have f1' := (bf g (i * 2 + 1) hgl).trans fi1
        
        have HO2 : Hid (OwnL 69 2 encD w2 base (.slice (some ⟨g, 0, none⟩) n cap) (K ++ (M ++ X.drop j)) ∧ w.grownBy w2 (some g)) := ⟨HW.out.1.below hB2 (Nat.le_refl _), HW.out.2.trans (grown_of_below hB2)⟩
        clear bc bf d0 d1  t0 t1  fi0 fi1  hA hb2 hB2 hv2 HCB HW
        by_cases hd : dd = D
        · have e : decide (dd = D) = true := by simpa using hd
          rw [e]
          clear e
          have HN : Hid (K = (X.take (j + 1)).filter (fun x => !decide (x.1 = D)) ∧ K.length = i ∧ K.length + (M ++ [(dd, (ax, cx), l)]).length = j + 1 ∧ K ++ (M ++ X.drop j) = K ++ ((M ++ [(dd, (ax, cx), l)]) ++ X.drop (j + 1))) := by
            refine ⟨?_, hKM.out.2.1, by have := hKM.out.2.2; simp; omega, ?_⟩
            · rw [HS.out.2, List.filter_append, ← hKM.out.1]
              simp [hd]
            · rw [HS.out.1]; simp
          clear hd v0 v1  t0' t1' f0' f1' 
          go_wp2_with fail
          go_roundw
          case rel => exact ⟨i, j + 1, K, M ++ [(dd, (ax, cx), l)], rfl, by go_num, by omega, by omega, ⟨HN.out.1, HN.out.2.1, HN.out.2.2.1⟩, by rw [← HN.out.2.2.2]; exact HO2.out.1, HO2.out.2⟩
          case measure => simp [intOf]; omega
        · have e : decide (dd = D) = false := by simpa using hd
          rw [e]
          clear e
          obtain ⟨m, M', hM⟩ : ∃ m M', M = m :: M' := by
            cases M with
            | nil => exfalso; have h1 := hKM.out.2.2; have h2 := hKM.out.2.1; simp at h1; omega
            | cons m M' => exact ⟨m, M', rfl⟩
          have HN : Hid (K ++ [(dd, (ax, cx), l)] = (X.take (j + 1)).filter (fun x => !decide (x.1 = D)) ∧ (K ++ [(dd, (ax, cx), l)]).length = i + 1 ∧ (K ++ [(dd, (ax, cx), l)]).length + (M' ++ [(dd, (ax, cx), l)]).length = j + 1 ∧ (K ++ (M ++ X.drop j)).set i (dd, (ax, cx), l) = (K ++ [(dd, (ax, cx), l)]) ++ ((M' ++ [(dd, (ax, cx), l)]) ++ X.drop (j + 1))) := by
            refine ⟨?_, by have := hKM.out.2.1; simp; omega, by have := hKM.out.2.2; rw [hM] at this; simp at this; simp; omega, ?_⟩
            · rw [HS.out.2, List.filter_append, ← hKM.out.1]
              simp [hd]
            · rw [HS.out.1, hM, List.set_append_right i _ (by have := hKM.out.2.1; omega), hKM.out.2.1, Nat.sub_self]
              simp
          have HP : Hid (OwnL 69 2 encD ((w2.setCell ⟨g, i * 2, none⟩ (.int .i64 dd)).setCell ⟨g, i * 2 + 1, none⟩ (.slice ax nl cx)) base (.slice (some ⟨g, 0, none⟩) n cap) ((K ++ [(dd, (ax, cx), l)]) ++ ((M' ++ [(dd, (ax, cx), l)]) ++ X.drop (j + 1)))) := by
            rw [← HN.out.2.2.2]
            exact HO2.out.1.put2 lenD hlen.out.symm (by rw [hlen.out]; omega) HX.out.2
          have HG : Hid (w.grownBy ((w2.setCell ⟨g, i * 2, none⟩ (.int .i64 dd)).setCell ⟨g, i * 2 + 1, none⟩ (.slice ax nl cx)) (some g)) := (HO2.out.2.trans (grown_setCell _ _ _ _)).trans (grown_setCell _ _ _ _)
          clear hd hM HO2 hlen
          go_wp2_with fail
          go_roundw
          case rel => exact ⟨i + 1, j + 1, K ++ [(dd, (ax, cx), l)], M' ++ [(dd, (ax, cx), l)], by go_num, by go_num, by omega, by omega, ⟨HN.out.1, HN.out.2.1, HN.out.2.2.1⟩, HP.out, HG.out⟩
          case measure => simp [intOf]; omega
      · have hjn : j = n := by omega
        subst hjn
        have hdr : X.drop j = [] := List.drop_eq_nil_of_le (by rw [HL.out]; exact Nat.le_refl _)
        have hkf : K = X.filter (fun x => !decide (x.1 = D)) := by rw [hKM.out.1, List.take_of_length_le (by rw [HL.out]; exact Nat.le_refl _)]
        have ho' := hown
        unfold OwnL at ho'
        rw [hlen.out] at ho'
        have hin : i < j := hij
        obtain ⟨vs, hcl⟩ : ∃ vs, ∀ ty, (Builtin.clear_ #[28] ty #[.slice (some ⟨g, i * 2, none⟩) (j - i) (cap - i)]).run Try.prog wr = .ok (.tuple #[]) (wr.setCells g (i * 2) vs) := by
          have h1 := run_clear_list wr 28 69 0 _ Try.underlying28 infoD2 (by intro u hu; simp [Value.cells] at hu; rcases hu with rfl | rfl <;> rfl) g (i * 2) (j - i) (cap - i) (by omega) (fun q hq => by
            have hq' : q < (j - i) * 2 := hq
            rw [World.ownsRow.cellAt ho' _ (by omega)]
            have hl2 : (flat encD (K ++ (M ++ X.drop j))).length = j * 2 := by rw [flat_len lenD, hlen.out]
            rw [List.getElem?_eq_getElem (by rw [hl2]; omega)]
            rfl) (fun q _ => World.ownsRow.frozenAt ho' _)
          obtain ⟨vs, h1⟩ := h1
          exact ⟨vs, fun ty => h1⟩
        have HE : Hid (OwnL 69 2 encD (wr.setCells g (i * 2) vs) base (.slice (some ⟨g, 0, none⟩) i cap) (X.filter fun x => !decide (x.1 = D)) ∧ w.grownBy (wr.setCells g (i * 2) vs) (some g)) := by
          refine ⟨?_, hgr.trans (grown_setCells g vs _ _)⟩
          rw [← hkf]
          exact OwnL.setCells lenD hKM.out.2.1.symm vs _ _ (hown.cut lenD hKM.out.2.1.symm) (by rw [hKM.out.2.1]; exact Nat.le_refl _)
        clear ho' hown hgr hrow2 hdr hkf hKM hlen
        have hic : (i : Int) ≤ (cap : Int) := by omega
        have hjc : (j : Int) ≤ (cap : Int) := by omega
        go_wp2
        go_ret
        exact ⟨i, rfl, HE.out.1, HE.out.2⟩

end Go.Proofs.Ytikmnaegalmfeaa
