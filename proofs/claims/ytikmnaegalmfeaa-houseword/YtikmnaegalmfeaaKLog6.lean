/- What slices.Grow, slices.Concat of records and log.Note do. -/
import Derived.Test.YtikmnaegalmfeaaKLog5
import Derived.Lib.AppendZeros
namespace Go.Proofs.Ytikmnaegalmfeaa
open Go.RowKit
attribute [local go_sem ↓] Go.wp_at_zero Go.wp_at_succ

set_option maxHeartbeats 1000000 in
theorem grow_any (n : Nat) (w : World) (h1 : 1 ≤ n) (hl : n ≤ 3518437208883) :
    Calls Try.prog 91 #[.slice none 0 0, .int .i64 n] w fun e w' => ∃ a c, e = .returned (.slice a 0 c) ∧ OwnL 67 3 encL w' w.heap.size (.slice a 0 c) [] ∧ Below w.heap.size w w' := by
  obtain ⟨i0, hi, hz0, hz1, hz2⟩ := info_parts infoRec
  have hrun := fun ty => Lib.run_append_nil_zeros (P := Try.prog) w 22 3 ty 67 i0 _ .i64 .i64 Try.underlying22 Try.underlying3 hi hz0 n (by omega) (by rw [hz1]; decide) (by omega) (by rw [hz2]; omega)
  have hge := grownCap_ge w n 0 67
  have hle := grownCap_le_maxLen w n 0 67 (by unfold maxLen; omega)
  clear hi hz0 hz1 hz2
  have HO : Hid (OwnL 67 3 encL (w.drew.alloc (.cells (Builtin.zeroCells (Value.agg #[.int .i64 0, .int .i64 0, .slice none 0 0]).cells n ++ Builtin.zeroCells (Value.agg #[.int .i64 0, .int .i64 0, .slice none 0 0]).cells (grownCap w n 0 67 - n)) 67)) w.heap.size (.slice (some ⟨w.heap.size, 0, none⟩) 0 (grownCap w n 0 67)) [] ∧ Below w.heap.size w (w.drew.alloc (.cells (Builtin.zeroCells (Value.agg #[.int .i64 0, .int .i64 0, .slice none 0 0]).cells n ++ Builtin.zeroCells (Value.agg #[.int .i64 0, .int .i64 0, .slice none 0 0]).cells (grownCap w n 0 67 - n)) 67))) := by
    refine ⟨World.ownsRow_made w.drew _ _ (Nat.le_refl _) hle ?_, ((Below.refl _ w).drew).alloc (by simp) _⟩
    simp [Builtin.zeroCells, Value.cells]
    omega
  have HR : Hid _ := hrun
  clear hrun
  generalize grownCap w n 0 67 = gc at *
  generalize w.drew.alloc (.cells (Builtin.zeroCells (Value.agg #[.int .i64 0, .int .i64 0, .slice none 0 0]).cells n ++ Builtin.zeroCells (Value.agg #[.int .i64 0, .int .i64 0, .slice none 0 0]).cells (gc - n)) 67) = W at *
  have hn0 : (0 : Int) < (n : Int) := by omega
  go_enter Try.func91, Try.ntmps91
  go_wp2_with (at_builtin; refine Lib.wpList_append_run _ rfl _ _ _ _ rfl _ _ rfl rfl _ _ (HR.out _) ?_)
  go_wp2
  go_ret
  exact ⟨_, _, rfl, HO.out.1, HO.out.2⟩

set_option maxRecDepth 20000 in
set_option maxHeartbeats 2000000 in
theorem concat_any (b2 : Nat) (a1 a2 : Option Addr) (X1 X2 : List XL) (n1 n2 c1 c2 : Nat) (w : World) (hb : b2 < w.heap.size) (d0 : w.cell? ⟨b2, 0, none⟩ = some (.slice a1 n1 c1)) (d1 : w.cell? ⟨b2, 1, none⟩ = some (.slice a2 n2 c2)) (hn1 : n1 = X1.length) (hn2 : n2 = X2.length) (hl12 : X1.length + X2.length ≤ 3518437208883) (h1 : 1 ≤ X1.length + X2.length) (hp1 : RowAt 3 encL w a1 X1) (hp2 : RowAt 3 encL w a2 X2) :
    Calls Try.prog 66 #[.slice (some ⟨b2, 0, none⟩) 2 2] w fun e w' => ∃ a' n' c', e = .returned (.slice a' n' c') ∧ OwnL 67 3 encL w' w.heap.size (.slice a' n' c') (X1 ++ X2) ∧ Below w.heap.size w w' := by
  have HP : Hid (n1 = X1.length ∧ n2 = X2.length ∧ RowAt 3 encL w a1 X1 ∧ RowAt 3 encL w a2 X2) := ⟨hn1, hn2, hp1, hp2⟩
  have hs1 : n1 + n2 ≤ 3518437208883 := by omega
  have hs3 : 1 ≤ n1 + n2 := by omega
  clear hn1 hn2 hp1 hp2
  go_enter Try.func66, Try.ntmps66
  go_wp2
  go_loopw [3, 11] (fun s i w' => (i = .int .i64 0 ∧ s = .int .i64 0 ∨ i = .int .i64 1 ∧ s = .int .i64 (n1 : Int) ∨ i = .int .i64 2 ∧ s = .int .i64 ((n1 + n2 : Nat) : Int)) ∧ Below w.heap.size w w') (fun _ i _ => 2 - (intOf i).toNat)
  case atStart => exact ⟨Or.inl ⟨rfl, rfl⟩, Below.refl _ _⟩
  case round =>
    obtain ⟨hc, hbr⟩ := hrel
    have e0 := (hbr.cell (p := ⟨b2, 0, none⟩) hb).trans d0
    have e1 := (hbr.cell (p := ⟨b2, 1, none⟩) hb).trans d1
    have hsr := hbr.size
    rcases hc with ⟨rfl, rfl⟩ | ⟨rfl, rfl⟩ | ⟨rfl, rfl⟩
    · have g0 : ¬ (n1 : Int) < 0 := by omega
      clear d0 d1
      go_wp2
      go_roundw
      case rel => exact ⟨Or.inr (Or.inl ⟨rfl, by go_num⟩), hbr⟩
      case measure => simp [intOf]
    · have g0 : ¬ (n1 : Int) + (n2 : Int) < 0 := by omega
      clear d0 d1
      go_wp2
      go_roundw
      case rel => exact ⟨Or.inr (Or.inr ⟨rfl, by go_num⟩), hbr⟩
      case measure => simp [intOf]
    · clear e0 e1
      go_wp2_with fail
      refine (grow_any (n1 + n2) _ hs3 (by omega)).mono ?_
      rintro e w1 ⟨ag, cg, rfl, ho1, hb1⟩
      have HG : Hid (OwnL 67 3 encL w1 w.heap.size (.slice ag 0 cg) [] ∧ Below w.heap.size w w1) := ⟨ho1.mono hsr, hbr.trans (hb1.mono hsr)⟩
      have HC : Hid (w.cell? ⟨b2, 0, none⟩ = some (.slice a1 n1 c1) ∧ w.cell? ⟨b2, 1, none⟩ = some (.slice a2 n2 c2)) := ⟨d0, d1⟩
      clear ho1 hb1 d0 d1 hbr hsr
      generalize wr = wo at *
      go_wp2
      go_loopw [6, 27] (fun v i w' => ∃ (av : Option Addr) (nv cv : Nat), v = .slice av nv cv ∧ (i = .int .i64 0 ∧ OwnL 67 3 encL w' w.heap.size (.slice av nv cv) [] ∨ i = .int .i64 1 ∧ OwnL 67 3 encL w' w.heap.size (.slice av nv cv) X1 ∨ i = .int .i64 2 ∧ OwnL 67 3 encL w' w.heap.size (.slice av nv cv) (X1 ++ X2)) ∧ Below w.heap.size w w') (fun _ i _ => 2 - (intOf i).toNat)
      case atStart => exact ⟨ag, 0, cg, rfl, Or.inl ⟨rfl, HG.out.1⟩, HG.out.2⟩
      case round =>
        obtain ⟨av, nv, cv, rfl, hc, hbw⟩ := hrel
        have e0 := (hbw.cell (p := ⟨b2, 0, none⟩) hb).trans HC.out.1
        have e1 := (hbw.cell (p := ⟨b2, 1, none⟩) hb).trans HC.out.2
        have hsw := hbw.size
        rcases hc with ⟨rfl, hown⟩ | ⟨rfl, hown⟩ | ⟨rfl, hown⟩
        · have HO : Hid (OwnL 67 3 encL wr w.heap.size (.slice av nv cv) []) := hown
          clear hown
          go_wp2_with (at_builtin; refine wpList_append_listB lenL oneL Try.underlying22 infoRec rfl (by decide) _ rfl _ _ rfl w.heap.size _ [] rfl HO.out a1 n1 c1 X1 rfl HP.out.1 (HP.out.2.2.1.below hbw) (by unfold maxLen; simp; omega) (by simp; omega) hsw ?_; intro a4 n4 c4 w4 hown4 hn4 hgrow4 hat4; clear hn4 hat4)
          have HF : Hid (OwnL 67 3 encL w4 w.heap.size (.slice a4 n4 c4) X1 ∧ Below w.heap.size w w4) := ⟨by rw [List.nil_append] at hown4; exact hown4, hbw.grown hgrow4 hsw HO.out.base⟩
          clear hgrow4 hown4
          go_wp2
          go_roundw
          case rel => exact ⟨a4, n4, c4, rfl, Or.inr (Or.inl ⟨rfl, HF.out.1⟩), HF.out.2⟩
          case measure => simp [intOf]
        · have HO : Hid (OwnL 67 3 encL wr w.heap.size (.slice av nv cv) X1) := hown
          clear hown
          go_wp2_with (at_builtin; refine wpList_append_listB lenL oneL Try.underlying22 infoRec rfl (by decide) _ rfl _ _ rfl w.heap.size _ X1 rfl HO.out a2 n2 c2 X2 rfl HP.out.2.1 (HP.out.2.2.2.below hbw) (by unfold maxLen; omega) (by omega) hsw ?_; intro a4 n4 c4 w4 hown4 hn4 hgrow4 hat4; clear hn4 hat4)
          have HF : Hid (OwnL 67 3 encL w4 w.heap.size (.slice a4 n4 c4) (X1 ++ X2) ∧ Below w.heap.size w w4) := ⟨hown4, hbw.grown hgrow4 hsw HO.out.base⟩
          clear hgrow4 hown4
          go_wp2
          go_roundw
          case rel => exact ⟨a4, n4, c4, rfl, Or.inr (Or.inr ⟨rfl, HF.out.1⟩), HF.out.2⟩
          case measure => simp [intOf]
        · go_wp2
          go_ret
          exact ⟨av, nv, cv, rfl, hown, hbw⟩

set_option maxRecDepth 20000 in
set_option maxHeartbeats 2000000 in
theorem note_gen (la ra da : Option Addr) (nl lc nr rc nd dc : Nat) (s0 s1 s2 s3 : Int) (X : List XL) (x : XL) (w : World) (hn : nl = X.length) (hc : CalcL ((X ++ [x]).map stripL)) (hp : RecsAt w la X) (hq : PartsAt w x.2.2.1.1 x.2.2.2) :
    Calls Try.prog 33 #[.agg #[.slice la nl lc, .int .i64 s0, .int .i64 s1, .int .i64 s2, .int .i64 s3, .slice ra nr rc, .slice da nd dc], .agg #[.int .i64 x.1, .int .i64 x.2.1, .slice x.2.2.1.1 x.2.2.2.length x.2.2.1.2]] w fun e w' => ∃ v, e = .returned v ∧ HouseN w.heap.size w' v ((X ++ [x]).map stripL) (houseB ((X ++ [x]).map stripL)) ∧ Below w.heap.size w w' := by
  have HP : Hid (nl = X.length ∧ RecsAt w la X ∧ PartsAt w x.2.2.1.1 x.2.2.2 ∧ CalcL ((X ++ [x]).map stripL)) := ⟨hn, hp, hq, hc⟩
  have hl : X.length + 1 ≤ 3518437208883 := by have := hc.size; rw [List.length_map, List.length_append, List.length_singleton] at this; omega
  clear hn hp hq hc
  obtain ⟨kd, dd, ⟨ax, cx⟩, l⟩ := x
  simp only at HP ⊢
  generalize hll : l.length = nx at *
  have HLL : Hid (l.length = nx) := hll
  clear hll
  go_enter Try.func33, Try.ntmps33
  have hb3 : Below w.heap.size w (((w.alloc (.cells #[.slice la nl lc, .int .i64 s0, .int .i64 s1, .int .i64 s2, .int .i64 s3, .slice ra nr rc, .slice da nd dc] 31)).alloc (.cells #[.int .i64 kd, .int .i64 dd, .slice ax nx cx] 67)).alloc (.cells #[.slice none 0 0, .int .i64 0, .int .i64 0, .int .i64 0, .int .i64 0, .slice none 0 0, .slice none 0 0] 31)) := ((below1 w _).trans ((below1 _ _).mono (by simp))).trans ((below1 _ _).mono (by simp; omega))
  have hs3 : (((w.alloc (.cells #[.slice la nl lc, .int .i64 s0, .int .i64 s1, .int .i64 s2, .int .i64 s3, .slice ra nr rc, .slice da nd dc] 31)).alloc (.cells #[.int .i64 kd, .int .i64 dd, .slice ax nx cx] 67)).alloc (.cells #[.slice none 0 0, .int .i64 0, .int .i64 0, .int .i64 0, .int .i64 0, .slice none 0 0, .slice none 0 0] 31)).heap.size = w.heap.size + 3 := by simp
  have hr3 : Blk (((w.alloc (.cells #[.slice la nl lc, .int .i64 s0, .int .i64 s1, .int .i64 s2, .int .i64 s3, .slice ra nr rc, .slice da nd dc] 31)).alloc (.cells #[.int .i64 kd, .int .i64 dd, .slice ax nx cx] 67)).alloc (.cells #[.slice none 0 0, .int .i64 0, .int .i64 0, .int .i64 0, .int .i64 0, .slice none 0 0, .slice none 0 0] 31)) (w.heap.size + 2) #[.slice none 0 0, .int .i64 0, .int .i64 0, .int .i64 0, .int .i64 0, .slice none 0 0, .slice none 0 0] 31 := by
    have := heap_alloc_new ((w.alloc (.cells #[.slice la nl lc, .int .i64 s0, .int .i64 s1, .int .i64 s2, .int .i64 s3, .slice ra nr rc, .slice da nd dc] 31)).alloc (.cells #[.int .i64 kd, .int .i64 dd, .slice ax nx cx] 67)) (.cells #[.slice none 0 0, .int .i64 0, .int .i64 0, .int .i64 0, .int .i64 0, .slice none 0 0, .slice none 0 0] 31)
    rw [show ((w.alloc (.cells #[.slice la nl lc, .int .i64 s0, .int .i64 s1, .int .i64 s2, .int .i64 s3, .slice ra nr rc, .slice da nd dc] 31)).alloc (.cells #[.int .i64 kd, .int .i64 dd, .slice ax nx cx] 67)).heap.size = w.heap.size + 2 by simp] at this
    exact this
  go_wp2_with fail
  generalize (((w.alloc (.cells #[.slice la nl lc, .int .i64 s0, .int .i64 s1, .int .i64 s2, .int .i64 s3, .slice ra nr rc, .slice da nd dc] 31)).alloc (.cells #[.int .i64 kd, .int .i64 dd, .slice ax nx cx] 67)).alloc (.cells #[.slice none 0 0, .int .i64 0, .int .i64 0, .int .i64 0, .int .i64 0, .slice none 0 0, .slice none 0 0] 31)) = W3 at *
  have hx4 : Blk (W3.alloc (.cells #[.int .i64 kd, .int .i64 dd, .slice ax nx cx] 67)) (w.heap.size + 3) #[.int .i64 kd, .int .i64 dd, .slice ax nx cx] 67 := by rw [← hs3]; exact Blk.new _ _ _
  have hb5 : Below W3.heap.size W3 ((W3.alloc (.cells #[.int .i64 kd, .int .i64 dd, .slice ax nx cx] 67)).alloc (.cells #[.slice la nl lc, .slice (some ⟨w.heap.size + 3, 0, none⟩) 1 1] 22)) := below2 _ _ _
  have hs5 : ((W3.alloc (.cells #[.int .i64 kd, .int .i64 dd, .slice ax nx cx] 67)).alloc (.cells #[.slice la nl lc, .slice (some ⟨w.heap.size + 3, 0, none⟩) 1 1] 22)).heap.size = w.heap.size + 5 := by simp; omega
  have hy5 : Blk ((W3.alloc (.cells #[.int .i64 kd, .int .i64 dd, .slice ax nx cx] 67)).alloc (.cells #[.slice la nl lc, .slice (some ⟨w.heap.size + 3, 0, none⟩) 1 1] 22)) (w.heap.size + 4) #[.slice la nl lc, .slice (some ⟨w.heap.size + 3, 0, none⟩) 1 1] 22 := by
    have := heap2 W3 (.cells #[.int .i64 kd, .int .i64 dd, .slice ax nx cx] 67) (.cells #[.slice la nl lc, .slice (some ⟨w.heap.size + 3, 0, none⟩) 1 1] 22)
    rw [hs3] at this
    exact this
  have hx5 := hx4.alloc (.cells #[.slice la nl lc, .slice (some ⟨w.heap.size + 3, 0, none⟩) 1 1] 22)
  have hr5 := hr3.below hb5 hr3.lt
  have hbw5 : Below w.heap.size w ((W3.alloc (.cells #[.int .i64 kd, .int .i64 dd, .slice ax nx cx] 67)).alloc (.cells #[.slice la nl lc, .slice (some ⟨w.heap.size + 3, 0, none⟩) 1 1] 22)) := hb3.trans (hb5.mono (by omega))
  have HC := concat_any (w.heap.size + 4) la (some ⟨w.heap.size + 3, 0, none⟩) X [(kd, dd, (ax, cx), l)] nl 1 lc 1 _ (by rw [hs5]; omega) (hy5.cell 0) (hy5.cell 1) HP.out.1 rfl (by simp; omega) (by simp) (HP.out.2.1.1.below hbw5) (RowAt.one hx5 (by simp [encL, HLL.out]))
  generalize ((W3.alloc (.cells #[.int .i64 kd, .int .i64 dd, .slice ax nx cx] 67)).alloc (.cells #[.slice la nl lc, .slice (some ⟨w.heap.size + 3, 0, none⟩) 1 1] 22)) = W5 at *
  refine HC.mono ?_
  rintro e w6 ⟨a6, n6, c6, rfl, ho6, hb6⟩
  have hbw6 : Below w.heap.size w w6 := hbw5.trans (hb6.mono (by omega))
  have hrec : RecsAt w6 a6 (X ++ [(kd, dd, (ax, cx), l)]) := ⟨(ho6.at lenL).1, fun y hy => by
    rcases List.mem_append.1 hy with hy | hy
    · exact (HP.out.2.1.2 y hy).below hbw6
    · rw [List.mem_singleton.1 hy]; exact HP.out.2.2.1.below hbw6⟩
  have hr6 := hr5.below hb6 hr5.lt
  have HD := house_gen a6 (X ++ [(kd, dd, (ax, cx), l)]) c6 n6 w6 (ho6.at lenL).2.1 HP.out.2.2.2 hrec
  clear HC hx4 hx5 hy5 hr5 hr3 hb5 hb3 hb6 ho6 hrec hbw5
  go_wp2_with fail
  refine HD.mono ?_
  rintro e w7 ⟨v, rfl, hh7, hb7⟩
  replace hh7 := hh7.mono hbw6.size
  have hbw7 : Below w.heap.size w w7 := hbw6.trans (hb7.mono hbw6.size)
  have hr7 : Blk w7 (w.heap.size + 1 + 1) _ _ := hr6.below hb7 hr6.lt
  clear HD hr6 hb7 hbw6
  generalize hhb : houseB ((X ++ [(kd, dd, (ax, cx), l)]).map stripL) = h at *
  have HHB : Hid (houseB ((X ++ [(kd, dd, (ax, cx), l)]).map stripL) = h) := hhb
  clear hhb
  obtain ⟨⟨t0, t1, t2, t3⟩, DD, dn⟩ := h
  have HH7 : Hid (HouseN w.heap.size w7 v ((X ++ [(kd, dd, (ax, cx), l)]).map stripL) ((t0, t1, t2, t3), DD, dn)) := hh7
  obtain ⟨la', nl', lc', Y', ra', nr', rc', XR', da', nd', dc', rfl, _⟩ := hh7
  obtain ⟨hW, hOnly⟩ := fill7 hr7 (.slice la' nl' lc') (.int .i64 t0) (.int .i64 t1) (.int .i64 t2) (.int .i64 t3) (.slice ra' nr' rc') (.slice da' nd' dc')
  have HBlk : Hid (Blk (((((((w7.setCell ⟨w.heap.size + 1 + 1, 0, none⟩ (.slice la' nl' lc')).setCell ⟨w.heap.size + 1 + 1, 1, none⟩ (.int .i64 t0)).setCell ⟨w.heap.size + 1 + 1, 2, none⟩ (.int .i64 t1)).setCell ⟨w.heap.size + 1 + 1, 3, none⟩ (.int .i64 t2)).setCell ⟨w.heap.size + 1 + 1, 4, none⟩ (.int .i64 t3)).setCell ⟨w.heap.size + 1 + 1, 5, none⟩ (.slice ra' nr' rc')).setCell ⟨w.heap.size + 1 + 1, 6, none⟩ (.slice da' nd' dc')) (w.heap.size + 1 + 1) #[.slice la' nl' lc', .int .i64 t0, .int .i64 t1, .int .i64 t2, .int .i64 t3, .slice ra' nr' rc', .slice da' nd' dc'] 31 ∧ HouseN w.heap.size (((((((w7.setCell ⟨w.heap.size + 1 + 1, 0, none⟩ (.slice la' nl' lc')).setCell ⟨w.heap.size + 1 + 1, 1, none⟩ (.int .i64 t0)).setCell ⟨w.heap.size + 1 + 1, 2, none⟩ (.int .i64 t1)).setCell ⟨w.heap.size + 1 + 1, 3, none⟩ (.int .i64 t2)).setCell ⟨w.heap.size + 1 + 1, 4, none⟩ (.int .i64 t3)).setCell ⟨w.heap.size + 1 + 1, 5, none⟩ (.slice ra' nr' rc')).setCell ⟨w.heap.size + 1 + 1, 6, none⟩ (.slice da' nd' dc')) (.agg #[.slice la' nl' lc', .int .i64 t0, .int .i64 t1, .int .i64 t2, .int .i64 t3, .slice ra' nr' rc', .slice da' nd' dc']) ((X ++ [(kd, dd, (ax, cx), l)]).map stripL) ((t0, t1, t2, t3), DD, dn) ∧ Below w.heap.size w (((((((w7.setCell ⟨w.heap.size + 1 + 1, 0, none⟩ (.slice la' nl' lc')).setCell ⟨w.heap.size + 1 + 1, 1, none⟩ (.int .i64 t0)).setCell ⟨w.heap.size + 1 + 1, 2, none⟩ (.int .i64 t1)).setCell ⟨w.heap.size + 1 + 1, 3, none⟩ (.int .i64 t2)).setCell ⟨w.heap.size + 1 + 1, 4, none⟩ (.int .i64 t3)).setCell ⟨w.heap.size + 1 + 1, 5, none⟩ (.slice ra' nr' rc')).setCell ⟨w.heap.size + 1 + 1, 6, none⟩ (.slice da' nd' dc'))) :=
    ⟨hW, HH7.out.only hOnly, (((((((hbw7.setCell (by simp; omega) _).setCell (by simp; omega) _).setCell (by simp; omega) _).setCell (by simp; omega) _).setCell (by simp; omega) _).setCell (by simp; omega) _).setCell (by simp; omega) _)⟩
  have n0 := hr7.cell 0
  have f0 := hr7.free 0
  have n1 := hr7.cell 1
  have f1 := hr7.free 1
  have n2 := hr7.cell 2
  have f2 := hr7.free 2
  have n3 := hr7.cell 3
  have f3 := hr7.free 3
  have n4 := hr7.cell 4
  have f4 := hr7.free 4
  have n5 := hr7.cell 5
  have f5 := hr7.free 5
  have n6 := hr7.cell 6
  have f6 := hr7.free 6
  simp at n0 n1 n2 n3 n4 n5 n6
  clear hW hOnly hr7 HH7
  go_wp2_with fail
  clear n0 n1 n2 n3 n4 n5 n6 f0 f1 f2 f3 f4 f5 f6
  have e0 := Blk.cell HBlk.out.1 0
  have e1 := Blk.cell HBlk.out.1 1
  have e2 := Blk.cell HBlk.out.1 2
  have e3 := Blk.cell HBlk.out.1 3
  have e4 := Blk.cell HBlk.out.1 4
  have e5 := Blk.cell HBlk.out.1 5
  have e6 := Blk.cell HBlk.out.1 6
  simp only [List.getElem?_toArray, List.getElem?_cons_zero, List.getElem?_cons_succ] at e0 e1 e2 e3 e4 e5 e6
  refine bodyPost_ret (v := (.agg #[.slice la' nl' lc', .int .i64 t0, .int .i64 t1, .int .i64 t2, .int .i64 t3, .slice ra' nr' rc', .slice da' nd' dc'])) ?_ rfl ⟨_, rfl, by rw [HHB.out]; exact HBlk.out.2.1, HBlk.out.2.2⟩
  simp [results, Try.results33, go_sem, e0, e1, e2, e3, e4, e5, e6]

end Go.Proofs.Ytikmnaegalmfeaa
