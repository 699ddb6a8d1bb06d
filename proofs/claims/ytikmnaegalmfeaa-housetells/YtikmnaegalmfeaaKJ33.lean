/- Several texts in one: What the document's SameHouse does with two houses that are the same; What the document's Wrong of a message does. -/
import Derived.Test.YtikmnaegalmfeaaKJ32
import Derived.Test.YtikmnaegalmfeaaKLog5
import Derived.Test.YtikmnaegalmfeaaKHousU
import Derived.Test.YtikmnaegalmfeaaKHouseP
import Derived.Test.YtikmnaegalmfeaaKJ13
import Derived.Test.YtikmnaegalmfeaaKJ01
namespace Go.Proofs.Ytikmnaegalmfeaa
open Go.RowKit
attribute [local go_sem ↓] Go.wp_at_zero Go.wp_at_succ
attribute [local go_sem ↓] eq4

/-- All that a house has is of a size that Go's int tells. -/
def SizeH (L : List R3) (h : H3) : Prop :=
  (L.length ≤ 9223372036854775807 ∧ ∀ r ∈ L, r.2.2.length ≤ 9223372036854775807) ∧ (h.2.1.length ≤ 9223372036854775807 ∧ ∀ x ∈ h.2.1, x.2.length ≤ 9223372036854775807) ∧ h.2.2.length ≤ 9223372036854775807
theorem sizeH_of {L : List R3} {k : Nat} {h : H3} (hok : OkL L) (hl : L.length ≤ 1000000) (hi : HInv k h) (hk : k ≤ 1000000) : SizeH L h :=
  ⟨⟨by omega, fun r hr => by have := (hok r hr).1; omega⟩, ⟨by have := hi.few; omega, fun x hx => by have := (hi.ok x hx).1; omega⟩, by have := hi.done; omega⟩

set_option maxRecDepth 20000 in
set_option maxHeartbeats 2000000 in
theorem sameHouse_gen (v1 v2 : Value) (L : List R3) (h : H3) (w : World) (h1 : HouseU w v1 L h) (h2 : HouseU w v2 L h) (hs : SizeH L h) :
    Calls Try.prog 13 #[v1, v2] w fun e w' => e = .returned (.bool true) ∧ Below w.heap.size w w' := by
  obtain ⟨⟨s0, s1, s2, s3⟩, DD, dn⟩ := h
  obtain ⟨la, nl, lc, Y, ra, nr, rc, XR, da, nd, dc, rfl, ⟨a1, a2, a3⟩, ⟨a4, a5, a6⟩, a7, a10⟩ := h1
  obtain ⟨lb, ml, ld, Z, rb, mr, rd, XS, db, md, dd, rfl, ⟨b1, b2, b3⟩, ⟨b4, b5, b6⟩, b7, b10⟩ := h2
  simp only at a4 a5 a7 a10 b4 b5 b7 b10 ⊢
  have hYZ : Y.map stripL = Z.map stripL := by rw [a2, b2]
  have hXX : XR.map stripD = XS.map stripD := by rw [a5, b5]
  have lY : Y.length = L.length := by rw [← a2, List.length_map]
  have lZ : Z.length = L.length := by rw [← b2, List.length_map]
  have lX : XR.length = DD.length := by rw [← a5, List.length_map]
  have hYm : ∀ x ∈ Y, x.2.2.2.length ≤ 9223372036854775807 := fun x hx => hs.1.2 (stripL x) (by rw [← a2]; exact List.mem_map_of_mem hx)
  have hXm : ∀ x ∈ XR, x.2.2.length ≤ 9223372036854775807 := fun x hx => hs.2.1.2 (stripD x) (by simp only; rw [← a5]; exact List.mem_map_of_mem hx)
  have HL : Hid (∀ W, Below w.heap.size w W → Calls Try.prog 42 #[.slice la nl lc, .slice lb ml ld] W fun e w' => e = .returned (.bool true) ∧ ∃ m, w' = W.drewN m) := fun W hW => sameLog_q la lb Y Z lc ld nl ml W (by omega) (by omega) hYZ (by have := hs.1.1; omega) hYm (a3.below hW) (b3.below hW)
  have HR : Hid (∀ W, Below w.heap.size w W → Calls Try.prog 43 #[.slice ra nr rc, .slice rb mr rd] W fun e w' => e = .returned (.bool true) ∧ ∃ m, w' = W.drewN m) := fun W hW => sameReady_q ra rb XR XS rc rd nr mr W a4 b4 hXX (by have := hs.2.1.1; simp only at this; omega) hXm (a6.below hW) (b6.below hW)
  have HI : Hid (∀ W, Below w.heap.size w W → Calls Try.prog 44 #[.slice da nd dc, .slice db md dd] W fun e w' => e = .returned (.bool true) ∧ ∃ m, w' = W.drewN m) := fun W hW => sameInts_q da db dn dc dd nd md W a7 b7 (by have := hs.2.2; simp only at this; omega) (a10.below hW) (b10.below hW)
  clear hYZ hXX lY lZ lX hYm hXm a1 a2 a3 a4 a5 a6 a7 a10 b1 b2 b3 b4 b5 b6 b7 b10 hs
  have hB := below2 w (.cells #[.slice la nl lc, .int .i64 s0, .int .i64 s1, .int .i64 s2, .int .i64 s3, .slice ra nr rc, .slice da nd dc] 31) (.cells #[.slice lb ml ld, .int .i64 s0, .int .i64 s1, .int .i64 s2, .int .i64 s3, .slice rb mr rd, .slice db md dd] 31)
  have hx : Blk ((w.alloc (.cells #[.slice la nl lc, .int .i64 s0, .int .i64 s1, .int .i64 s2, .int .i64 s3, .slice ra nr rc, .slice da nd dc] 31)).alloc (.cells #[.slice lb ml ld, .int .i64 s0, .int .i64 s1, .int .i64 s2, .int .i64 s3, .slice rb mr rd, .slice db md dd] 31)) w.heap.size #[.slice la nl lc, .int .i64 s0, .int .i64 s1, .int .i64 s2, .int .i64 s3, .slice ra nr rc, .slice da nd dc] 31 := (Blk.new _ _ _).alloc _
  have hy : Blk ((w.alloc (.cells #[.slice la nl lc, .int .i64 s0, .int .i64 s1, .int .i64 s2, .int .i64 s3, .slice ra nr rc, .slice da nd dc] 31)).alloc (.cells #[.slice lb ml ld, .int .i64 s0, .int .i64 s1, .int .i64 s2, .int .i64 s3, .slice rb mr rd, .slice db md dd] 31)) (w.heap.size + 1) #[.slice lb ml ld, .int .i64 s0, .int .i64 s1, .int .i64 s2, .int .i64 s3, .slice rb mr rd, .slice db md dd] 31 := heap2 _ _ _
  go_enter Try.func13, Try.ntmps13
  go_wp2_with fail
  generalize (w.alloc (.cells #[.slice la nl lc, .int .i64 s0, .int .i64 s1, .int .i64 s2, .int .i64 s3, .slice ra nr rc, .slice da nd dc] 31)).alloc (.cells #[.slice lb ml ld, .int .i64 s0, .int .i64 s1, .int .i64 s2, .int .i64 s3, .slice rb mr rd, .slice db md dd] 31) = V at *
  have HV : Hid (Below w.heap.size w V) := hB
  have x0 := hx.cell 0
  have x1 := hx.cell 1
  have x2 := hx.cell 2
  have x3 := hx.cell 3
  have x4 := hx.cell 4
  have x5 := hx.cell 5
  have x6 := hx.cell 6
  have y0 := hy.cell 0
  have y1 := hy.cell 1
  have y2 := hy.cell 2
  have y3 := hy.cell 3
  have y4 := hy.cell 4
  have y5 := hy.cell 5
  have y6 := hy.cell 6
  simp at x0 x1 x2 x3 x4 x5 x6 y0 y1 y2 y3 y4 y5 y6
  clear hx hy hB
  refine (HL.out _ HV.out).mono ?_
  rintro e w1 ⟨rfl, m1, rfl⟩
  go_wp2_with fail
  refine (HR.out _ (below_drewN HV.out _)).mono ?_
  rintro e w2 ⟨rfl, m2, rfl⟩
  go_wp2_with fail
  refine (HI.out _ (below_drewN HV.out _)).mono ?_
  rintro e w3 ⟨rfl, m3, rfl⟩
  go_wp2
  go_ret
  exact ⟨ret_bool (by simp), below_drewN HV.out _⟩

end Go.Proofs.Ytikmnaegalmfeaa

namespace Go.Proofs.Ytikmnaegalmfeaa
open Go.RowKit
attribute [local go_sem ↓] Go.wp_at_zero Go.wp_at_succ

theorem far_take {l : List P3} {k : Nat} (h : k < l.length) (hs : Int) : ((l.take (k + 1)).any fun p => !decide (p.1 = hs)) = (((l.take k).any fun p => !decide (p.1 = hs)) || !decide (l[k].1 = hs)) := by rw [take_snoc h, List.any_append, List.any_cons, List.any_nil, Bool.or_false]

set_option maxRecDepth 20000 in
set_option maxHeartbeats 2000000 in
theorem refWrong_any (k d hs : Int) (a : Option Addr) (l : List P3) (cap n : Nat) (w : World) (hn : n = l.length) (hl : l.length ≤ 9223372036854775807) (hp : PartsAt w a l) :
    Calls Try.prog 18 #[.agg #[.int .i64 k, .int .i64 d, .int .i64 hs, .slice a n cap]] w fun e w' => e = .returned (.int .i64 (wrongMB k d hs l)) ∧ Below w.heap.size w w' := by
  have hbX := below1 w (.cells #[.int .i64 k, .int .i64 d, .int .i64 hs, .slice a n cap] 25)
  have hm0 : Blk (w.alloc (.cells #[.int .i64 k, .int .i64 d, .int .i64 hs, .slice a n cap] 25)) w.heap.size #[.int .i64 k, .int .i64 d, .int .i64 hs, .slice a n cap] 25 := Blk.new _ _ _
  have HN : Hid (n = l.length ∧ PartsAt w a l ∧ l.length ≤ 9223372036854775807) := ⟨hn, hp, hl⟩
  have hnl : n ≤ 9223372036854775807 := by omega
  clear hn hp hl
  by_cases h1 : k < 1 ∨ 7 < k
  · have HF : Hid (wrongMB k d hs l = 1) := by show _ = _; unfold wrongMB; rw [if_pos h1]
    go_enter Try.func18, Try.ntmps18
    by_cases h1a : k < 1
    · clear h1
      go_wp2
      go_ret
      exact ⟨ret_int HF.out.symm, hbX⟩
    · have h1b : 7 < k := by omega
      clear h1
      go_wp2
      go_ret
      exact ⟨ret_int HF.out.symm, hbX⟩
  have h1a : ¬ k < 1 := by omega
  have h1b : ¬ 7 < k := by omega
  by_cases h2 : d < 0 ∨ 1343 < d ∨ hs < 0 ∨ 2 < hs
  · have HF : Hid (wrongMB k d hs l = 3) := by show _ = _; unfold wrongMB; rw [if_neg h1, if_pos h2]
    clear h1
    go_enter Try.func18, Try.ntmps18
    by_cases c1 : d < 0
    · clear h2
      go_wp2
      go_ret
      exact ⟨ret_int HF.out.symm, hbX⟩
    · by_cases c2 : 1343 < d
      · clear h2
        go_wp2
        go_ret
        exact ⟨ret_int HF.out.symm, hbX⟩
      · by_cases c3 : hs < 0
        · clear h2
          go_wp2
          go_ret
          exact ⟨ret_int HF.out.symm, hbX⟩
        · have c4 : 2 < hs := by omega
          clear h2
          go_wp2
          go_ret
          exact ⟨ret_int HF.out.symm, hbX⟩
  have c1 : ¬ d < 0 := by omega
  have c2 : ¬ 1343 < d := by omega
  have c3 : ¬ hs < 0 := by omega
  have c4 : ¬ 2 < hs := by omega
  by_cases h3 : 1 < k
  · by_cases h4 : n = 0
    · have HF : Hid (wrongMB k d hs l = 0) := by show _ = _; unfold wrongMB; rw [if_neg h1, if_neg h2, if_pos h3, if_pos (by have := HN.out.1; omega)]
      subst h4
      clear h1 h2
      go_enter Try.func18, Try.ntmps18
      go_wp2
      go_ret
      exact ⟨ret_int HF.out.symm, hbX⟩
    · have HF : Hid (wrongMB k d hs l = 5) := by show _ = _; unfold wrongMB; rw [if_neg h1, if_neg h2, if_pos h3, if_neg (by have := HN.out.1; omega)]
      have h4' : ((n : Int) != 0) = true := by simpa using h4
      clear h1 h2 h4
      go_enter Try.func18, Try.ntmps18
      go_wp2
      go_ret
      exact ⟨ret_int HF.out.symm, hbX⟩
  have HE : Hid (wrongMB k d hs l = if wrong l 3 = 0 then (if (l.any fun p => !decide (p.1 = hs)) = true then 3 else 0) else wrong l 3) := by show _ = _; unfold wrongMB; rw [if_neg h1, if_neg h2, if_neg h3]
  clear h1 h2
  go_enter Try.func18, Try.ntmps18
  go_wp2_with fail
  generalize w.alloc (.cells #[.int .i64 k, .int .i64 d, .int .i64 hs, .slice a n cap] 25) = W at *
  refine (wrongParts_any a l cap n 3 W HN.out.1 HN.out.2.2 (HN.out.2.1.below hbX) (by decide)).mono ?_
  rintro e w1 ⟨rfl, hb1⟩
  have hB1 : Below w.heap.size w w1 := hbX.trans (hb1.mono hbX.size)
  have hm1 := hm0.below hb1 hm0.lt
  clear hb1 hbX hm0
  generalize hwr : wrong l 3 = x at *
  by_cases hx : x = 0
  · subst hx
    have q2 := hm1.cell 2
    have q3 := hm1.cell 3
    have hql := hm1.lt
    simp at q2 q3
    clear hwr
    go_wp2
    clear q2 q3
    go_loopw [48] (fun i w' => ∃ k : Nat, k ≤ n ∧ i = .int .i64 k ∧ Hid (((l.take k).any fun p => !decide (p.1 = hs)) = false) ∧ Below w1.heap.size w1 w') (fun i _ => n - (intOf i).toNat)
    case atStart => exact ⟨0, Nat.zero_le _, rfl, rfl, Below.refl _ _⟩
    case round =>
      obtain ⟨j, hj, rfl, hno, hbw⟩ := hrel
      have hBr : Below w.heap.size w wr := hB1.trans (hbw.mono hB1.size)
      have hmr := hm1.below hbw hm1.lt
      have q2 := hmr.cell 2
      have hqr := hmr.lt
      simp at q2
      by_cases hlt : j < n
      · have hjl : j < l.length := by have := HN.out.1; omega
        rcases HN.out.2.1.below hBr with h0 | ⟨g, o, rfl, hg, hc⟩
        · rw [h0] at hjl; simp at hjl
        obtain ⟨e0, e1, e2⟩ := hc j hjl
        have HS : Hid (((l.take (j + 1)).any fun p => !decide (p.1 = hs)) = !decide (l[j].1 = hs)) := by show _ = _; rw [far_take hjl, hno.out]; rfl
        have HA : Hid (¬ l[j].1 = hs → (l.any fun p => !decide (p.1 = hs)) = true) := fun h => by
          rw [List.any_eq_true]
          exact ⟨_, List.getElem_mem hjl, by simpa using h⟩
        clear hc hno
        generalize l[j] = p at *
        obtain ⟨p0, p1, p2⟩ := p
        simp only at e0 e1 e2 HS HA
        have hbA := below1 wr (.cells #[.int .i64 p0, .int .i64 p1, .int .i64 p2] 45)
        have hBA := hBr.trans (hbA.mono hBr.size)
        have hBm := hbw.trans (hbA.mono hbw.size)
        clear hmr hbw
        by_cases hp : p0 = hs
        · subst hp
          have HF : Hid (((l.take (j + 1)).any fun p => !decide (p.1 = p0)) = false) := by show _ = _; rw [HS.out]; simp
          clear HS HA
          go_wp2
          go_roundw
          case rel => exact ⟨j + 1, by omega, by go_num, HF, hBm⟩
          case measure => simp [intOf]; omega
        · have HF : Hid (wrongMB k d hs l = 3) := by show _ = _; rw [HE.out, if_pos trivial, if_pos (HA.out hp)]
          have hp' : (p0 != hs) = true := by simpa using hp
          clear HS HA hp
          go_wp2
          go_ret
          exact ⟨ret_int HF.out.symm, hBA⟩
      · have HF : Hid (wrongMB k d hs l = 0) := by
          have h := hno.out
          rw [List.take_of_length_le (by have := HN.out.1; omega)] at h
          show _ = _
          rw [HE.out, if_pos trivial, h]
          rfl
        clear hno
        go_wp2
        go_ret
        exact ⟨ret_int HF.out.symm, hBr⟩
  · have HF : Hid (wrongMB k d hs l = x) := by show _ = _; rw [HE.out, if_neg hx]
    have hx' : (x != 0) = true := by simpa using hx
    clear hx hwr HE
    go_wp2
    go_ret
    exact ⟨ret_int HF.out.symm, hB1⟩

end Go.Proofs.Ytikmnaegalmfeaa
