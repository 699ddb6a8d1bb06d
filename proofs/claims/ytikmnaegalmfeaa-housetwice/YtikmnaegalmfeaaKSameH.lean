/- What the document's SameHouse does with two houses that are the same. -/
import Derived.Test.YtikmnaegalmfeaaKJ31
import Derived.Test.YtikmnaegalmfeaaKLog5
import Derived.Test.YtikmnaegalmfeaaKHousU
namespace Go.Proofs.Ytikmnaegalmfeaa
open Go.RowKit
attribute [local go_sem ↓] Go.wp_at_zero Go.wp_at_succ
attribute [local go_sem ↓] eq4

/-- All that a house has is of a size that Go's int tells. -/
def SizeH (L : List R3) (h : H3) : Prop :=
  (L.length ≤ 9223372036854775807 ∧ ∀ r ∈ L, r.2.2.length ≤ 9223372036854775807) ∧ (h.2.1.length ≤ 9223372036854775807 ∧ ∀ x ∈ h.2.1, x.2.length ≤ 9223372036854775807) ∧ h.2.2.length ≤ 9223372036854775807
theorem sizeH_of {L : List R3} {k : Nat} {h : H3} (hok : OkL L) (hl : L.length ≤ 1000000) (hi : HInv k h) (hk : k ≤ 1000000) : SizeH L h :=
  ⟨⟨by omega, fun r hr => by have := (hok r hr).1; omega⟩, ⟨by have := hi.few; omega, fun x hx => by have := (hi.ok x hx).1; omega⟩, by have := hi.done; omega⟩

set_option maxRecDepth 20000 in
set_option maxHeartbeats 2000000 in
theorem sameHouse_gen (v1 v2 : Value) (L : List R3) (h : H3) (w : World) (h1 : HouseU w v1 L h) (h2 : HouseU w v2 L h) (hs : SizeH L h) :
    Calls Try.prog 13 #[v1, v2] w fun e w' => e = .returned (.bool true) ∧ Below w.heap.size w w' := by
  obtain ⟨⟨s0, s1, s2, s3⟩, DD, dn⟩ := h
  obtain ⟨la, nl, lc, Y, ra, nr, rc, XR, da, nd, dc, rfl, ⟨a1, a2, a3⟩, ⟨a4, a5, a6⟩, a7, a10⟩ := h1
  obtain ⟨lb, ml, ld, Z, rb, mr, rd, XS, db, md, dd, rfl, ⟨b1, b2, b3⟩, ⟨b4, b5, b6⟩, b7, b10⟩ := h2
  simp only at a4 a5 a7 a10 b4 b5 b7 b10 ⊢
  have hYZ : Y.map stripL = Z.map stripL := by rw [a2, b2]
  have hXX : XR.map stripD = XS.map stripD := by rw [a5, b5]
  have lY : Y.length = L.length := by rw [← a2, List.length_map]
  have lZ : Z.length = L.length := by rw [← b2, List.length_map]
  have lX : XR.length = DD.length := by rw [← a5, List.length_map]
  have hYm : ∀ x ∈ Y, x.2.2.2.length ≤ 9223372036854775807 := fun x hx => hs.1.2 (stripL x) (by rw [← a2]; exact List.mem_map_of_mem hx)
  have hXm : ∀ x ∈ XR, x.2.2.length ≤ 9223372036854775807 := fun x hx => hs.2.1.2 (stripD x) (by simp only; rw [← a5]; exact List.mem_map_of_mem hx)
  have HL : Hid (∀ W, Below w.heap.size w W → Calls Try.prog 42 #[.slice la nl lc, .slice lb ml ld] W fun e w' => e = .returned (.bool true) ∧ ∃ m, w' = W.drewN m) := fun W hW => sameLog_q la lb Y Z lc ld nl ml W (by omega) (by omega) hYZ (by have := hs.1.1; omega) hYm (a3.below hW) (b3.below hW)
  have HR : Hid (∀ W, Below w.heap.size w W → Calls Try.prog 43 #[.slice ra nr rc, .slice rb mr rd] W fun e w' => e = .returned (.bool true) ∧ ∃ m, w' = W.drewN m) := fun W hW => sameReady_q ra rb XR XS rc rd nr mr W a4 b4 hXX (by have := hs.2.1.1; simp only at this; omega) hXm (a6.below hW) (b6.below hW)
  have HI : Hid (∀ W, Below w.heap.size w W → Calls Try.prog 44 #[.slice da nd dc, .slice db md dd] W fun e w' => e = .returned (.bool true) ∧ ∃ m, w' = W.drewN m) := fun W hW => sameInts_q da db dn dc dd nd md W a7 b7 (by have := hs.2.2; simp only at this; omega) (a10.below hW) (b10.below hW)
  clear hYZ hXX lY lZ lX hYm hXm a1 a2 a3 a4 a5 a6 a7 a10 b1 b2 b3 b4 b5 b6 b7 b10 hs
  have hB := below2 w (.cells #[.slice la nl lc, .int .i64 s0, .int .i64 s1, .int .i64 s2, .int .i64 s3, .slice ra nr rc, .slice da nd dc] 31) (.cells #[.slice lb ml ld, .int .i64 s0, .int .i64 s1, .int .i64 s2, .int .i64 s3, .slice rb mr rd, .slice db md dd] 31)
  have hx : Blk ((w.alloc (.cells #[.slice la nl lc, .int .i64 s0, .int .i64 s1, .int .i64 s2, .int .i64 s3, .slice ra nr rc, .slice da nd dc] 31)).alloc (.cells #[.slice lb ml ld, .int .i64 s0, .int .i64 s1, .int .i64 s2, .int .i64 s3, .slice rb mr rd, .slice db md dd] 31)) w.heap.size #[.slice la nl lc, .int .i64 s0, .int .i64 s1, .int .i64 s2, .int .i64 s3, .slice ra nr rc, .slice da nd dc] 31 := (Blk.new _ _ _).alloc _
  have hy : Blk ((w.alloc (.cells #[.slice la nl lc, .int .i64 s0, .int .i64 s1, .int .i64 s2, .int .i64 s3, .slice ra nr rc, .slice da nd dc] 31)).alloc (.cells #[.slice lb ml ld, .int .i64 s0, .int .i64 s1, .int .i64 s2, .int .i64 s3, .slice rb mr rd, .slice db md dd] 31)) (w.heap.size + 1) #[.slice lb ml ld, .int .i64 s0, .int .i64 s1, .int .i64 s2, .int .i64 s3, .slice rb mr rd, .slice db md dd] 31 := heap2 _ _ _
  go_enter Try.func13, Try.ntmps13
  go_wp2_with fail
  generalize (w.alloc (.cells #[.slice la nl lc, .int .i64 s0, .int .i64 s1, .int .i64 s2, .int .i64 s3, .slice ra nr rc, .slice da nd dc] 31)).alloc (.cells #[.slice lb ml ld, .int .i64 s0, .int .i64 s1, .int .i64 s2, .int .i64 s3, .slice rb mr rd, .slice db md dd] 31) = V at *
  have HV : Hid (Below w.heap.size w V) := hB
  have x0 := hx.cell 0
  have x1 := hx.cell 1
  have x2 := hx.cell 2
  have x3 := hx.cell 3
  have x4 := hx.cell 4
  have x5 := hx.cell 5
  have x6 := hx.cell 6
  have y0 := hy.cell 0
  have y1 := hy.cell 1
  have y2 := hy.cell 2
  have y3 := hy.cell 3
  have y4 := hy.cell 4
  have y5 := hy.cell 5
  have y6 := hy.cell 6
  simp at x0 x1 x2 x3 x4 x5 x6 y0 y1 y2 y3 y4 y5 y6
  clear hx hy hB
  refine (HL.out _ HV.out).mono ?_
  rintro e w1 ⟨rfl, m1, rfl⟩
  go_wp2_with fail
  refine (HR.out _ (below_drewN HV.out _)).mono ?_
  rintro e w2 ⟨rfl, m2, rfl⟩
  go_wp2_with fail
  refine (HI.out _ (below_drewN HV.out _)).mono ?_
  rintro e w3 ⟨rfl, m3, rfl⟩
  go_wp2
  go_ret
  exact ⟨ret_bool (by simp), below_drewN HV.out _⟩

theorem sameHouse_any (v1 v2 : Value) (L : List R3) (h : H3) (w : World) (h1 : HouseAt w v1 L h) (h2 : HouseAt w v2 L h) (hs : SizeH L h) :
    Calls Try.prog 13 #[v1, v2] w fun e w' => e = .returned (.bool true) ∧ Below w.heap.size w w' := sameHouse_gen v1 v2 L h w h1.u h2.u hs

end Go.Proofs.Ytikmnaegalmfeaa
