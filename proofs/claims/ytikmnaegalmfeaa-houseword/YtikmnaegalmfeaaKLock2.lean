/- What locks.Who and locks.Free do, called at a house whose deeds lie in memory. -/
import Derived.Test.YtikmnaegalmfeaaKLock1
import Derived.Deep.RegionHeld3
import Derived.Deep.RegionWith
import Derived.Laws.EntriesVeiled
namespace Go.Proofs.Ytikmnaegalmfeaa
open Go.RowKit
attribute [local go_sem ↓] Go.wp_at_zero Go.wp_at_succ

set_option maxHeartbeats 400000 in
theorem isAt1_any (h k n key : Int) (b : Nat) (w : World) (hb : b < w.heap.size) (c0 : w.cell? ⟨b, 0, none⟩ = some (.int .i64 key)) :
    Calls Try.prog 93 #[.agg #[.int .i64 h, .int .i64 k, .int .i64 n], .pointer (some ⟨b, 0, none⟩)] w fun e w' => e = .returned (.bool (decide (k = key))) ∧ Below w.heap.size w w' := by
  go_enter Try.func93, Try.ntmps93
  go_wp2
  all_goals
    go_ret
    refine ⟨ret_bool ?_, below1 _ _⟩
    rw [Bool.eq_iff_iff]; simp_all

/-- The function that isAt answers lies with its key behind the pointer to block c. -/
def AtFn (w : World) (c : Nat) (key : Int) : Prop := ∃ b, w.cell? ⟨c, 0, none⟩ = some (.func (.func 93) #[] #[.pointer (some ⟨b, 0, none⟩)]) ∧ w.cell? ⟨b, 0, none⟩ = some (.int .i64 key) ∧ b < w.heap.size ∧ c < w.heap.size
theorem AtFn.below {w w' : World} {c : Nat} {key : Int} (h : AtFn w c key) (hb : Below w.heap.size w w') : AtFn w' c key := by
  obtain ⟨b, h1, h2, h3, h4⟩ := h
  have hs := hb.size
  exact ⟨b, (hb.cell (p := ⟨c, 0, none⟩) h4).trans h1, (hb.cell (p := ⟨b, 0, none⟩) h3).trans h2, by omega, by omega⟩
set_option maxRecDepth 100000 in
theorem enters1 : Enters 93 := fun _ _ => rfl
set_option maxRecDepth 100000 in
theorem enters2 : Enters 94 := fun _ _ => rfl
set_option maxRecDepth 100000 in
theorem entersF : Enters 70 := fun _ _ => rfl

set_option maxHeartbeats 400000 in
theorem isAt2_any (x : XD) (c : Nat) (key : Int) (w : World) (hl : x.2.2.length ≤ 9223372036854775807) (hp : PartsAt w x.2.1.1 x.2.2) (hc : AtFn w c key) :
    Calls Try.prog 94 #[.agg #[.int .i64 x.1, .slice x.2.1.1 x.2.2.length x.2.1.2], .pointer (some ⟨c, 0, none⟩)] w fun e w' => e = .returned (.bool (hasK x.2.2 key)) ∧ Below w.heap.size w w' := by
  obtain ⟨dd, ⟨ax, cx⟩, l⟩ := x
  simp only at hl hp ⊢
  have HC := hc.below (below1 w (.cells #[.int .i64 dd, .slice ax l.length cx] 69))
  obtain ⟨b, h1, h2, h3, h4⟩ := HC
  have hb0 := below1 w (.cells #[.int .i64 dd, .slice ax l.length cx] 69)
  have HCon := containsP_any 93 b enters1 (fun p => decide (p.2.1 = key)) ax l cx l.length (w.alloc (.cells #[.int .i64 dd, .slice ax l.length cx] 69)) rfl hl (hp.below hb0) (fun x _ w' hb => isAt1_any x.1 x.2.1 x.2.2 key b w' (Nat.lt_of_lt_of_le h3 hb.size) ((hb.cell (p := ⟨b, 0, none⟩) h3).trans h2))
  have HS : Hid (hasK l key = l.any fun p => decide (p.2.1 = key)) := rfl
  clear h2 h3 hp hl hc
  generalize hll : l.length = nl at *
  have HLL : Hid (l.length = nl) := hll
  clear hll
  go_enter Try.func94, Try.ntmps94
  go_wp2_with fail
  refine HCon.mono ?_
  rintro e w1 ⟨rfl, hb1⟩
  have hB1 : Below w.heap.size w w1 := hb0.trans (hb1.mono hb0.size)
  clear hb1 HCon h1 h4
  go_wp2
  go_ret
  exact ⟨ret_bool HS.out.symm, hB1⟩

set_option maxHeartbeats 400000 in
theorem isAt_any (key : Int) (w : World) :
    Calls Try.prog 71 #[.int .i64 key] w fun e w' => ∃ c, e = .returned (.func (.func 94) #[] #[.pointer (some ⟨c, 0, none⟩)]) ∧ AtFn w' c key ∧ Below w.heap.size w w' := by
  go_enter Try.func71, Try.ntmps71
  go_wp2
  go_ret
  refine ⟨w.heap.size + 1, rfl, ⟨w.heap.size, ?_, ?_, by simp; omega, by simp⟩, below2 _ _ _⟩
  · exact Blk.cell (t := _) (heap2 _ _ _) 0
  · exact Blk.cell ((Blk.new w _ _).alloc _) 0

set_option maxRecDepth 20000 in
set_option maxHeartbeats 1000000 in
theorem taken_any (ra : Option Addr) (nr rc b : Nat) (cs : Array Value) (p : P3) (XR : List XD) (w : World) (hn : nr = XR.length) (hl : XR.length ≤ 9223372036854775807) (hm : ∀ x ∈ XR, x.2.2.length ≤ 9223372036854775807) (hp : DeedsAt w ra XR) (hb : Blk w b cs 31) (h5 : cs[5]? = some (.slice ra nr rc)) :
    Calls Try.prog 70 #[.agg #[.int .i64 p.1, .int .i64 p.2.1, .int .i64 p.2.2], .pointer (some ⟨b, 0, none⟩)] w fun e w' => e = .returned (.bool (atK (XR.map stripD) p.2.1)) ∧ Below w.heap.size w w' := by
  obtain ⟨ph, pk, pn⟩ := p
  have HN : Hid (nr = XR.length ∧ XR.length ≤ 9223372036854775807 ∧ (∀ x ∈ XR, x.2.2.length ≤ 9223372036854775807) ∧ DeedsAt w ra XR ∧ Blk w b cs 31 ∧ cs[5]? = some (.slice ra nr rc)) := ⟨hn, hl, hm, hp, hb, h5⟩
  have hbl := hb.lt
  clear hn hl hm hp hb h5
  simp only
  go_enter Try.func70, Try.ntmps70
  go_wp2_with fail
  have hb0 := below1 w (.cells #[.int .i64 ph, .int .i64 pk, .int .i64 pn] 45)
  have hh : Blk (w.alloc (.cells #[.int .i64 ph, .int .i64 pk, .int .i64 pn] 45)) w.heap.size #[.int .i64 ph, .int .i64 pk, .int .i64 pn] 45 := Blk.new _ _ _
  have hq := HN.out.2.2.2.2.1.below hb0 hbl
  generalize w.alloc (.cells #[.int .i64 ph, .int .i64 pk, .int .i64 pn] 45) = W at *
  have HW : Hid (DeedsAt W ra XR ∧ Below w.heap.size w W) := ⟨HN.out.2.2.2.1.below hb0, hb0⟩
  have HK : Hid (∀ w', Below W.heap.size W w' → w'.cell? ⟨b, 5, none⟩ = some (.slice ra nr rc) ∧ w'.cell? ⟨w.heap.size, 1, none⟩ = some (.int .i64 pk)) := fun w' hb => ⟨((hq.below hb hq.lt).cell 5).trans HN.out.2.2.2.2.2, (hh.below hb hh.lt).cell 1⟩
  have hX0 : Below W.heap.size W W.drew := (Below.refl _ _).drew
  have hltW := hh.lt
  have hltb := hq.lt
  clear hh hb0 hq
  go_region_held3 (fun w' => w'.cell? ⟨b, 5, none⟩ = some (.slice ra nr rc) ∧ w'.cell? ⟨w.heap.size, 1, none⟩ = some (.int .i64 pk)) (
    first
    | exact HK.out _ (Below.refl _ _)
    | exact HK.out _ hX0
    | exact HK.out _ hB2
    | exact HK.out _ hB3) (
    first
    | (go_at_call 67; refine (containsR_any 94 c enters2 (fun x => hasK x.2.2 pk) ra XR rc nr _ HN.out.1 HN.out.2.1 (by exact (HW.out.1.below hB2).1) (fun x hx w' hb => isAt2_any x c pk w' (HN.out.2.2.1 x hx) (((HW.out.1.below hB2).2 x hx).below hb) (hc.below hb))).mono ?_; rintro e w3 ⟨rfl, hb3⟩; have hB3 : Below W.heap.size W w3 := hB2.trans (hb3.mono hB2.size))
    | (go_at_call 71; refine (isAt_any pk _).mono ?_; rintro e w2 ⟨c, rfl, hc, hb2⟩; have hB2 : Below W.heap.size W w2 := hX0.trans (hb2.mono hX0.size)))
  have hbw3 : Below w.heap.size w w3 := HW.out.2.trans (hB3.mono HW.out.2.size)
  have HF : Hid (atK (XR.map stripD) pk = XR.any fun x => hasK x.2.2 pk) := by
    show _ = _
    unfold atK
    rw [List.any_map]
    rfl
  clear hc hb2 hB2 hb3 hB3 HK
  go_wp2
  go_ret
  exact ⟨ret_bool HF.out.symm, hbw3⟩

set_option maxRecDepth 20000 in
set_option maxHeartbeats 1000000 in
theorem free_any (la ra da pa : Option Addr) (nl lc nr rc nd dc np pc : Nat) (s0 s1 s2 s3 : Int) (XR : List XD) (l : List P3) (w : World) (hn : nr = XR.length) (hl : XR.length ≤ 9223372036854775807) (hm : ∀ x ∈ XR, x.2.2.length ≤ 9223372036854775807) (hp : DeedsAt w ra XR) (hnp : np = l.length) (hlp : l.length ≤ 9223372036854775807) (hq : PartsAt w pa l) :
    Calls Try.prog 39 #[.agg #[.slice la nl lc, .int .i64 s0, .int .i64 s1, .int .i64 s2, .int .i64 s3, .slice ra nr rc, .slice da nd dc], .slice pa np pc] w fun e w' => e = .returned (.bool (freeB (XR.map stripD) l)) ∧ Below w.heap.size w w' := by
  have hb0 := below1 w (.cells #[.slice la nl lc, .int .i64 s0, .int .i64 s1, .int .i64 s2, .int .i64 s3, .slice ra nr rc, .slice da nd dc] 31)
  have hh : Blk (w.alloc (.cells #[.slice la nl lc, .int .i64 s0, .int .i64 s1, .int .i64 s2, .int .i64 s3, .slice ra nr rc, .slice da nd dc] 31)) w.heap.size #[.slice la nl lc, .int .i64 s0, .int .i64 s1, .int .i64 s2, .int .i64 s3, .slice ra nr rc, .slice da nd dc] 31 := Blk.new _ _ _
  have HC := containsP_any 70 w.heap.size entersF (fun p => atK (XR.map stripD) p.2.1) pa l pc np (w.alloc (.cells #[.slice la nl lc, .int .i64 s0, .int .i64 s1, .int .i64 s2, .int .i64 s3, .slice ra nr rc, .slice da nd dc] 31)) hnp hlp (hq.below hb0) (fun x _ w' hb => taken_any ra nr rc w.heap.size _ x XR w' hn hl hm ((hp.below hb0).below hb) (hh.below hb hh.lt) rfl)
  have HF : Hid (freeB (XR.map stripD) l = !(l.any fun p => atK (XR.map stripD) p.2.1)) := by
    show _ = _
    unfold freeB
    rw [List.not_any_eq_all_not]
  clear hn hl hm hp hnp hlp hq hh
  go_enter Try.func39, Try.ntmps39
  go_wp2_with fail
  refine HC.mono ?_
  rintro e w1 ⟨rfl, hb1⟩
  have hB1 : Below w.heap.size w w1 := hb0.trans (hb1.mono hb0.size)
  clear HC hb1 hb0
  go_wp2
  go_ret
  exact ⟨ret_bool HF.out.symm, hB1⟩

end Go.Proofs.Ytikmnaegalmfeaa
