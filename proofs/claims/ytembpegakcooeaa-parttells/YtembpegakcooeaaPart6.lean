/- What part.Houses does: a new slice that owns the houses of the parts, sorted, each once. -/
import Derived.Test.YtembpegakcooeaaPart5
import Derived.Test.YtembpegakcooeaaShelf
import Derived.Lib.OwnBridge
import Derived.Sort.Grow
namespace Go.Proofs.Ytembpegakcooeaa
open Go.RowKit Go.Sort

def OwnI (w : World) (base : Nat) (v : Value) (l : List Int) : Prop := w.ownsRow base 3 1 v l.length (l.map (Value.int .i64))
def sortB (l : List P3) : List Int := (l.map (·.1)).mergeSort fun x y => decide (x ≤ y)
def housesB (l : List P3) : List Int := Lib.compact (sortB l)

theorem infoInt : (Try.prog.info? 3).map (fun i => (i.zero, i.size, i.bytes)) = some (some (.int .i64 0), 1, 8) := by kernel_rfl

theorem OwnI.below {w w' : World} {base : Nat} {v : Value} {l : List Int} (h : OwnI w base v l) {B : Nat} (hb : Below B w w') (hB : w.heap.size ≤ B) : OwnI w' base v l := ownsRow_below h hb hB

/-- 'append(v, x)' where v is owned and x lies in a block of its own. -/
theorem wpList_append_int {ops : Array Oper} {rest : List Oper} {o : Oper} {a : Act} {Q : Exit → Act → World → Prop} (w : World) (hgd : o.guard = none) (s x : Operand)
    (ho : o.op = .call { callee := .builtin .append, args := #[s, x], argTypes := #[27, 27] })
    (base : Nat) (v : Value) (l : List Int) (hs : a.eval s = v) (hown : OwnI w base v l) (B : Nat) (p : Int) (hx : a.eval x = .slice (some ⟨B, 0, none⟩) 1 1)
    (hB : w.heap[B]? = some (.cells #[.int .i64 p] 3)) (hl : l.length ≤ 1000000) (hbase : base ≤ w.heap.size)
    (h : ∀ g cap w', OwnI w' base (.slice (some ⟨g, 0, none⟩) (l.length + 1) cap) (l ++ [p]) → w.grownBy w' v.ownBlock → (v.ownBlock = some g ∨ g = w.heap.size) → g < w'.heap.size → wpList Try.prog ops Q rest (a.put o.dst (.slice (some ⟨g, 0, none⟩) (l.length + 1) cap)) w') : wpList Try.prog ops Q (o :: rest) a w := by
  obtain ⟨i0, hi, hz0, hz1, hz2⟩ := info_parts infoInt
  refine wpList_append_lies w hgd s x 27 ho base 3 i0 _ 1 8 Try.underlying27 hi hz0 hz1 hz2 rfl (by decide) v l.length (l.map (Value.int .i64)) hs hown ⟨B, 0, none⟩ 1 1 [.int .i64 p] hx rfl (World.news_of_block hB) ?_ (by decide) (by unfold maxLen; omega) (by omega) hbase w.heap.size rfl ?_
  · intro u hu
    simp at hu
    subst hu
    rfl
  · intro g cap w' h1 h2 h3 h4
    refine h g cap w' ?_ h2 h3 h4
    unfold OwnI
    simpa using h1

theorem OwnI.row {w : World} {base : Nat} {v : Value} {l : List Int} (h : OwnI w base v l) : ∀ k, v.ownBlock = some k → base ≤ k := by
  intro j hj
  rcases h.2 with ⟨hv, _⟩ | ⟨g', cap'', cur, hv, hg', _⟩
  · rw [hv] at hj; cases hj
  · rw [hv] at hj; cases hj; exact hg'

theorem below_grow {B : Nat} {a w : World} (h : Below B a w) (hB : B ≤ w.heap.size) (os : Array Obj) : Below B a (grow w os) :=
  h.trans ⟨rfl, rfl, rfl, by simp, fun k hk => heap_grow_old w os (by omega)⟩

theorem heap2 (w : World) (o o' : Obj) : ((w.alloc o).alloc o').heap[w.heap.size + 1]? = some o' := by have := heap_alloc_new (w.alloc o) o'; simpa using this

set_option maxHeartbeats 1000000 in
theorem houses_any (a : Option Addr) (l : List P3) (cap n : Nat) (w : World) (hn : n = l.length) (hl : l.length ≤ 4) (h1 : 1 ≤ l.length) (hp : PartsAt w a l) :
    Calls Try.prog 8 #[.slice a n cap] w fun e w' => ∃ v, e = .returned v ∧ OwnI w' w.heap.size v (housesB l) ∧ Below w.heap.size w w' := by
  subst hn
  obtain ⟨i0, hi, hz0, hz1, hz2⟩ := info_parts infoInt
  go_enter Try.func8, Try.ntmps8
  go_wp2_with (at_make; refine wpList_make_own _ rfl _ _ 27 rfl w.heap.size 3 i0 (.int .i64 0) 1 Try.underlying27 hi hz0 hz1 .i64 .i64 _ l.length rfl rfl rfl (by rw [hz2]; omega) (by unfold maxLen; omega) (Nat.le_refl _) ?_; intro w1 hown hgrow)
  have hB1 : Below w.heap.size w w1 := (Below.refl _ _).grown hgrow (Nat.le_refl _) (fun k hk => by cases hk)
  clear hgrow hi hz0 hz1 hz2
  go_loopw [3, 11] (fun v i w' => ∃ k : Nat, k ≤ l.length ∧ i = .int .i64 k ∧ OwnI w' w.heap.size v ((l.take k).map (·.1)) ∧ Below w.heap.size w w' ∧ v ≠ .slice none 0 0) (fun _ i _ => l.length - (intOf i).toNat)
  case atStart => exact ⟨0, Nat.zero_le _, rfl, hown, hB1, by simp⟩
  case round =>
    obtain ⟨k, hk, rfl, hown, hbw, hne⟩ := hrel
    by_cases hlt : k < l.length
    · rcases hp with rfl | ⟨b', o, rfl, hb', hc⟩
      · simp at hlt
      obtain ⟨d0, d1, d2⟩ := hc k hlt
      clear hc
      obtain ⟨hcc, hff⟩ := bcell hbw
      have hsz := hbw.size
      have hle : ((l.take k).map (·.1)).length ≤ 1000000 := by simp; omega
      have HE : (l.take (k + 1)).map (·.1) = (l.take k).map (·.1) ++ [l[k].1] := by rw [take_snoc hlt, List.map_append]; rfl
      generalize (l.take k).map (·.1) = zs at *
      have HE2 : Hid ((l.take (k + 1)).map (·.1) = zs ++ [l[k].1]) := HE
      have HO : Hid (OwnI wr w.heap.size u3 zs) := hown
      clear hown HE
      go_wp2_with (at_builtin; refine wpList_append_int _ rfl _ _ rfl w.heap.size _ _ rfl (HO.out.below (below2 wr _ _) (Nat.le_refl _)) (wr.heap.size + 1) l[k].1 rfl (by exact heap2 wr _ _) hle (by simp; omega) ?_; intro g cap' w2 hown2 hgrow hat hlt2)
      have hB2 : Below w.heap.size w w2 := (hbw.trans ((below2 wr _ _).mono hsz)).grown hgrow (by simp; omega) HO.out.row
      clear hgrow hat HO hcc hff d0 d1 d2 hle
      go_wp2
      go_roundw
      case rel =>
        refine ⟨k + 1, by omega, by go_num, ?_, hB2, by simp⟩
        rw [HE2.out]
        exact hown2
      case measure => simp [intOf]; omega
    · have hlk : l.take k = l := by rw [List.take_of_length_le (by omega)]
      rw [hlk] at hown
      obtain ⟨zs, hzs⟩ : ∃ zs, zs = l.map (·.1) := ⟨_, rfl⟩
      have hzl : zs.length = l.length := by rw [hzs]; simp
      have hz4 : zs.length ≤ 4 := by omega
      rw [← hzs] at hown
      have HZ : Hid (zs = l.map (·.1) ∧ zs.length = l.length) := ⟨hzs, hzl⟩
      clear hzs hzl hlk hp
      obtain ⟨g, cap', rfl, hbg, hgl, hncap, hcm, _, hH⟩ := Lib.holds_of_ownsRow hown hne
      have hsort := Try.slices_Sort_int g 0 cap' zs wr hH hgl (by omega)
      have HX : Hid (OwnI wr w.heap.size (.slice (some ⟨g, 0, none⟩) zs.length cap') zs ∧ Holds (Value.int .i64) wr g 0 zs.toArray) := ⟨hown, hH⟩
      clear hown hne hH
      go_wp2_with fail
      refine hsort.mono ?_
      rintro e w2 ⟨rfl, nn, os, rfl⟩
      clear hsort
      have hl2 : (zs.mergeSort fun x y => decide (x ≤ y)).length = zs.length := List.length_mergeSort zs
      have hH2 : Holds (Value.int .i64) (grow (putRow (Value.int .i64) (Sort.ahead wr nn) g 0 (zs.mergeSort fun x y => decide (x ≤ y)).toArray) os) g 0 (zs.mergeSort fun x y => decide (x ≤ y)).toArray :=
        holds_grow _ _ os g 0 _ (by simpa [putRow, mapBlock, Sort.ahead] using hgl) (holds_putRow _ _ g 0 _ _ (holds_ahead _ wr nn g 0 _ HX.out.2) (by simp))
      have hB2 : Below w.heap.size w (grow (putRow (Value.int .i64) (Sort.ahead wr nn) g 0 (zs.mergeSort fun x y => decide (x ≤ y)).toArray) os) := below_grow (Lib.below_putRow hbw hbg) (by simpa [putRow, mapBlock, Sort.ahead] using hbw.size) os
      have hO2 : OwnI (grow (putRow (Value.int .i64) (Sort.ahead wr nn) g 0 (zs.mergeSort fun x y => decide (x ≤ y)).toArray) os) w.heap.size (.slice (some ⟨g, 0, none⟩) zs.length cap') (zs.mergeSort fun x y => decide (x ≤ y)) := by
        have h1 := Lib.ownsRow_putRow (q := nn) (k := zs.length) (ys := zs.mergeSort fun x y => decide (x ≤ y)) HX.out.1 hl2 (Nat.le_refl _)
        rw [List.take_of_length_le (by omega)] at h1
        have h2 := ownsRow_below h1 (below_grow (Below.refl _ _) (Nat.le_refl _) os) (Nat.le_refl _)
        unfold OwnI
        rw [hl2]
        exact h2
      have HS : Hid (housesB l = Lib.compact (zs.mergeSort fun x y => decide (x ≤ y))) := by
        show _ = _
        rw [HZ.out.1]; rfl
      generalize (grow (putRow (Value.int .i64) (Sort.ahead wr nn) g 0 (zs.mergeSort fun x y => decide (x ≤ y)).toArray) os) = w2 at *
      generalize (zs.mergeSort fun x y => decide (x ≤ y)) = ys at *
      have hcomp := Try.slices_Compact_int g 0 cap' ys w2 hH2 (by omega) (by omega)
      rw [hl2] at hcomp
      have HY : Hid (ys.length = zs.length ∧ OwnI w2 w.heap.size (.slice (some ⟨g, 0, none⟩) zs.length cap') ys) := ⟨hl2, hO2⟩
      clear hl2 hO2 hH2 HX HZ
      go_wp2_with fail
      refine hcomp.mono ?_
      rintro e w3 ⟨rfl, q, rfl⟩
      clear hcomp
      have HL : Hid ((Lib.compact ys).length ≤ ys.length) := Lib.compact_length_le ys
      go_wp2
      go_ret
      refine ⟨_, rfl, ?_, Lib.below_putRow hB2 hbg⟩
      rw [HS.out]
      have hle := HL.out
      have hO := HY.out.2
      unfold OwnI at hO
      rw [HY.out.1] at hO hle
      have hc := Lib.ownsRow_putRow (q := q) (k := (Lib.compact ys).length) (ys := Lib.compact ys ++ List.replicate (zs.length - (Lib.compact ys).length) 0) hO (by simp; omega) hle
      rw [List.take_left] at hc
      unfold OwnI
      exact hc

end Go.Proofs.Ytembpegakcooeaa
