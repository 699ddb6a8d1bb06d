/- How a text is cut at its blanks: strings.Index at a blank, and the function that strings.SplitSeq hands back. -/
import Derived.RangeFuncNested
import Derived.RangeFuncBound
import Derived.RangeFuncCalls
import Derived.RangeFuncLeaves
import Derived.Shelf.Abstract
import Derived.Shelf.RegionOpen
import Derived.WalkKit
import Derived.OwnWalkIn
import Derived.TacticsInMore
import Derived.LoopNIn
import Derived.LoopIn
import Derived.Test.YtkmohigbedocgaaDoorText1
namespace Go.Proofs.YtkmohigbedocgaaDoor
open Go.RowKit Go.Shelf

theorem indexB_eq : ∀ (s : List UInt8), (Lib.indexByte s 32 = -1 ∧ ∀ c ∈ s, c ≠ 32) ∨ (∃ x t, s = x ++ 32 :: t ∧ (∀ c ∈ x, c ≠ 32) ∧ Lib.indexByte s 32 = (x.length : Int))
  | [] => Or.inl ⟨rfl, fun c hc => by cases hc⟩
  | b :: l => by
    unfold Lib.indexByte
    by_cases hb : b = 32
    · subst hb
      exact Or.inr ⟨[], l, rfl, (fun c hc => by cases hc), rfl⟩
    · have hbb : (b == (32 : UInt8)) = false := by simpa using hb
      rw [hbb]
      simp only [Bool.false_eq_true, if_false]
      rcases indexB_eq l with ⟨h1, h2⟩ | ⟨x, t, h1, h2, h3⟩
      · refine Or.inl ⟨by rw [h1]; rfl, fun c hc => ?_⟩
        rcases List.mem_cons.1 hc with rfl | hc
        · exact hb
        · exact h2 c hc
      · refine Or.inr ⟨b :: x, t, by rw [h1]; rfl, fun c hc => ?_, ?_⟩
        · rcases List.mem_cons.1 hc with rfl | hc
          · exact hb
          · exact h2 c hc
        · have hne : (Lib.indexByte l 32 == -1) = false := by rw [h3]; simp
          rw [hne, h3]
          simp

set_option maxRecDepth 20000 in
theorem liteIndex_any (s : ByteArray) (w : World) :
    Calls Tryd.prog 45 #[.string s, .string ⟨#[32]⟩] w fun e w' => e = .returned (.int .i64 (Lib.indexByte s.data.toList 32)) ∧ w' = w := by
  cases hd : ([32] == s.toList)
  · go_enter Tryd.func45, Tryd.ntmps45
    go_wp2_with fail
    refine (Tryd.stringslite_IndexByte s _ w).mono ?_
    rintro e w' ⟨rfl, rfl⟩
    go_wp2
    go_ret
    exact ⟨rfl, rfl⟩
  · go_enter Tryd.func45, Tryd.ntmps45
    go_wp2
    go_ret
    have e : s.data.toList = [32] := by rw [← Lib.toList_data]; simpa using (of_decide_eq_true (by simpa using hd) : ([32] : List UInt8) = s.toList).symm
    refine ⟨?_, rfl⟩
    rw [e]
    rfl
theorem index_any (s : ByteArray) (w : World) :
    Calls Tryd.prog 32 #[.string s, .string ⟨#[32]⟩] w fun e w' => e = .returned (.int .i64 (Lib.indexByte s.data.toList 32)) ∧ w' = w := by
  go_enter Tryd.func32, Tryd.ntmps32
  go_wp2_with fail
  refine (liteIndex_any s w).mono ?_
  rintro e w' ⟨rfl, rfl⟩
  go_wp2
  go_ret
  exact ⟨rfl, rfl⟩

attribute [local go_sem] Oper.semAt_some

theorem wideDepth {n : Nat} : Fence.wide.depth.isSome = true → 1 ≤ n := fun h => by cases h

/-- How much of the text is left, read off the world. -/
def leftS (W : World) (b : Nat) : Nat := match W.cell? ⟨b, 0, none⟩ with
  | some (.string s) => s.size
  | _ => 0

set_option maxRecDepth 20000 in
set_option maxHeartbeats 1000000 in
/-- The function that SplitSeq hands back, called at a loop's round: the words come in turn; it keeps what is left in a variable of its own. -/
theorem split1_in (n : Nat) (l bP bS bV : Nat) (J : List (List UInt8) → World → Prop) (Jx : World → Prop)
    (hJ : ∀ pre W, J pre W → W.cell? ⟨bP, 0, none⟩ = some (.string ⟨#[32]⟩) ∧ W.cell? ⟨bV, 0, none⟩ = some (.int .i64 0) ∧ W.frozen? ⟨bS, 0, none⟩ = false)
    (hJs : ∀ pre W (v : ByteArray), J pre W → J pre (W.setCell ⟨bS, 0, none⟩ (.string v)))
    (s : ByteArray) (hY : ∀ pre (x : ByteArray) W1, J pre W1 → x.size ≤ s.size → (∃ t, splitB s.data.toList = pre ++ x.data.toList :: t) → YieldAt Fence.wide (n - 1) Tryd.prog l #[.string x] W1 fun e W' =>
      (e = .returned (.bool true) ∧ J (pre ++ [x.data.toList]) W' ∧ W'.cell? ⟨bS, 0, none⟩ = W1.cell? ⟨bS, 0, none⟩) ∨ (e = .returned (.bool false) ∧ Jx W'))
    (W : World) (hs : W.cell? ⟨bS, 0, none⟩ = some (.string s)) (h0 : J [] W) (hlen : s.size ≤ 4611686018427387904) :
    CallsIn Fence.wide n Tryd.prog 30 #[.func (.yield l) #[] #[], .pointer (some ⟨bP, 0, none⟩), .pointer (some ⟨bS, 0, none⟩), .pointer (some ⟨bV, 0, none⟩)] W fun e W' =>
      (∃ v, e = .returned v) ∧ (J (splitB s.data.toList) W' ∨ Jx W') := by
  refine callsIn_of_wp Tryd.func30 rfl trivial ?_ rfl
  simp only [Tryd.ntmps30, List.size_toArray, List.length_cons, List.length_nil, Nat.reduceAdd, Nat.reduceSub, Array.replicate_succ, Array.replicate_zero, List.push_toArray, List.append_toArray, List.nil_append, List.cons_append]
  obtain ⟨c1, c2, c3⟩ := hJ _ _ h0
  gi_wp2
  clear c1 c2 c3
  gi_loopw [7] (fun _ wr => ∃ (pre : List (List UInt8)) (r : ByteArray), splitB s.data.toList = pre ++ splitB r.data.toList ∧ wr.cell? ⟨bS, 0, none⟩ = some (.string r) ∧ r.size ≤ 4611686018427387904 ∧ r.size ≤ s.size ∧ J pre wr) (fun _ wr => leftS wr bS)
  case atStart => exact ⟨[], s, rfl, hs, hlen, Nat.le_refl _, h0⟩
  case round =>
    clear hs hlen h0
    obtain ⟨pre, r, hsp, hr, hlen, hls, hj⟩ := hrel
    have HSP : Hid (splitB s.data.toList = pre ++ splitB r.data.toList) := hsp
    clear hsp
    obtain ⟨c1, c2, c3⟩ := hJ _ _ hj
    rcases indexB_eq r.data.toList with ⟨hi, hno⟩ | ⟨x, t, hx, hno, hi⟩
    · obtain ⟨fn, tmps, assign, body, hy, hR⟩ := hY pre r wr hj hls ⟨[], by rw [HSP.out, splitB_last _ hno]⟩
      gi_wp2_with fail
      refine ⟨trivial, wideDepth, ?_⟩
      refine (callsIn_wide.2 (index_any r wr)).mono ?_
      rintro e w' ⟨rfl, rfl⟩
      rw [hi]
      gi_wp2
      refine ⟨wideDepth, hR.mono ?_⟩
      have HE : Hid (splitB s.data.toList = pre ++ [r.data.toList]) := by
        show _ = _
        rw [HSP.out, splitB_last _ hno]
      rintro e W' (⟨rfl, h1, _⟩ | ⟨rfl, h1⟩)
      · gi_wp2
        go_end0
        exact ⟨⟨_, rfl⟩, .inl (by rw [HE.out]; exact h1)⟩
      · gi_wp2
        go_end0
        exact ⟨⟨_, rfl⟩, .inr h1⟩
    · obtain ⟨fn, tmps, assign, body, hy, hR⟩ := hY pre (r.extract 0 x.length) wr hj (by rw [Lib.size_eq, Lib.extract_data]; simp; omega) ⟨splitB t, by rw [HSP.out, Lib.extract_data, hx, splitB_cut x t hno]; simp⟩
      have hrl : r.size = x.length + (t.length + 1) := by rw [Lib.size_eq, hx]; simp
      gi_wp2_with fail
      refine ⟨trivial, wideDepth, ?_⟩
      refine (callsIn_wide.2 (index_any r wr)).mono ?_
      rintro e w' ⟨rfl, rfl⟩
      rw [hi]
      gi_wp2
      refine ⟨wideDepth, hR.mono ?_⟩
      have hx1 : (r.extract 0 x.length).data.toList = x := by rw [Lib.extract_data, hx]; simp
      have hx2 : (r.extract (x.length + 1) r.size).data.toList = t := by rw [Lib.extract_data, hrl, hx, show x.length + (t.length + 1) - (x.length + 1) = t.length by omega]; simp
      have HE : Hid (splitB s.data.toList = (pre ++ [x]) ++ splitB (r.extract (x.length + 1) r.size).data.toList) := by
        show _ = _
        rw [HSP.out, hx2, hx, splitB_cut x t hno]; simp
      have hz : (r.extract (x.length + 1) r.size).size = t.length := by rw [Lib.size_eq, hx2]
      rw [hx1]
      clear hR hy c1 c2 c3 hj
      rintro e W' (⟨rfl, h1, h2⟩ | ⟨rfl, h1⟩)
      · obtain ⟨c1, c2, c3⟩ := hJ _ _ h1
        rw [hr] at h2
        have hcm : ((x.length : Int) + 1) ≤ (r.size : Int) := by omega
        have HR : Hid (w'.cell? ⟨bS, 0, none⟩ = some (.string r)) := hr
        clear hr
        rw [hrl] at HE hz
        gi_wp2
        have hset : (W'.setCell ⟨bS, 0, none⟩ (.string (r.extract (x.length + 1) (x.length + (t.length + 1))))).cell? ⟨bS, 0, none⟩ = some (.string (r.extract (x.length + 1) (x.length + (t.length + 1)))) := World.cell?_setCell_same' _ _ _ (by rw [h2]; rfl)
        refine ⟨⟨_, _, HE.out, hset, by omega, by omega, hJs _ _ _ h1⟩, ?_⟩
        unfold leftS
        rw [hset, HR.out]
        simp only
        omega
      · gi_wp2
        refine bodyPost_ret (v := .tuple #[]) ?_ rfl ⟨⟨_, rfl⟩, .inr h1⟩
        simp [results, Tryd.results30, go_sem]

theorem splitSeq_any (s p : ByteArray) (w : World) :
    Calls Tryd.prog 17 #[.string s, .string p, .int .i64 0] w fun e w' => e = .returned (.func (.func 30) #[] #[.pointer (some ⟨w.heap.size + 1, 0, none⟩), .pointer (some ⟨w.heap.size, 0, none⟩), .pointer (some ⟨w.heap.size + 2, 0, none⟩)]) ∧
      w' = ((w.alloc (.cells #[.string s] 9)).alloc (.cells #[.string p] 9)).alloc (.cells #[.int .i64 0] 3) := by
  go_enter Tryd.func17, Tryd.ntmps17
  go_wp2
  go_ret
  exact ⟨rfl, rfl⟩
theorem SplitSeq_any (s p : ByteArray) (w : World) :
    Calls Tryd.prog 10 #[.string s, .string p] w fun e w' => e = .returned (.func (.func 30) #[] #[.pointer (some ⟨w.heap.size + 1, 0, none⟩), .pointer (some ⟨w.heap.size, 0, none⟩), .pointer (some ⟨w.heap.size + 2, 0, none⟩)]) ∧
      w' = ((w.alloc (.cells #[.string s] 9)).alloc (.cells #[.string p] 9)).alloc (.cells #[.int .i64 0] 3) := by
  go_enter Tryd.func10, Tryd.ntmps10
  go_wp2_with fail
  refine (splitSeq_any s p w).mono ?_
  rintro e w' ⟨rfl, rfl⟩
  go_wp2
  go_ret
  exact ⟨rfl, rfl⟩

/-- What a round's body must leave: it goes on, or leaves the function; what is no cells and lies behind the loop's beginning, and the text that is left, lie as they lay. -/
def splitPost (B bS : Nat) (I : List (List UInt8) → World → Prop) (Ix : Unit → World → Prop) (xs : List (List UInt8)) (W : World) : Exit → Act → World → Prop
  | .normal, _, W' => KeepsFrom B W W' ∧ W'.cell? ⟨bS, 0, none⟩ = W.cell? ⟨bS, 0, none⟩ ∧ I xs W'
  | .ret, _, W' => KeepsFrom B W W' ∧ Ix () W'
  | _, _, _ => False

theorem cell_putObj {W : World} {l : Nat} {o : Obj} {b : Nat} (h : b ≠ l) : (W.putObj l o).cell? ⟨b, 0, none⟩ = W.cell? ⟨b, 0, none⟩ := by
  have : (W.putObj l o).heap[b]? = W.heap[b]? := World.putObj_heap_other h
  unfold World.cell?
  simp only [this]

set_option maxHeartbeats 1000000 in
/-- 'for word := range strings.SplitSeq(s, blank)': the loop's body, walked once. -/
theorem wpIn_range_split {g : Operand} {ps : Array Tmp} {assign body : Code} {Q : Exit → Act → World → Prop} {a : Act} {w : World} {n : Nat} (bP bS bV : Nat) (s : ByteArray)
    (hg : a.eval g = .func (.func 30) #[] #[.pointer (some ⟨bP, 0, none⟩), .pointer (some ⟨bS, 0, none⟩), .pointer (some ⟨bV, 0, none⟩)])
    (hps : ps.size = 1) (hb : bS < w.heap.size) (I : List (List UInt8) → World → Prop) (Ix : Unit → World → Prop) (hI : OwnFrom w.heap.size I) (hIx : OwnFrom w.heap.size Ix)
    (hIc : ∀ pre W, I pre W → W.cell? ⟨bP, 0, none⟩ = some (.string ⟨#[32]⟩) ∧ W.cell? ⟨bV, 0, none⟩ = some (.int .i64 0) ∧ W.frozen? ⟨bS, 0, none⟩ = false)
    (hIs : ∀ pre W (v : ByteArray), I pre W → I pre (W.setCell ⟨bS, 0, none⟩ (.string v))) (h0 : I [] w) (hs : w.cell? ⟨bS, 0, none⟩ = some (.string s)) (hlen : s.size ≤ 4611686018427387904)
    (a₁ : ByteArray → Act)
    (hassign : ∀ (l : Nat) (x : ByteArray) (W : World) (K : Act → World → Prop), K (a₁ x) W →
      assign.wpIn (Fence.wide.inRound l) (n - 1 - 1) Tryd.prog (Exit.then K (fun _ _ _ => False)) { tmps := (ps.zip #[.string x]).foldl (fun t (p, v) => t.setIfInBounds p v) a.tmps, defers := [] } W)
    (hbody : ∀ (l : Nat) (pre : List (List UInt8)) (x : ByteArray) (W : World), I pre W → x.size ≤ s.size → (∃ t, splitB s.data.toList = pre ++ x.data.toList :: t) → body.wpIn (Fence.wide.inRound l) (n - 1 - 1) Tryd.prog (splitPost w.heap.size bS I Ix (pre ++ [x.data.toList]) W) (a₁ x) W)
    (hdone : ∀ (D : Nat) (W : World), w.heap.size ≤ D → I (splitB s.data.toList) W → W.heap[D]? = some (.deferred (some [])) → Q .normal { a with defers := { target := .collected D, args := #[] } :: a.defers } W)
    (hstop : ∀ (D : Nat) (W : World), w.heap.size ≤ D → Ix () W → W.heap[D]? = some (.deferred (some [])) → Code.ret.wpIn Fence.wide n Tryd.prog Q { a with defers := { target := .collected D, args := #[] } :: a.defers } W) :
    (Code.rangeFunc g ps assign body).wpIn Fence.wide n Tryd.prog Q a w := by
  refine wpIn_rangeFunc fun fn _ => ?_
  have mk : ∃ rec : LoopState → Option Code → Loop, ∀ st pe, rec st pe = { state := st, pending := pe, fn, tmps := a.tmps, params := ps, assign, body, defers := w.heap.size } := ⟨_, fun _ _ => rfl⟩
  obtain ⟨rec, hrec⟩ := mk
  have hW : ∃ V, V = (w.alloc (.deferred (some []))).alloc (.loop (rec .ready none)) := ⟨_, rfl⟩
  obtain ⟨V, hV⟩ := hW
  have iV : I [] V := by rw [hV]; exact hI.alloc _ (hI.alloc _ h0)
  have dV : V.heap[w.heap.size]? = some (.deferred (some [])) := by
    rw [hV]; exact (Below.heap_alloc _ _ _ (by simp)).trans (World.alloc_heap_new w _)
  have lV : V.heap[w.heap.size + 1]? = some (.loop (rec .ready none)) := by
    rw [hV]; have := World.alloc_heap_new (w.alloc (.deferred (some []))) (.loop (rec .ready none)); rwa [World.size_alloc] at this
  have sV : V.cell? ⟨bS, 0, none⟩ = some (.string s) := by rw [hV]; exact ((below2 w _ _).cell (p := ⟨bS, 0, none⟩) hb).trans hs
  -- a store into the text that is left turns neither of the two blocks that the loop keeps
  have keep : ∀ (W : World) (v : Value) (k : Nat), w.heap.size ≤ k → (W.setCell ⟨bS, 0, none⟩ v).heap[k]? = W.heap[k]? := fun W v k hk => heap_setCell_other W ⟨bS, 0, none⟩ k v (by show k ≠ bS; omega)
  refine ⟨w.heap.size + 1, [{ target := .collected w.heap.size, args := #[] }], V,
    { target := .fn (.func 30) #[.pointer (some ⟨bP, 0, none⟩), .pointer (some ⟨bS, 0, none⟩), .pointer (some ⟨bV, 0, none⟩)], args := #[.func (.yield (w.heap.size + 1)) #[] #[]] }, V, 30,
    #[.func (.yield (w.heap.size + 1)) #[] #[]] ++ #[.pointer (some ⟨bP, 0, none⟩), .pointer (some ⟨bS, 0, none⟩), .pointer (some ⟨bV, 0, none⟩)], V, ?enter, ?resolve, (fun _ _ => trivial), ?invoke, wideDepth, ?calls⟩
  case enter => rw [hV, hrec]; exact run_enterLoop_outer _ _ _ _ _
  case resolve =>
    simp only [resolve, hg]
    simp [go_sem]
  case invoke =>
    have eg : ∀ args w, (callFunc 30 args).run Tryd.prog w = .ok (.enter 30 args) w := enters_of Tryd.func30 (by kernel_rfl) rfl
    simp [invoke, go_sem, eg]
  case calls =>
    refine (split1_in (n - 1) (w.heap.size + 1) bP bS bV
      (fun pre W => I pre W ∧ W.heap[w.heap.size]? = some (.deferred (some [])) ∧ W.heap[w.heap.size + 1]? = some (.loop (rec .ready none)))
      (fun W => Ix () W ∧ W.heap[w.heap.size]? = some (.deferred (some [])) ∧ W.heap[w.heap.size + 1]? = some (.loop (rec .done (some .ret))))
      (fun pre W h => hIc pre W h.1) (fun pre W v h => ⟨hIs pre W v h.1, (keep W _ _ (Nat.le_refl _)).trans h.2.1, (keep W _ _ (Nat.le_succ _)).trans h.2.2⟩) s ?_ V sV ⟨iV, dV, lV⟩ hlen).mono ?_
    · rintro pre x W ⟨hi, hd, hl⟩ hx ht
      have hy := run_yield (P := Tryd.prog) (args := #[.string x]) hl (by rw [hrec]; exact hps.symm)
      rw [hrec] at hy
      refine ⟨fn, _, assign, body, hy, roundIn_of_wpIn trivial (hassign _ x W _ ?_)⟩
      refine ⟨_, run_beginRound hl (by rw [hrec]), ?_⟩
      have hlt := (Array.getElem?_eq_some_iff.1 hl).1
      generalize hU : W.putObj (w.heap.size + 1) (.loop { rec .ready none with state := .busy }) = U
      have lU : U.heap[w.heap.size + 1]? = some (.loop { rec .ready none with state := .busy }) := by rw [← hU]; exact World.putObj_heap_same hlt
      have dU : U.heap[w.heap.size]? = some (.deferred (some [])) := by rw [← hU]; exact (World.putObj_heap_other (by omega)).trans hd
      have cU : U.cell? ⟨bS, 0, none⟩ = W.cell? ⟨bS, 0, none⟩ := by rw [← hU]; exact cell_putObj (by omega)
      have iU : I pre U := by rw [← hU]; exact hI.putObj _ hi (Nat.le_succ _) hl rfl
      refine wpIn_mono (hbody _ pre x U iU hx ht) ?_
      have fin : ∀ (jump : Option Code) (X : World), KeepsFrom w.heap.size U X → ∃ Y, (Instr.endRound (w.heap.size + 1) jump).run Tryd.prog X = .ok (.bool jump.isNone) Y ∧
          Y = X.putObj (w.heap.size + 1) (.loop (rec (if jump.isNone then .ready else .done) jump)) ∧ Y.heap[w.heap.size]? = some (.deferred (some [])) ∧
          Y.heap[w.heap.size + 1]? = some (.loop (rec (if jump.isNone then .ready else .done) jump)) ∧ (∃ o, X.heap[w.heap.size + 1]? = some (.loop o)) := by
        intro jump X hk
        have lX := hk.same _ _ (Nat.le_succ _) lU rfl
        have e := run_endRound (P := Tryd.prog) jump lX
        rw [hrec] at e
        refine ⟨_, e, by rw [hrec], (World.putObj_heap_other (by omega)).trans (hk.same _ _ (Nat.le_refl _) dU rfl), ?_, _, lX⟩
        rw [hrec]
        exact World.putObj_heap_same (Array.getElem?_eq_some_iff.1 lX).1
      rintro e a3 X hp
      cases e with
      | normal =>
        obtain ⟨hk, hc, hi3⟩ := hp
        obtain ⟨Y, hr, hY, d3, l3, o, lX⟩ := fin none X hk
        refine ⟨_, _, hr, .inl ⟨rfl, ⟨?_, d3, l3⟩, ?_⟩⟩
        · rw [hY]; exact hI.putObj _ hi3 (Nat.le_succ _) lX rfl
        · rw [hY, cell_putObj (by omega), hc, cU]
      | ret =>
        obtain ⟨hk, hi3⟩ := hp
        obtain ⟨Y, hr, hY, d3, l3, o, lX⟩ := fin (some .ret) X hk
        refine ⟨_, _, hr, .inr ⟨rfl, ?_, d3, l3⟩⟩
        rw [hY]; exact hIx.putObj _ hi3 (Nat.le_succ _) lX rfl
      | exit id => exact hp.elim
      | goto t => exact hp.elim
      | panic ch => exact hp.elim
      | outgrown => exact hp.elim
    · rintro e W2 ⟨⟨v, rfl⟩, (⟨hi, hd, hl⟩ | ⟨hi, hd, hl⟩)⟩
      · have e := run_endLoop (P := Tryd.prog) hl (by rw [hrec]; simp)
        rw [hrec] at e
        exact ⟨none, _, e, hdone _ _ (Nat.le_refl _) (hI.putObj _ hi (Nat.le_succ _) hl rfl) ((World.putObj_heap_other (by omega)).trans hd)⟩
      · have e := run_endLoop (P := Tryd.prog) hl (by rw [hrec]; simp)
        rw [hrec] at e
        exact ⟨some .ret, _, e, hstop _ _ (Nat.le_refl _) (hIx.putObj _ hi (Nat.le_succ _) hl rfl) ((World.putObj_heap_other (by omega)).trans hd)⟩

end Go.Proofs.YtkmohigbedocgaaDoor
