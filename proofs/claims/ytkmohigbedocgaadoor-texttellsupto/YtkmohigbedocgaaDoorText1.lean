/- What text.signed and text.Print do with right parts. -/
import Derived.Test.YtkmohigbedocgaaDoorKeep
import Derived.Test.YtkmohigbedocgaaDoorText0
import Derived.Test.YtkmohigbedocgaaDoorShelf
import Derived.Test.YtkmohigbedocgaaDoorOwnP
import Derived.Lib.AppendIntMem
import Derived.Lib.ItoaLen
namespace Go.Proofs.YtkmohigbedocgaaDoor
open Go.RowKit

/-- The table of tens lies where it must. -/
def Tab (w : World) : Prop := Lib.TabIs Tryd.prog w "internal/strconv.uint64pow10" .u64 Lib.pow10Tab
theorem globTab : Tryd.prog.globalNamed "internal/strconv.uint64pow10" = some 5 := by kernel_rfl
theorem Tab.block {w w' : World} (h : Tab w) (hb : w'.heap[5]? = w.heap[5]?) : Tab w' := by
  unfold Tab Lib.TabIs World.var? at *
  rw [globTab] at h ⊢
  simp only [Option.bind_some] at h ⊢
  rw [hb]; exact h
theorem Tab.pos {w : World} (h : Tab w) : 5 < w.heap.size := by
  rcases Nat.lt_or_ge 5 w.heap.size with h' | h'
  · exact h'
  · unfold Tab Lib.TabIs World.var? at h
    rw [globTab] at h
    simp only [Option.bind_some] at h
    rw [Array.getElem?_eq_none h'] at h
    cases h
theorem Tab.below {w w' : World} {n : Nat} (h : Tab w) (hb : Below n w w') (hn : 5 < n) : Tab w' := h.block (hb.block 5 hn)

theorem Tab.on {w w' : World} (h : Tab w) (hb : Below w.heap.size w w') : Tab w' := h.below hb h.pos

theorem bytes_app (a b : List UInt8) : (⟨a.toArray⟩ : ByteArray) ++ (⟨b.toArray⟩ : ByteArray) = ⟨(a ++ b).toArray⟩ := by
  apply ByteArray.ext
  simp
theorem itoa_any (n : Int) (h0 : -9223372036854775808 ≤ n) (h1 : n ≤ 9223372036854775807) (w : World) (ht : Tab w) :
    Calls Tryd.prog 14 #[.int .i64 n] w fun e w' => e = .returned (.string ⟨(Lib.itoa n).toArray⟩) ∧ Below w.heap.size w w' := by
  refine (Tryd.strconv_Itoa n h0 h1 w ht).mono ?_
  rintro e w' ⟨rfl, k, os, rfl⟩
  exact ⟨rfl, Lib.below_grow _ _ (Nat.le_refl _) _ _⟩

theorem signed_any (n : Int) (h0 : -9223372036854775808 ≤ n) (h1 : n ≤ 9223372036854775807) (w : World) (ht : Tab w) :
    Calls Tryd.prog 15 #[.int .i64 n] w fun e w' => e = .returned (.string ⟨(signB n).toArray⟩) ∧ Below w.heap.size w w' := by
  go_enter Tryd.func15, Tryd.ntmps15
  by_cases hn : n < 0
  · go_wp2_with fail
    refine (itoa_any n (by omega) (by omega) w ht).mono ?_
    rintro e w1 ⟨rfl, hb⟩
    go_wp2
    go_ret
    refine ⟨?_, hb⟩
    unfold signB
    rw [if_pos hn]
    rfl
  · have hlen : ¬ 9223372036854775807 < 1 + (Lib.itoa n).length := by have := Lib.itoa_length_le n (by omega) (by omega); omega
    go_wp2_with fail
    refine (itoa_any n (by omega) (by omega) w ht).mono ?_
    rintro e w1 ⟨rfl, hb⟩
    go_wp2
    go_ret
    refine ⟨?_, hb⟩
    unfold signB
    rw [if_neg (by omega)]
    exact congrArg (fun x => Ending.returned (.string x)) (bytes_app [43] _)

/-- The value v owns these texts. -/
def strV (x : List UInt8) : Value := .string ⟨x.toArray⟩
def OwnS (w : World) (base : Nat) (v : Value) (xs : List (List UInt8)) : Prop := w.ownsRow base 9 1 v xs.length (xs.map strV)
theorem OwnS.below {w w' : World} {base : Nat} {v : Value} {xs : List (List UInt8)} (h : OwnS w base v xs) {B : Nat} (hb : Below B w w') (hB : w.heap.size ≤ B) : OwnS w' base v xs := ownsRow_below h hb hB
theorem infoString : (Tryd.prog.info? 9).map (fun i => (i.zero, i.size, i.bytes)) = some (some (.string ⟨#[]⟩), 1, 16) := by kernel_rfl

theorem str_list (y : ByteArray) : strV y.data.toList = .string y := rfl
/-- 'append(v, y)' within a statement that draws its order, where v is owned and y lies in a block of its own. -/
theorem step_append_str {ops : Array Oper} {o : Oper} {a : Act} {K : Act → World → Prop} {Q : Exit → Act → World → Prop} {E : Prop} (w : World) (hgd : o.guard = none) (s x : Operand)
    (ho : o.op = .call { callee := .builtin .append, args := #[s, x], argTypes := #[44, 44] })
    (base : Nat) (v : Value) (xs : List (List UInt8)) (hs : a.eval s = v) (hown : OwnS w base v xs) (B : Nat) (y : ByteArray) (hx : a.eval x = .slice (some ⟨B, 0, none⟩) 1 1)
    (hB : w.heap[B]? = some (.cells #[.string y] 9)) (hl : xs.length ≤ 1000000) (hbase : base ≤ w.heap.size)
    (h : ∀ g cap w', OwnS w' base (.slice (some ⟨g, 0, none⟩) (xs.length + 1) cap) (xs ++ [y.data.toList]) → w.grownBy w' v.ownBlock → K (a.put o.dst (.slice (some ⟨g, 0, none⟩) (xs.length + 1) cap)) w') :
    if Region.wanted o (yielded ops a.tmps) = true then Oper.wp Tryd.prog o a w K Q else E := by
  obtain ⟨i0, hi, hz0, hz1, hz2⟩ := info_parts infoString
  refine step_append_lies w hgd s x 44 ho base 9 i0 _ 1 16 Tryd.underlying44 hi hz0 hz1 hz2 rfl (by decide) v xs.length (xs.map strV) hs hown ⟨B, 0, none⟩ 1 1 [.string y] hx rfl (World.news_of_block hB) ?_ (by decide) (by unfold maxLen; omega) (by omega) hbase w.heap.size rfl ?_
  · intro u hu
    simp at hu
    subst hu
    rfl
  · intro g cap w' h1 h2 _ _
    refine h g cap w' ?_ h2
    unfold OwnS
    rw [List.map_append]
    simpa [str_list] using h1

theorem ownsRow_lt {w : World} {base : Nat} {e : TypeId} {size : Nat} {v : Value} {n : Nat} {xs : List Value} (h : w.ownsRow base e size v n xs) {g : Nat} (hg : v.ownBlock = some g) : base ≤ g ∧ g < w.heap.size := by
  rcases h.2 with ⟨rfl, _⟩ | ⟨g', cap, cur, rfl, hb, hh, _⟩
  · cases hg
  · simp [Value.ownBlock] at hg
    subst hg
    exact ⟨hb, (Array.getElem?_eq_some_iff.1 hh).1⟩

theorem OwnS.form {w : World} {base : Nat} {v : Value} {xs : List (List UInt8)} (h : OwnS w base v xs) (hne : 0 < xs.length) :
    ∃ g cap, v = .slice (some ⟨g, 0, none⟩) xs.length cap ∧ g < w.heap.size ∧ xs.length ≤ cap ∧ ∀ (j : Nat) x, (xs.map fun x => (⟨x.toArray⟩ : ByteArray))[j]? = some x → w.cell? ⟨g, 0 + j, none⟩ = some (.string x) := by
  rcases h.2 with ⟨_, h0⟩ | ⟨g, cap, cur, hv, hg, hh, hcap, _, hsz, htake⟩
  · omega
  · refine ⟨g, cap, hv, (Array.getElem?_eq_some_iff.1 hh).1, hcap, fun j x hj => ?_⟩
    rw [Nat.zero_add, cell_of_row w g j cur _ _ hh]
    rw [List.getElem?_map, Option.map_eq_some_iff] at hj
    obtain ⟨y, hy, rfl⟩ := hj
    have hlt : j < xs.length := (List.getElem?_eq_some_iff.1 hy).1
    have h1 : (cur.toList.take (xs.length * 1))[j]? = some (strV y) := by rw [htake, List.getElem?_map, hy]; rfl
    rw [List.getElem?_take_of_lt (by omega)] at h1
    simpa [strV] using h1
theorem join_short (n : Nat) : ∀ (xs : List (List UInt8)), (∀ x ∈ xs, x.length ≤ n) → (Lib.join xs [32]).length ≤ (n + 1) * xs.length
  | [], _ => by simp [Lib.join_nil]
  | [x], h => by rw [Lib.join_one]; have := h x (by simp); simp; omega
  | x :: y :: r, h => by
    have ih := join_short n (y :: r) (fun z hz => h z (by simp at hz ⊢; right; exact hz))
    have hx := h x (by simp)
    rw [join_cons2]
    simp only [List.length_append, List.length_cons] at ih ⊢
    have e : (n + 1) * (r.length + 1 + 1) = (n + 1) * (r.length + 1) + (n + 1) := Nat.mul_succ _ _
    rw [e]
    generalize (n + 1) * (r.length + 1) = q at *
    omega
theorem word_short {p : P3} (h : inB p 3 = true) : (wordB p).length ≤ 60 := by
  simp only [inB, decide_eq_true_eq] at h
  have h1 := Lib.itoa_length_le p.1 (by omega) (by omega)
  have h2 := Lib.itoa_length_le p.2.1 (by omega) (by omega)
  have h3 := Lib.itoa_length_le p.2.2 (by omega) (by omega)
  have h4 : (signB p.2.2).length ≤ 22 := by unfold signB; split <;> (try simp only [List.length_cons]) <;> omega
  simp only [wordB, List.length_append, List.length_cons, List.length_nil]
  have h5 : (Lib.itoa p.1).length = 1 := by rw [itoa_small (by omega) (by omega)]; rfl
  omega
theorem map_data (xs : List (List UInt8)) : (xs.map fun x => (⟨x.toArray⟩ : ByteArray)).map (·.data.toList) = xs := by
  rw [List.map_map]
  induction xs with
  | nil => rfl
  | cons x t ih => simp only [List.map_cons, ih]; simp

theorem itoaD (n : Int) (h0 : 0 ≤ n) (h1 : n < 10) (w : World) :
    Calls Tryd.prog 14 #[.int .i64 n] w fun e w' => e = .returned (.string ⟨#[UInt8.ofNat (48 + n.toNat)]⟩) ∧ w' = w := by
  obtain ⟨k, rfl⟩ := Int.eq_ofNat_of_zero_le h0
  refine (Tryd.strconv_Itoa_small k (by omega) w).mono ?_
  rintro e w' ⟨rfl, rfl⟩
  refine ⟨?_, rfl⟩
  rw [Lib.decDigits_one (by omega)]
  rfl

set_option maxRecDepth 20000 in
set_option maxHeartbeats 1000000 in
theorem print_any (a : Option Addr) (l : List P3) (cap n : Nat) (w : World) (hn : n = l.length) (hr : wrong l 3 = 0) (hp : PartsAt w a l) (ht : Tab w) :
    Calls Tryd.prog 8 #[.slice a n cap] w fun e w' => e = .returned (.string ⟨(printB l).toArray⟩) ∧ Below w.heap.size w w' := by
  subst hn
  obtain ⟨h1, h4, hin⟩ := wrong_right hr
  obtain ⟨i0, hi, hz0, hz1, hz2⟩ := info_parts infoString
  go_enter Tryd.func8, Tryd.ntmps8
  go_wp2_with (at_make; refine wpList_make_own _ rfl _ _ 44 rfl w.heap.size 9 i0 (.string ⟨#[]⟩) 1 Tryd.underlying44 hi hz0 hz1 .i64 .i64 _ l.length rfl rfl rfl (by rw [hz2]; omega) (by unfold maxLen; omega) (Nat.le_refl _) ?_; intro w0 hown0 hgrow0)
  have hb0 : Below w.heap.size w w0 := (Below.refl _ _).grown hgrow0 (Nat.le_refl _) (fun k e => by cases e)
  go_loopw [3, 11] (fun v i w' => ∃ k : Nat, k ≤ l.length ∧ i = .int .i64 k ∧ OwnS w' w.heap.size v ((l.take k).map wordB) ∧ Below w.heap.size w w') (fun _ i _ => l.length - (intOf i).toNat)
  case atStart => exact ⟨0, Nat.zero_le _, rfl, hown0, hb0⟩
  case round =>
    obtain ⟨k, hk, rfl, hown, hbw⟩ := hrel
    have hsz := hbw.size
    by_cases hlt : k < l.length
    · rcases hp with rfl | ⟨b, o, rfl, hb, hc⟩
      · simp at hlt
      have hin1 := hin l[k] (List.getElem_mem hlt)
      simp only [inB, decide_eq_true_eq] at hin1
      obtain ⟨q1, q2, q3, q4, q5, q6⟩ := hin1
      have htr : Tab wr := ht.below hbw ht.pos
      obtain ⟨d0, d1, d2⟩ := hc k hlt
      obtain ⟨hcc, hff⟩ := bcell hbw
      rw [← hcc _ _ hb] at d0 d1 d2
      clear hc hcc hff
      have HL : Hid (l.take (k + 1) = l.take k ++ [l[k]]) := take_snoc hlt
      have HW : Hid (wordB l[k] = UInt8.ofNat (48 + l[k].1.toNat) :: 46 :: UInt8.ofNat (48 + l[k].2.1.toNat) :: signB l[k].2.2) := by
        show _ = _
        rw [word_eq (hin l[k] (List.getElem_mem hlt)), signB_eq]
      have hsl : (signB l[k].2.2).length ≤ 22 := by
        have := Lib.itoa_length_le l[k].2.2 (by omega) (by omega)
        unfold signB; split <;> (try simp only [List.length_cons]) <;> omega
      have HA := itoaD l[k].1 (by omega) (by omega)
      have HB := itoaD l[k].2.1 (by omega) (by omega)
      have HC := signed_any l[k].2.2 (by omega) (by omega)
      generalize l[k] = p at *
      obtain ⟨h, y, m⟩ := p
      dsimp only at *
      generalize UInt8.ofNat (48 + h.toNat) = c1 at *
      generalize UInt8.ofNat (48 + y.toNat) = c2 at *
      generalize signB m = sg at *
      have hl3 : ¬ 9223372036854775807 < 3 + sg.length := by omega
      have hl2 : ¬ 9223372036854775807 < 2 + sg.length := by omega
      go_wp2_with fail
      have HX : Hid (∀ w', Below (wr.heap.size + 1) (wr.alloc (.cells #[.int .i64 h, .int .i64 y, .int .i64 m] 34)) w' → w'.cell? ⟨wr.heap.size, 0, none⟩ = some (.int .i64 h) ∧ w'.cell? ⟨wr.heap.size, 1, none⟩ = some (.int .i64 y) ∧ w'.cell? ⟨wr.heap.size, 2, none⟩ = some (.int .i64 m)) := by
        show ∀ w', _
        intro w' hb'
        have := (Blk.new wr #[.int .i64 h, .int .i64 y, .int .i64 m] 34).below hb' (by omega)
        exact ⟨this.cell 0, this.cell 1, this.cell 2⟩
      have HY : Hid (∀ w' : World, w'.heap[wr.heap.size]? = (wr.alloc (.cells #[.int .i64 h, .int .i64 y, .int .i64 m] 34)).heap[wr.heap.size]? → w'.cell? ⟨wr.heap.size, 0, none⟩ = some (.int .i64 h) ∧ w'.cell? ⟨wr.heap.size, 1, none⟩ = some (.int .i64 y) ∧ w'.cell? ⟨wr.heap.size, 2, none⟩ = some (.int .i64 m)) := by
        show ∀ w' : World, _
        intro w' hb'
        have : Blk w' wr.heap.size #[.int .i64 h, .int .i64 y, .int .i64 m] 34 := hb'.trans (Blk.new wr #[.int .i64 h, .int .i64 y, .int .i64 m] 34)
        exact ⟨this.cell 0, this.cell 1, this.cell 2⟩
      have hXs : (wr.alloc (.cells #[.int .i64 h, .int .i64 y, .int .i64 m] 34)).heap.size = wr.heap.size + 1 := by simp
      have hbX := below1 wr (.cells #[.int .i64 h, .int .i64 y, .int .i64 m] 34)
      generalize (wr.alloc (.cells #[.int .i64 h, .int .i64 y, .int .i64 m] 34)) = X at *
      have htX : Tab X.drew := (htr.below hbX htr.pos).block rfl
      have hX0 : Below (wr.heap.size + 1) X X.drew := (Below.refl _ _).drew
      clear d0 d1 d2
      go_region_held3 (fun w' => w'.cell? ⟨wr.heap.size, 0, none⟩ = some (.int .i64 h) ∧ w'.cell? ⟨wr.heap.size, 1, none⟩ = some (.int .i64 y) ∧ w'.cell? ⟨wr.heap.size, 2, none⟩ = some (.int .i64 m)) (
        first
        | exact HX.out _ (Below.refl _ _)
        | exact HX.out _ hX0
        | exact HX.out _ hB1
        | exact HX.out _ (hB1.alloc hs1 _)
        | exact HY.out _ hK3) (
        first
        | (go_at_call 14; refine (HA _).mono ?_; rintro e w2 ⟨rfl, rfl⟩)
        | (go_at_call 14; refine (HB _).mono ?_; rintro e w2 ⟨rfl, rfl⟩)
        | (go_at_call 15; refine (HC _ htX).mono ?_; rintro e w1 ⟨rfl, hb1⟩; have hB1 : Below (wr.heap.size + 1) X w1 := hX0.trans (hb1.mono (by simp; omega)); have hs1 : wr.heap.size + 1 ≤ w1.heap.size := Nat.le_trans (Nat.le_of_eq hXs.symm) hB1.size)
        | (refine step_append_str _ rfl (.tmp 15) (.tmp 28) rfl w.heap.size u3 ((l.take k).map wordB) rfl (by exact hown.below ((hbX.trans (hB1.mono (Nat.le_succ _))).alloc (by omega) _) (Nat.le_refl _)) w1.heap.size _ rfl (heap_alloc_new w1 _) (by simp; omega) (by simp; omega) ?_; intro g3 c3 w3 ho3 hg3; have hK3 : w3.heap[wr.heap.size]? = X.heap[wr.heap.size]? := (hg3.block _ (by simp; omega) (fun e => by have := ownsRow_lt hown e.symm; omega)).trans ((hB1.alloc hs1 _).block _ (by omega))))
      have hB3 : Below w.heap.size w w3 := (hbw.trans ((hbX.trans ((hB1.alloc hs1 _).mono (by omega))).mono hsz)).grown hg3 (by simp; omega) (fun q e => (ownsRow_lt hown e.symm.symm).1)
      have ho4 : OwnS w3 w.heap.size (.slice (some ⟨g3, 0, none⟩) (k + 1) c3) ((l.take (k + 1)).map wordB) := by
        have e1 : (l.take (k + 1)).map wordB = (l.take k).map wordB ++ [(⟨#[c1]⟩ ++ ⟨#[46]⟩ ++ ⟨#[c2]⟩ ++ ⟨sg.toArray⟩ : ByteArray).data.toList] := by
          rw [HL.out, List.map_append, List.map_cons, List.map_nil, HW.out]
          simp
        rw [e1]
        have e2 : ((l.take k).map wordB).length + 1 = k + 1 := by simp; omega
        rw [← e2]
        exact ho3
      clear hown ho3 HX HY HA HB HC
      go_wp2
      go_roundw
      case rel => exact ⟨k + 1, by omega, by go_num, ho4, hB3⟩
      case measure => simp [intOf]; omega
    · have hkl : k = l.length := by omega
      subst hkl
      rw [List.take_length] at hown
      obtain ⟨g, cg, rfl, hg, hcg, hcells⟩ := hown.form (by simp; omega)
      have HJ : Hid (∀ (j : Nat) x, ((l.map wordB).map fun x => (⟨x.toArray⟩ : ByteArray))[j]? = some x → wr.cell? ⟨g, 0 + j, none⟩ = some (.string x)) := hcells
      have hjl : (Lib.join (l.map wordB) [32]).length ≤ 140737488355328 := by
        have := join_short 60 (l.map wordB) (fun x hx => by
          obtain ⟨p, hp, rfl⟩ := List.mem_map.1 hx
          exact word_short (hin p hp))
        simp only [List.length_map] at this
        omega
      have hJ := Tryd.strings_Join g 0 cg ((l.map wordB).map fun x => (⟨x.toArray⟩ : ByteArray)) ⟨#[32]⟩ wr HJ.out hg (by simp; omega) (by simpa using hcg) (by rw [map_data]; exact hjl)
      rw [map_data] at hJ
      simp only [List.length_map] at hJ hcg
      clear hown hcells HJ hin hp
      simp only [List.length_map]
      go_wp2_with fail
      refine hJ.mono ?_
      rintro e w2 ⟨rfl, hb2⟩
      go_wp2
      go_ret
      exact ⟨rfl, hbw.trans (hb2.mono hsz)⟩

end Go.Proofs.YtkmohigbedocgaaDoor
