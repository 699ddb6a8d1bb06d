/- What the document's Print does with right parts. -/
import Derived.Test.YtkmohigbedocgaaDoorText1
import Derived.Deep.DeepCutAuto
namespace Go.Proofs.YtkmohigbedocgaaDoor
open Go.RowKit

theorem join_snoc : ∀ (xs : List (List UInt8)) (y : List UInt8), xs ≠ [] → Lib.join (xs ++ [y]) [32] = Lib.join xs [32] ++ 32 :: y
  | [], _, h => absurd rfl h
  | [x], y, _ => by simp [join_cons2, Lib.join_one]
  | x :: z :: r, y, _ => by
    have ih := join_snoc (z :: r) y (by simp)
    rw [List.cons_append, List.cons_append, join_cons2, join_cons2, ← List.cons_append, ih]
    simp
theorem print_take_succ {l : List P3} {k : Nat} (h : k < l.length) : printB (l.take (k + 1)) = (if k = 0 then [] else printB (l.take k) ++ [32]) ++ wordB l[k] := by
  unfold printB
  rw [take_snoc h, List.map_append, List.map_cons, List.map_nil]
  by_cases hk : k = 0
  · subst hk
    simp [Lib.join_one]
  · rw [if_neg hk, join_snoc _ _ (by
      intro e
      have := congrArg List.length e
      simp only [List.length_map, List.length_take, List.length_nil] at this
      omega)]
    simp
theorem print_len {l : List P3} (hin : ∀ p ∈ l, inB p 3 = true) (k : Nat) (hk : k ≤ 4) : (printB (l.take k)).length ≤ 244 := by
  have := join_short 60 ((l.take k).map wordB) (fun x hx => by
    obtain ⟨p, hp, rfl⟩ := List.mem_map.1 hx
    exact word_short (hin p (List.mem_of_mem_take hp)))
  have h2 : ((l.take k).map wordB).length ≤ 4 := by simp; omega
  unfold printB
  omega

set_option maxRecDepth 20000 in
set_option maxHeartbeats 1000000 in
theorem refPrint_any (a : Option Addr) (l : List P3) (cap n : Nat) (w : World) (hn : n = l.length) (hr : wrong l 3 = 0) (hp : PartsAt w a l) (ht : Tab w) :
    Calls Tryd.prog 9 #[.slice a n cap] w fun e w' => e = .returned (.string ⟨(printB l).toArray⟩) ∧ Below w.heap.size w w' := by
  subst hn
  obtain ⟨h1, h4, hin⟩ := wrong_right hr
  go_enter Tryd.func9, Tryd.ntmps9
  go_wp2
  go_loopw [3, 8] (fun v i w' => ∃ k : Nat, k ≤ l.length ∧ i = .int .i64 k ∧ v = .string ⟨(printB (l.take k)).toArray⟩ ∧ Below w.heap.size w w') (fun _ i _ => l.length - (intOf i).toNat)
  case atStart => exact ⟨0, Nat.zero_le _, rfl, rfl, Below.refl _ _⟩
  case round =>
    obtain ⟨k, hk, rfl, rfl, hbw⟩ := hrel
    have hsz := hbw.size
    by_cases hlt : k < l.length
    · rcases hp with rfl | ⟨b, o, rfl, hb, hc⟩
      · simp at hlt
      have hin1 := hin l[k] (List.getElem_mem hlt)
      have HW : Hid (printB (l.take (k + 1)) = (if k = 0 then [] else printB (l.take k) ++ [32]) ++ (UInt8.ofNat (48 + l[k].1.toNat) :: 46 :: UInt8.ofNat (48 + l[k].2.1.toNat) :: signB l[k].2.2)) := by
        show _ = _
        rw [print_take_succ hlt, word_eq hin1, signB_eq]
      have hlen := print_len hin k (by omega)
      simp only [inB, decide_eq_true_eq] at hin1
      obtain ⟨q1, q2, q3, q4, q5, q6⟩ := hin1
      have htr : Tab wr := ht.below hbw ht.pos
      obtain ⟨d0, d1, d2⟩ := hc k hlt
      obtain ⟨hcc, hff⟩ := bcell hbw
      rw [← hcc _ _ hb] at d0 d1 d2
      clear hc hcc hff
      have hsl := Lib.itoa_length_le l[k].2.2 (by omega) (by omega)
      have HA := itoaD l[k].1 (by omega) (by omega)
      have HB := itoaD l[k].2.1 (by omega) (by omega)
      have HC := itoa_any l[k].2.2 (by omega) (by omega)
      have hq0 : k = 0 → printB (l.take k) = [] := fun e => by subst e; rfl
      generalize printB (l.take k) = q at *
      generalize l[k] = p at *
      obtain ⟨h, y, m⟩ := p
      dsimp only at *
      generalize UInt8.ofNat (48 + h.toNat) = e1 at *
      generalize UInt8.ofNat (48 + y.toNat) = e2 at *
      by_cases hk0 : k = 0
      · rw [if_pos hk0] at HW
        have hkz : ¬ (0 < (k : Int)) := by omega
        obtain ⟨r, hr0⟩ : ∃ r : List UInt8, r = q := ⟨_, rfl⟩
        rw [show ([] : List UInt8) = r by rw [hr0, hq0 hk0]] at HW
        clear hq0 hk0
        have b0 : True := trivial
        rw [← hr0] at hlen ⊢
        clear hr0
        go_wp2_with fail
        have hxb := below1 wr (.cells #[.int .i64 h, .int .i64 y, .int .i64 m] 34)
        have hX := Blk.new wr #[.int .i64 h, .int .i64 y, .int .i64 m] 34
        generalize wr.alloc (.cells #[.int .i64 h, .int .i64 y, .int .i64 m] 34) = X at *
        have x0 : _ = some _ := hX.cell 0
        have x1 : _ = some _ := hX.cell 1
        have x2 : _ = some _ := hX.cell 2
        have htX : Tab X := htr.on hxb
        clear d0 d1 d2 b0
        have b1 : ¬ 9223372036854775807 < r.length + 1 := by omega
        have b2 : ¬ 9223372036854775807 < r.length + 1 + 1 := by omega
        have b3 : ¬ 9223372036854775807 < r.length + 1 + 1 + 1 := by omega
        have b4 : ¬ 9223372036854775807 < r.length + 1 + 1 + 1 + 1 := by omega
        have b6 : ¬ 9223372036854775807 < r.length + 1 + 1 + 1 + (Lib.itoa m).length := by omega
        have b7 : ¬ 9223372036854775807 < r.length + 1 + 1 + 1 + 1 + (Lib.itoa m).length := by omega
        go_quiet (
          first
          | (go_at_call 14; exact Calls.quiet_of_same (HA _))
          | (go_at_call 14; exact Calls.quiet_of_same (HB _)))
        have hN : Blk (X.drewN nq) wr.heap.size #[.int .i64 h, .int .i64 y, .int .i64 m] 34 := hX
        have hxb2 : Below wr.heap.size wr (X.drewN nq) := below_drewN hxb _
        clear x0 x1 x2 hX hxb htX HA HB b1 b2 b3
        generalize X.drewN nq = Y at *
        have x2 : _ = some _ := hN.cell 2
        have htY : Tab Y := htr.on hxb2
        have hBY : Below w.heap.size w Y := hbw.trans (hxb2.mono hsz)
        rw [show (⟨r.toArray⟩ : ByteArray) ++ (⟨#[e1]⟩ : ByteArray) ++ (⟨#[46]⟩ : ByteArray) ++ (⟨#[e2]⟩ : ByteArray) = ⟨(r ++ [e1] ++ [46] ++ [e2]).toArray⟩ by rw [← bytes_app, ← bytes_app, ← bytes_app]]
        have hl3 : (r ++ [e1] ++ [46] ++ [e2]).length = r.length + 3 := by simp
        have HW2 : Hid (printB (l.take (k + 1)) = (r ++ [e1] ++ [46] ++ [e2]) ++ signB m) := by
          show _ = _
          rw [HW.out]; simp
        clear HW b4 b6 b7
        generalize r ++ [e1] ++ [46] ++ [e2] = r3 at *
        have b1 : ¬ 9223372036854775807 < r3.length + 1 := by omega
        have b2 : ¬ 9223372036854775807 < r3.length + 1 + (Lib.itoa m).length := by omega
        have b3 : ¬ 9223372036854775807 < r3.length + (Lib.itoa m).length := by omega
        clear hl3
        by_cases hm : m < 0
        · go_wp2_with fail
          refine (HC Y htY).mono ?_
          rintro e w2 ⟨rfl, hb2⟩
          go_wp2
          go_roundw
          case rel =>
            refine ⟨k + 1, by omega, by go_num, ?_, hBY.trans (hb2.mono hBY.size)⟩
            rw [bytes_app, HW2.out]
            unfold signB
            rw [if_pos hm]
          case measure => simp [intOf]; omega
        · go_wp2_with fail
          refine (HC Y htY).mono ?_
          rintro e w2 ⟨rfl, hb2⟩
          go_wp2
          go_roundw
          case rel =>
            refine ⟨k + 1, by omega, by go_num, ?_, hBY.trans (hb2.mono hBY.size)⟩
            rw [show (⟨r3.toArray⟩ : ByteArray) ++ (⟨#[43]⟩ : ByteArray) = ⟨(r3 ++ [43]).toArray⟩ from bytes_app r3 [43], bytes_app, HW2.out]
            unfold signB
            rw [if_neg (by omega)]
            simp
          case measure => simp [intOf]; omega
      · rw [if_neg hk0] at HW
        have hkz : (0 < (k : Int)) := by omega
        have b0 : ¬ 9223372036854775807 < q.length + 1 := by omega
        clear hq0
        go_wp2_with fail
        rw [show (⟨q.toArray⟩ : ByteArray) ++ (⟨#[32]⟩ : ByteArray) = ⟨(q ++ [32]).toArray⟩ from bytes_app q [32]]
        have hlen2 : (q ++ [32]).length ≤ 245 := by simp; omega
        generalize q ++ [32] = r at *
        have hxb := below1 wr (.cells #[.int .i64 h, .int .i64 y, .int .i64 m] 34)
        have hX := Blk.new wr #[.int .i64 h, .int .i64 y, .int .i64 m] 34
        generalize wr.alloc (.cells #[.int .i64 h, .int .i64 y, .int .i64 m] 34) = X at *
        have x0 : _ = some _ := hX.cell 0
        have x1 : _ = some _ := hX.cell 1
        have x2 : _ = some _ := hX.cell 2
        have htX : Tab X := htr.on hxb
        clear d0 d1 d2 b0
        have b1 : ¬ 9223372036854775807 < r.length + 1 := by omega
        have b2 : ¬ 9223372036854775807 < r.length + 1 + 1 := by omega
        have b3 : ¬ 9223372036854775807 < r.length + 1 + 1 + 1 := by omega
        have b4 : ¬ 9223372036854775807 < r.length + 1 + 1 + 1 + 1 := by omega
        have b6 : ¬ 9223372036854775807 < r.length + 1 + 1 + 1 + (Lib.itoa m).length := by omega
        have b7 : ¬ 9223372036854775807 < r.length + 1 + 1 + 1 + 1 + (Lib.itoa m).length := by omega
        go_quiet (
          first
          | (go_at_call 14; exact Calls.quiet_of_same (HA _))
          | (go_at_call 14; exact Calls.quiet_of_same (HB _)))
        have hN : Blk (X.drewN nq) wr.heap.size #[.int .i64 h, .int .i64 y, .int .i64 m] 34 := hX
        have hxb2 : Below wr.heap.size wr (X.drewN nq) := below_drewN hxb _
        clear x0 x1 x2 hX hxb htX HA HB b1 b2 b3
        generalize X.drewN nq = Y at *
        have x2 : _ = some _ := hN.cell 2
        have htY : Tab Y := htr.on hxb2
        have hBY : Below w.heap.size w Y := hbw.trans (hxb2.mono hsz)
        rw [show (⟨r.toArray⟩ : ByteArray) ++ (⟨#[e1]⟩ : ByteArray) ++ (⟨#[46]⟩ : ByteArray) ++ (⟨#[e2]⟩ : ByteArray) = ⟨(r ++ [e1] ++ [46] ++ [e2]).toArray⟩ by rw [← bytes_app, ← bytes_app, ← bytes_app]]
        have hl3 : (r ++ [e1] ++ [46] ++ [e2]).length = r.length + 3 := by simp
        have HW2 : Hid (printB (l.take (k + 1)) = (r ++ [e1] ++ [46] ++ [e2]) ++ signB m) := by
          show _ = _
          rw [HW.out]; simp
        clear HW b4 b6 b7
        generalize r ++ [e1] ++ [46] ++ [e2] = r3 at *
        have b1 : ¬ 9223372036854775807 < r3.length + 1 := by omega
        have b2 : ¬ 9223372036854775807 < r3.length + 1 + (Lib.itoa m).length := by omega
        have b3 : ¬ 9223372036854775807 < r3.length + (Lib.itoa m).length := by omega
        clear hl3
        by_cases hm : m < 0
        · go_wp2_with fail
          refine (HC Y htY).mono ?_
          rintro e w2 ⟨rfl, hb2⟩
          go_wp2
          go_roundw
          case rel =>
            refine ⟨k + 1, by omega, by go_num, ?_, hBY.trans (hb2.mono hBY.size)⟩
            rw [bytes_app, HW2.out]
            unfold signB
            rw [if_pos hm]
          case measure => simp [intOf]; omega
        · go_wp2_with fail
          refine (HC Y htY).mono ?_
          rintro e w2 ⟨rfl, hb2⟩
          go_wp2
          go_roundw
          case rel =>
            refine ⟨k + 1, by omega, by go_num, ?_, hBY.trans (hb2.mono hBY.size)⟩
            rw [show (⟨r3.toArray⟩ : ByteArray) ++ (⟨#[43]⟩ : ByteArray) = ⟨(r3 ++ [43]).toArray⟩ from bytes_app r3 [43], bytes_app, HW2.out]
            unfold signB
            rw [if_neg (by omega)]
            simp
          case measure => simp [intOf]; omega
    · have hkl : k = l.length := by omega
      subst hkl
      rw [List.take_length]
      clear hp hin
      go_wp2
      go_ret
      exact ⟨rfl, hbw⟩

end Go.Proofs.YtkmohigbedocgaaDoor
