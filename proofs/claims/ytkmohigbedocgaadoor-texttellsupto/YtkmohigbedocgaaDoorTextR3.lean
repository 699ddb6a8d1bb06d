/- What the document's Parse does with a text that is not too long: the walk. -/
import Derived.Test.YtkmohigbedocgaaDoorTextR2
import Derived.Test.YtkmohigbedocgaaDoorText4
import Derived.Deep.CutRange
import Derived.Deep.DeepCutAuto
import Derived.Deep.RegionHeld3
import Derived.Deep.DrawnRows
namespace Go.Proofs.YtkmohigbedocgaaDoor
open Go.RowKit

attribute [local go_sem] bidx

theorem Errs.on' {w w' : World} (h : Errs w) (hb : Below w.heap.size w w') : Errs w' := h.on hb
theorem noblank_take {L : List UInt8} {f k : Nat} (hno : ∀ j, f ≤ j → j < k → L[j]? ≠ some 32) : ∀ c ∈ (L.drop f).take (k - f), c ≠ 32 := by
  intro c hc e
  subst e
  obtain ⟨j, hj⟩ := List.getElem?_of_mem hc
  rw [List.getElem?_take] at hj
  split at hj
  · rw [List.getElem?_drop] at hj
    exact hno (f + j) (by omega) (by omega) hj
  · cases hj
theorem split_end {L : List UInt8} {f k : Nat} (hk : k = L.length) (hno : ∀ j, f ≤ j → j < k → L[j]? ≠ some 32) : splitB (L.drop f) = [(L.drop f).take (k - f)] := by
  have h1 := noblank_take hno
  have h2 : (L.drop f).take (k - f) = L.drop f := List.take_of_length_le (by simp; omega)
  rw [h2] at h1 ⊢
  exact splitB_last _ h1
theorem split_blank {L : List UInt8} {f k : Nat} (hf : f ≤ k) (hk : L[k]? = some 32) (hno : ∀ j, f ≤ j → j < k → L[j]? ≠ some 32) : splitB (L.drop f) = (L.drop f).take (k - f) :: splitB (L.drop (k + 1)) := by
  have h1 := noblank_take hno
  have hlt : k < L.length := (List.getElem?_eq_some_iff.1 hk).1
  have h2 : L.drop f = (L.drop f).take (k - f) ++ 32 :: L.drop (k + 1) := by
    have e1 : (L.drop f).drop (k - f) = 32 :: L.drop (k + 1) := by
      rw [List.drop_drop, show f + (k - f) = k by omega, List.drop_eq_getElem_cons hlt]
      congr 1
      exact (List.getElem?_eq_some_iff.1 hk).2
    rw [← e1, List.take_append_drop]
  conv => lhs; rw [h2]
  exact splitB_cut _ _ h1

/-- 'append(v, p)' within a statement that draws its order. -/
theorem step_append_part {ops : Array Oper} {o : Oper} {a : Act} {K : Act → World → Prop} {Q : Exit → Act → World → Prop} {E : Prop} (w : World) (hgd : o.guard = none) (s x : Operand)
    (ho : o.op = .call { callee := .builtin .append, args := #[s, x], argTypes := #[22, 22] })
    (base : Nat) (v : Value) (l : List P3) (hs : a.eval s = v) (hown : OwnP w base v l) (B : Nat) (p : P3) (hx : a.eval x = .slice (some ⟨B, 0, none⟩) 1 1)
    (hB : w.heap[B]? = some (.cells #[.int .i64 p.1, .int .i64 p.2.1, .int .i64 p.2.2] 34)) (hl : l.length ≤ 1000000000) (hbase : base ≤ w.heap.size)
    (h : ∀ g cap w', OwnP w' base (.slice (some ⟨g, 0, none⟩) (l.length + 1) cap) (l ++ [p]) → w.grownBy w' v.ownBlock → K (a.put o.dst (.slice (some ⟨g, 0, none⟩) (l.length + 1) cap)) w') :
    if Region.wanted o (yielded ops a.tmps) = true then Oper.wp Tryd.prog o a w K Q else E := by
  obtain ⟨i0, hi, hz0, hz1, hz2⟩ := info_parts infoPart
  refine step_append_lies w hgd s x 22 ho base 34 i0 _ 3 24 Tryd.underlying22 hi hz0 hz1 hz2 rfl (by decide) v l.length (cells3 l) hs hown ⟨B, 0, none⟩ 1 1 [.int .i64 p.1, .int .i64 p.2.1, .int .i64 p.2.2] hx rfl (World.news_of_block hB) ?_ (by decide) (by unfold maxLen; omega) (by omega) hbase w.heap.size rfl ?_
  · intro u hu
    simp at hu
    rcases hu with rfl | rfl | rfl <;> rfl
  · intro g cap w' h1 h2 _ _
    refine h g cap w' ?_ h2
    unfold OwnP
    rw [cells3_snoc]
    simpa using h1

theorem five {x : List UInt8} (h : ¬ x.length < 5) : ∃ a b c d e t, x = a :: b :: c :: d :: e :: t := by
  match x, h with
  | a :: b :: c :: d :: e :: t, _ => exact ⟨a, b, c, d, e, t, rfl⟩
  | [], h => exact absurd (by simp) h
  | [_], h => exact absurd (by simp) h
  | [_, _], h => exact absurd (by simp) h
  | [_, _, _], h => exact absurd (by simp) h
  | [_, _, _, _], h => exact absurd (by simp) h

/-- Where the document's Parse stands, between two bytes. -/
def RInv (L : List UInt8) (pre : List (List UInt8)) (k f : Nat) : Prop :=
  (f ≤ k ∧ k ≤ L.length ∧ splitB L = pre ++ splitB (L.drop f) ∧ ∀ j, f ≤ j → j < k → L[j]? ≠ some 32) ∨ (k = L.length + 1 ∧ f = L.length + 1 ∧ splitB L = pre)

set_option maxRecDepth 20000 in
set_option maxHeartbeats 20000000 in
theorem refParse_any (L : List UInt8) (w : World) (hl : L.length ≤ 100000000) (ht : Tab w) (he : Errs w) :
    Calls Tryd.prog 5 #[.string ⟨L.toArray⟩] w fun e w' => ∃ v, e = .returned (parseV v (refParseB L).1) ∧ OwnP w' w.heap.size v (refParseB L).2 ∧ Below w.heap.size w w' := by
  obtain ⟨res, hres⟩ : ∃ res, res = refParseB L := ⟨_, rfl⟩
  rw [← hres]
  have HP : Hid (res = refParseB L) := hres
  clear hres
  go_enter Tryd.func5, Tryd.ntmps5
  go_wp2
  go_loopw [4, 5, 15] (fun v fr i w' => ∃ (k f : Nat) (pre : List (List UInt8)) (ps : List P3), i = .int .i64 k ∧ fr = .int .i64 f ∧ Hid (RInv L pre k f) ∧ Hid (refAll pre = some ps) ∧ OwnP w' w.heap.size v ps ∧ Below w.heap.size w w') (fun _ _ i _ => L.length + 1 - (intOf i).toNat)
  case atStart => exact ⟨0, 0, [], [], rfl, rfl, Or.inl ⟨Nat.le_refl _, Nat.zero_le _, rfl, fun j _ h => absurd h (by omega)⟩, (rfl : refAll [] = some []), World.ownsRow_nil _ _ _ _, Below.refl _ _⟩
  case round =>
    obtain ⟨k, f, pre, ps, rfl, rfl, HI, HA, hown, hbw⟩ := hrel
    have hi := HI.out
    unfold RInv at hi
    rcases hi with ⟨hfk, hkL, hsp, hno⟩ | ⟨hkL, hfL, hsp⟩
    · go_upto_region 6 with fail
      go_cut [27] from 16 to 123 (fun s27 wx => s27 = .bool (decide (k < L.length) && decide (L[k]? ≠ some 32)) ∧ wx = wr)
      case first =>
        by_cases hlt : k < L.length
        · have e1 : L[k]? = some L[k] := List.getElem?_eq_getElem hlt
          by_cases hb : L[k] = 32
          · have hb2 : (L[k].toNat : Int) = 32 := by rw [hb]; rfl
            have hres : (decide (k < L.length) && decide (L[k]? ≠ some 32)) = false := by rw [e1, hb]; simp
            have HRS := Any.hidJ hres
            clear hb hsp hno HI HP e1 hres
            go_wp2
            go_meet
            case rel => exact ⟨by rw [HRS.out], rfl⟩
          · have hb2 : ¬ (L[k].toNat : Int) = 32 := u8_ne (n := 32) (by omega) hb
            have hres : (decide (k < L.length) && decide (L[k]? ≠ some 32)) = true := by rw [e1]; simp [hlt, hb]
            have HRS := Any.hidJ hres
            clear hb hsp hno HI HP e1 hres
            go_wp2
            go_meet
            case rel => exact ⟨by rw [HRS.out]; simpa using hb2, rfl⟩
        · have hres : (decide (k < L.length) && decide (L[k]? ≠ some 32)) = false := by simp [hlt]
          have HRS := Any.hidJ hres
          clear hsp hno HI HP hres
          go_wp2
          go_meet
          case rel => exact ⟨by rw [HRS.out], rfl⟩
      case rest =>
        obtain ⟨rfl, rfl⟩ := hcut
        have hwk : IntKind.i64.wrap ((k : Int) + 1) = (k : Int) + 1 := by rw [IntKind.wrap_i64]; omega
        cases hc : (decide (k < L.length) && decide (L[k]? ≠ some 32))
        · have hend : k = L.length ∨ L[k]? = some 32 := by
            rw [Bool.and_eq_false_iff] at hc
            rcases hc with h | h
            · left; simp at h; omega
            · right; simpa using h
          have hnext : RInv L (pre ++ [(L.drop f).take (k - f)]) (k + 1) (k + 1) ∧ ∃ t, splitB L = pre ++ (L.drop f).take (k - f) :: t := by
            rcases hend with h | h
            · have e := split_end h hno
              refine ⟨Or.inr ⟨by omega, by omega, by rw [hsp, e]⟩, [], by rw [hsp, e]⟩
            · have hlt : k < L.length := (List.getElem?_eq_some_iff.1 h).1
              have e := split_blank hfk h hno
              exact ⟨Or.inl ⟨Nat.le_refl _, by omega, by rw [hsp, e]; simp, fun j h1 h2 => absurd h1 (by omega)⟩, _, by rw [hsp, e]⟩
          have hxl : ((L.drop f).take (k - f)).length ≤ L.length := by simp; omega
          have e0 : (⟨L.toArray⟩ : ByteArray).extract f k = ⟨((L.drop f).take (k - f)).toArray⟩ := by rw [Lib.extract_eq]
          have i1 : (f : Int) ≤ (k : Int) := by omega
          have i2 : (k : Int) ≤ (L.length : Int) := by omega
          have i3 : (0 : Int) ≤ (f : Int) := by omega
          have i4 : (0 : Int) ≤ (k : Int) := by omega
          have i5 : f ≤ k := hfk
          have i6 : k ≤ L.length := hkL
          obtain ⟨hnx, t, hT⟩ := hnext
          have HN := Any.hidJ hnx
          have HT := Any.hidJ hT
          clear hnx hT hend hc hsp hno HI
          generalize (L.drop f).take (k - f) = x at *
          have HF : Hid (refRead x = none → res = (2, [])) := fun h => by
            rw [HP.out]
            unfold refParseB
            rw [HT.out, refAll_none h]
          by_cases h5 : x.length < 5
          · have HE : Hid (res = (2, [])) := HF.out (by
              match x, h5 with
              | [], _ => rfl
              | [_], _ => rfl
              | [_, _], _ => rfl
              | [_, _, _], _ => rfl
              | [_, _, _, _], _ => rfl)
            have h6 : (x.length : Int) < 5 := by omega
            clear h5 HF HT HN
            go_wp2
            refine bodyPost_ret (v := .tuple #[.slice none 0 0, .int .i64 2]) ?_ rfl ⟨.slice none 0 0, by rw [HE.out]; rfl, by rw [HE.out]; exact World.ownsRow_nil _ _ _ _, hbw⟩
            simp [results, Tryd.results5, go_sem]
          · obtain ⟨h, d, y, sg, c, ds, rfl⟩ := five h5
            clear h5
            have h6 : ¬ ((ds.length : Int) + 1 + 1 + 1 + 1 + 1 < 5) := by omega
            have HF0 := HF
            simp only [refRead] at HF
            by_cases g1 : (h.toNat : Int) < 48
            · have HE : Hid (res = (2, [])) := HF.out (if_neg (fun hc => by have := hc.1; simp only [isDig, decide_eq_true_eq] at this; omega))
              clear HF HT HN
              go_wp2
              refine bodyPost_ret (v := .tuple #[.slice none 0 0, .int .i64 2]) ?_ rfl ⟨.slice none 0 0, by rw [HE.out]; rfl, by rw [HE.out]; exact World.ownsRow_nil _ _ _ _, hbw⟩
              simp [results, Tryd.results5, go_sem]
            by_cases g2 : 57 < (h.toNat : Int)
            · have HE : Hid (res = (2, [])) := HF.out (if_neg (fun hc => by have := hc.1; simp only [isDig, decide_eq_true_eq] at this; omega))
              clear HF HT HN
              go_wp2
              refine bodyPost_ret (v := .tuple #[.slice none 0 0, .int .i64 2]) ?_ rfl ⟨.slice none 0 0, by rw [HE.out]; rfl, by rw [HE.out]; exact World.ownsRow_nil _ _ _ _, hbw⟩
              simp [results, Tryd.results5, go_sem]
            by_cases g3 : (d.toNat : Int) = 46
            case neg =>
              have HE : Hid (res = (2, [])) := HF.out (if_neg (fun hc => g3 (by rw [hc.2.1]; rfl)))
              clear HF HT HN
              go_wp2
              refine bodyPost_ret (v := .tuple #[.slice none 0 0, .int .i64 2]) ?_ rfl ⟨.slice none 0 0, by rw [HE.out]; rfl, by rw [HE.out]; exact World.ownsRow_nil _ _ _ _, hbw⟩
              simp [results, Tryd.results5, go_sem]
            by_cases g4 : (y.toNat : Int) < 48
            · have HE : Hid (res = (2, [])) := HF.out (if_neg (fun hc => by have := hc.2.2.1; simp only [isDig, decide_eq_true_eq] at this; omega))
              clear HF HT HN
              go_wp2
              refine bodyPost_ret (v := .tuple #[.slice none 0 0, .int .i64 2]) ?_ rfl ⟨.slice none 0 0, by rw [HE.out]; rfl, by rw [HE.out]; exact World.ownsRow_nil _ _ _ _, hbw⟩
              simp [results, Tryd.results5, go_sem]
            by_cases g5 : 57 < (y.toNat : Int)
            · have HE : Hid (res = (2, [])) := HF.out (if_neg (fun hc => by have := hc.2.2.1; simp only [isDig, decide_eq_true_eq] at this; omega))
              clear HF HT HN
              go_wp2
              refine bodyPost_ret (v := .tuple #[.slice none 0 0, .int .i64 2]) ?_ rfl ⟨.slice none 0 0, by rw [HE.out]; rfl, by rw [HE.out]; exact World.ownsRow_nil _ _ _ _, hbw⟩
              simp [results, Tryd.results5, go_sem]
            have m1 : 48 ≤ h.toNat := by omega
            have m2 : h.toNat ≤ 57 := by omega
            have m3 : 48 ≤ y.toNat := by omega
            have m4 : y.toNat ≤ 57 := by omega
            have hh : isDig h = true := by simp only [isDig, decide_eq_true_eq]; omega
            have hy : isDig y = true := by simp only [isDig, decide_eq_true_eq]; omega
            obtain rfl : d = 46 := UInt8.toNat.inj (by show d.toNat = 46; omega)
            have HF2 : Hid (refRead (h :: 46 :: y :: sg :: c :: ds) = none → res = (2, [])) := HF0
            by_cases s1 : sg = 43
            · subst s1
              have HR : Hid (refRead (h :: 46 :: y :: 43 :: c :: ds) = (refNum 43 (c :: ds)).map fun n => (valB h, valB y, n)) := by
                show _ = _
                simp only [refRead]
                rw [if_pos ⟨hh, trivial, hy, by simp⟩]
                rfl
              have e3 : (⟨(h :: 46 :: y :: 43 :: c :: ds).toArray⟩ : ByteArray).extract 3 (ds.length + 1 + 1 + 1 + 1 + 1) = ⟨(43 :: c :: ds).toArray⟩ := by rw [Lib.extract_eq]; simp
              have e4 : (⟨(h :: 46 :: y :: 43 :: c :: ds).toArray⟩ : ByteArray).extract 4 (ds.length + 1 + 1 + 1 + 1 + 1) = ⟨(c :: ds).toArray⟩ := by rw [Lib.extract_eq]; simp
              clear HF
              have heW := he.on' hbw
              have htW := ht.below hbw ht.pos
              have HAT := atoi_any ⟨(c :: ds).toArray⟩ wc (by rw [Lib.size_eq]; simp at hxl ⊢; omega) heW
              go_wp2_with fail
              refine HAT.mono ?_
              rintro e w1 ⟨⟨n, er, rfl, hcase⟩, hb1⟩
              have hB1 : Below w.heap.size w w1 := hbw.trans (hb1.mono hbw.size)
              have htW1 := htW.on hb1
              have hown1 := hown.below hb1 (Nat.le_refl _)
              clear HAT hown hbw
              rcases hcase with ⟨hok, rfl⟩ | ⟨hbad, t1, v1, rfl⟩
              · obtain ⟨n0, n1⟩ := Lib.atoiAll_bounds hok
                have HNum : Hid (refNum 43 (c :: ds) = if Lib.itoa n = c :: ds ∧ ¬ ((43 : UInt8) = 43 ∧ n < 0) ∧ ¬ ((43 : UInt8) = 45 ∧ 0 ≤ n) then some n else none) := by
                  show _ = _
                  unfold refNum
                  rw [show Lib.atoiAll (c :: ds) = .ok n from hok]
                have HIT := itoa_any n n0 n1 w1 htW1
                clear hok
                generalize Lib.itoa n = z at *
                go_wp2_with fail
                refine HIT.mono ?_
                rintro e w2 ⟨rfl, hb2⟩
                have hB2 : Below w.heap.size w w2 := hB1.trans (hb2.mono hB1.size)
                have hown2 := hown1.below hb2 (Nat.le_refl _)
                clear hown1 HIT
                by_cases hz : z = c :: ds
                · subst hz
                  by_cases hn : n < 0
                  · have HE : Hid (res = (2, [])) := HF2.out (by rw [HR.out, HNum.out, if_neg (by simp; omega)]; rfl)
                    clear HT HN HP HF2 HR HNum
                    go_wp2_with fail
                    refine bodyPost_ret (v := .tuple #[.slice none 0 0, .int .i64 2]) ?_ rfl ⟨.slice none 0 0, by rw [HE.out]; rfl, by rw [HE.out]; exact World.ownsRow_nil _ _ _ _, hB2⟩
                    simp [results, Tryd.results5, go_sem]
                  · have HS : Hid (refAll (pre ++ [h :: 46 :: y :: 43 :: c :: ds]) = some (ps ++ [(valB h, valB y, n)])) := by
                      show _ = _
                      rw [refAll_snoc, HA.out, HR.out, HNum.out, if_pos (by simp; omega)]
                      rfl
                    clear HF2 HR HNum
                    go_wp2_with fail
                    obtain ⟨a2, cap2, rfl, _, _⟩ := hown2.parts
                    have hpl : ps.length ≤ 1000000000 := by
                      rw [refAll_length pre ps HA.out]
                      have h1 := splitB_length L
                      have h2 : pre.length ≤ (splitB L).length := by rw [HT.out]; simp
                      omega
                    clear HT
                    have hz2 := hB2.size
                    have v1 : IntKind.u8.wrap ((h.toNat : Int) - 48) = (h.toNat : Int) - 48 := by rw [IntKind.wrap_u8]; omega
                    have v2 : IntKind.u8.wrap ((y.toNat : Int) - 48) = (y.toNat : Int) - 48 := by rw [IntKind.wrap_u8]; omega
                    have v3 : IntKind.i64.wrap ((h.toNat : Int) - 48) = (h.toNat : Int) - 48 := by rw [IntKind.wrap_i64]; omega
                    have v4 : IntKind.i64.wrap ((y.toNat : Int) - 48) = (y.toNat : Int) - 48 := by rw [IntKind.wrap_i64]; omega
                    go_region_held3 (fun _ => True) (exact trivial) (
                      (refine step_append_part _ rfl (.tmp 110) (.tmp 121) rfl w.heap.size (.slice a2 ps.length cap2) ps rfl (by exact hown2.below (below1 w2 _).drew (Nat.le_refl _)) w2.heap.size (valB h, valB y, n) rfl (by exact heap_alloc_new w2 _) (by omega) (by simp; omega) ?_; intro g3 c3 w3 ho3 hg3))
                    all_goals
                      have hB3 : Below w.heap.size w w3 := (hB2.alloc hB2.size _).drew.grown hg3 (by simp; omega) (fun q e => (ownsRow_lt hown2 e).1)
                      clear hown2 v1 v2 v3 v4
                      go_wp2
                      go_roundw
                      case rel => exact ⟨k + 1, k + 1, _, _, by go_num, by go_num, HN, HS, ho3, hB3⟩
                      case measure => simp [intOf]; omega
                · have HE : Hid (res = (2, [])) := HF2.out (by rw [HR.out, HNum.out, if_neg (fun hc => hz hc.1)]; rfl)
                  have hd : (z == c :: ds) = false := by simpa using hz
                  clear HT HN HP HF2 HR HNum
                  go_wp2_with fail
                  refine bodyPost_ret (v := .tuple #[.slice none 0 0, .int .i64 2]) ?_ rfl ⟨.slice none 0 0, by rw [HE.out]; rfl, by rw [HE.out]; exact World.ownsRow_nil _ _ _ _, hB2⟩
                  simp [results, Tryd.results5, go_sem]
              · have HE : Hid (res = (2, [])) := HF2.out (by
                  rw [HR.out]
                  unfold refNum
                  rcases hq : Lib.atoiAll (c :: ds) with m | _ | _
                  · exact absurd hq (hbad m)
                  · rfl
                  · rfl)
                clear HT HN HP HF2 HR hbad
                go_wp2_with fail
                refine bodyPost_ret (v := .tuple #[.slice none 0 0, .int .i64 2]) ?_ rfl ⟨.slice none 0 0, by rw [HE.out]; rfl, by rw [HE.out]; exact World.ownsRow_nil _ _ _ _, hB1⟩
                simp [results, Tryd.results5, go_sem]
            · by_cases s2 : sg = 45
              · subst s2
                have HR : Hid (refRead (h :: 46 :: y :: 45 :: c :: ds) = (refNum 45 (45 :: c :: ds)).map fun n => (valB h, valB y, n)) := by
                  show _ = _
                  simp only [refRead]
                  rw [if_pos ⟨hh, trivial, hy, by simp⟩]
                  rfl
                have e3 : (⟨(h :: 46 :: y :: 45 :: c :: ds).toArray⟩ : ByteArray).extract 3 (ds.length + 1 + 1 + 1 + 1 + 1) = ⟨(45 :: c :: ds).toArray⟩ := by rw [Lib.extract_eq]; simp
                have e4 : (⟨(h :: 46 :: y :: 45 :: c :: ds).toArray⟩ : ByteArray).extract 4 (ds.length + 1 + 1 + 1 + 1 + 1) = ⟨(c :: ds).toArray⟩ := by rw [Lib.extract_eq]; simp
                clear HF
                have heW := he.on' hbw
                have htW := ht.below hbw ht.pos
                have HAT := atoi_any ⟨(45 :: c :: ds).toArray⟩ wc (by rw [Lib.size_eq]; simp at hxl ⊢; omega) heW
                go_wp2_with fail
                refine HAT.mono ?_
                rintro e w1 ⟨⟨n, er, rfl, hcase⟩, hb1⟩
                have hB1 : Below w.heap.size w w1 := hbw.trans (hb1.mono hbw.size)
                have htW1 := htW.on hb1
                have hown1 := hown.below hb1 (Nat.le_refl _)
                clear HAT hown hbw
                rcases hcase with ⟨hok, rfl⟩ | ⟨hbad, t1, v1, rfl⟩
                · obtain ⟨n0, n1⟩ := Lib.atoiAll_bounds hok
                  have HNum : Hid (refNum 45 (45 :: c :: ds) = if Lib.itoa n = 45 :: c :: ds ∧ ¬ ((45 : UInt8) = 43 ∧ n < 0) ∧ ¬ ((45 : UInt8) = 45 ∧ 0 ≤ n) then some n else none) := by
                    show _ = _
                    unfold refNum
                    rw [show Lib.atoiAll (45 :: c :: ds) = .ok n from hok]
                  have HIT := itoa_any n n0 n1 w1 htW1
                  clear hok
                  generalize Lib.itoa n = z at *
                  go_wp2_with fail
                  refine HIT.mono ?_
                  rintro e w2 ⟨rfl, hb2⟩
                  have hB2 : Below w.heap.size w w2 := hB1.trans (hb2.mono hB1.size)
                  have hown2 := hown1.below hb2 (Nat.le_refl _)
                  clear hown1 HIT
                  by_cases hz : z = 45 :: c :: ds
                  · subst hz
                    by_cases hn : 0 ≤ n
                    · have HE : Hid (res = (2, [])) := HF2.out (by rw [HR.out, HNum.out, if_neg (by simp; omega)]; rfl)
                      clear HT HN HP HF2 HR HNum
                      go_wp2_with fail
                      refine bodyPost_ret (v := .tuple #[.slice none 0 0, .int .i64 2]) ?_ rfl ⟨.slice none 0 0, by rw [HE.out]; rfl, by rw [HE.out]; exact World.ownsRow_nil _ _ _ _, hB2⟩
                      simp [results, Tryd.results5, go_sem]
                    · have HS : Hid (refAll (pre ++ [h :: 46 :: y :: 45 :: c :: ds]) = some (ps ++ [(valB h, valB y, n)])) := by
                        show _ = _
                        rw [refAll_snoc, HA.out, HR.out, HNum.out, if_pos (by simp; omega)]
                        rfl
                      clear HF2 HR HNum
                      go_wp2_with fail
                      obtain ⟨a2, cap2, rfl, _, _⟩ := hown2.parts
                      have hpl : ps.length ≤ 1000000000 := by
                        rw [refAll_length pre ps HA.out]
                        have h1 := splitB_length L
                        have h2 : pre.length ≤ (splitB L).length := by rw [HT.out]; simp
                        omega
                      clear HT
                      have hz2 := hB2.size
                      have v1 : IntKind.u8.wrap ((h.toNat : Int) - 48) = (h.toNat : Int) - 48 := by rw [IntKind.wrap_u8]; omega
                      have v2 : IntKind.u8.wrap ((y.toNat : Int) - 48) = (y.toNat : Int) - 48 := by rw [IntKind.wrap_u8]; omega
                      have v3 : IntKind.i64.wrap ((h.toNat : Int) - 48) = (h.toNat : Int) - 48 := by rw [IntKind.wrap_i64]; omega
                      have v4 : IntKind.i64.wrap ((y.toNat : Int) - 48) = (y.toNat : Int) - 48 := by rw [IntKind.wrap_i64]; omega
                      go_region_held3 (fun _ => True) (exact trivial) (
                        (refine step_append_part _ rfl (.tmp 110) (.tmp 121) rfl w.heap.size (.slice a2 ps.length cap2) ps rfl (by exact hown2.below (below1 w2 _).drew (Nat.le_refl _)) w2.heap.size (valB h, valB y, n) rfl (by exact heap_alloc_new w2 _) (by omega) (by simp; omega) ?_; intro g3 c3 w3 ho3 hg3))
                      all_goals
                        have hB3 : Below w.heap.size w w3 := (hB2.alloc hB2.size _).drew.grown hg3 (by simp; omega) (fun q e => (ownsRow_lt hown2 e).1)
                        clear hown2 v1 v2 v3 v4
                        go_wp2
                        go_roundw
                        case rel => exact ⟨k + 1, k + 1, _, _, by go_num, by go_num, HN, HS, ho3, hB3⟩
                        case measure => simp [intOf]; omega
                  · have HE : Hid (res = (2, [])) := HF2.out (by rw [HR.out, HNum.out, if_neg (fun hc => hz hc.1)]; rfl)
                    have hd : (z == 45 :: c :: ds) = false := by simpa using hz
                    clear HT HN HP HF2 HR HNum
                    go_wp2_with fail
                    refine bodyPost_ret (v := .tuple #[.slice none 0 0, .int .i64 2]) ?_ rfl ⟨.slice none 0 0, by rw [HE.out]; rfl, by rw [HE.out]; exact World.ownsRow_nil _ _ _ _, hB2⟩
                    simp [results, Tryd.results5, go_sem]
                · have HE : Hid (res = (2, [])) := HF2.out (by
                    rw [HR.out]
                    unfold refNum
                    rcases hq : Lib.atoiAll (45 :: c :: ds) with m | _ | _
                    · exact absurd hq (hbad m)
                    · rfl
                    · rfl)
                  clear HT HN HP HF2 HR hbad
                  go_wp2_with fail
                  refine bodyPost_ret (v := .tuple #[.slice none 0 0, .int .i64 2]) ?_ rfl ⟨.slice none 0 0, by rw [HE.out]; rfl, by rw [HE.out]; exact World.ownsRow_nil _ _ _ _, hB1⟩
                  simp [results, Tryd.results5, go_sem]
              · have s3 : ¬ (sg.toNat : Int) = 43 := u8_ne (n := 43) (by omega) s1
                have s4 : ¬ (sg.toNat : Int) = 45 := u8_ne (n := 45) (by omega) s2
                have s5 : ((sg.toNat : Int) != 43) = true := by simpa using s3
                have s6 : ((sg.toNat : Int) != 45) = true := by simpa using s4
                have HE : Hid (res = (2, [])) := HF.out (if_neg (fun hc => by rcases hc.2.2.2 with e | e; exact s1 e; exact s2 e))
                clear HF HT HN HF2
                go_wp2_with fail
                refine bodyPost_ret (v := .tuple #[.slice none 0 0, .int .i64 2]) ?_ rfl ⟨.slice none 0 0, by rw [HE.out]; rfl, by rw [HE.out]; exact World.ownsRow_nil _ _ _ _, hbw⟩
                simp [results, Tryd.results5, go_sem]
        · have hgo : RInv L pre (k + 1) f := by
            rw [Bool.and_eq_true] at hc
            obtain ⟨h1, h2⟩ := hc
            have hlt : k < L.length := by simpa using h1
            have h2 : L[k]? ≠ some 32 := by simpa using h2
            exact Or.inl ⟨by omega, by omega, hsp, fun j a b => by
              rcases Nat.lt_or_ge j k with x | x
              · exact hno j a x
              · rw [show j = k by omega]; exact h2⟩
          have HG := Any.hidJ hgo
          clear hgo hsp hno HI HP
          go_wp2
          go_roundw
          case rel => exact ⟨k + 1, f, pre, ps, by go_num, rfl, HG, HA, hown, hbw⟩
          case measure => simp [intOf]; omega
    · have HE : Hid (res = if wrong ps 3 = 0 then (0, ps) else (wrong ps 3, [])) := by
        show _ = _
        rw [HP.out]
        unfold refParseB
        rw [hsp, HA.out]
      have hpl : ps.length ≤ 1000000000 := by
        rw [refAll_length pre ps HA.out, ← hsp]
        have := splitB_length L
        omega
      subst hkL
      clear hfL hsp HI HP HA
      obtain ⟨a, cap, rfl, hp, hcap⟩ := hown.parts
      go_wp2_with fail
      refine (wrongParts_any a ps cap _ 3 wr rfl (by omega) hp (by omega)).mono ?_
      rintro e w1 ⟨rfl, hb1⟩
      have hB1 : Below w.heap.size w w1 := hbw.trans (hb1.mono hbw.size)
      have hown1 := hown.below hb1 (Nat.le_refl _)
      clear hown hp
      by_cases hw : wrong ps 3 = 0
      · rw [hw]
        rw [if_pos hw] at HE
        go_wp2
        refine bodyPost_ret (v := .tuple #[.slice a ps.length cap, .int .i64 0]) ?_ rfl ⟨.slice a ps.length cap, by rw [HE.out]; rfl, by rw [HE.out]; exact hown1, hB1⟩
        simp [results, Tryd.results5, go_sem]
      · rw [if_neg hw] at HE
        generalize wrong ps 3 = y at *
        have hd : (y != 0) = true := by simpa using hw
        go_wp2
        refine bodyPost_ret (v := .tuple #[.slice none 0 0, .int .i64 y]) ?_ rfl ⟨.slice none 0 0, by rw [HE.out]; rfl, by rw [HE.out]; exact World.ownsRow_nil _ _ _ _, hB1⟩
        simp [results, Tryd.results5, go_sem]

end Go.Proofs.YtkmohigbedocgaaDoor
