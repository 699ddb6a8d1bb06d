/- What the document's Sum, Number and Get do. -/
import Derived.Test.YtmjekpdgmdpndaaKWorV
import Derived.Test.YtmjekpdgmdpndaaKWire3
import Derived.Laws.BitsAllLaws
namespace Go.Proofs.Ytmjekpdgmdpndaa
open Go.RowKit
attribute [local go_sem ↓] Go.wp_at_zero Go.wp_at_succ

set_option maxHeartbeats 400000 in
theorem refSum_any (a : Option Addr) (l : List Nat) (cap n : Nat) (w : World) (hn : n = l.length) (hl : l.length ≤ 9223372036854775807) (hb : Byt l) (hp : BytesAt w a l) :
    Calls Try.prog 47 #[.slice a n cap] w fun e w' => e = .returned (.int .i64 (sumB l : Nat)) ∧ w' = w := by
  subst hn
  go_enter Try.func47, Try.ntmps47
  go_wp2
  go_loopw [3, 7] (fun s i w' => ∃ k : Nat, k ≤ l.length ∧ i = .int .i64 k ∧ s = .int .i64 (sumB (l.take k) : Nat) ∧ w' = w) (fun _ i _ => l.length - (intOf i).toNat)
  case atStart => exact ⟨0, Nat.zero_le _, rfl, rfl, rfl⟩
  case round =>
    obtain ⟨k, hk, rfl, rfl, rfl⟩ := hrel
    by_cases hlt : k < l.length
    · rcases hp with rfl | ⟨b', o, rfl, hb', hc⟩
      · simp at hlt
      have d0 := hc k hlt
      have hc256 : (l[k] : Nat) < 256 := hb _ (List.getElem_mem hlt)
      have HS : Hid (sumB (l.take (k + 1)) = sumStep (sumB (l.take k)) l[k]) := by show _ = _; rw [take_snoc hlt, sumB_snoc]
      have hs := sumB_lt (l.take k)
      clear hc hb
      generalize sumB (l.take k) = s at *
      generalize l[k] = c at *
      go_wp2
      go_roundw
      case rel =>
        refine ⟨k + 1, by omega, by go_num, ?_, by trivial⟩
        rw [HS.out]
        unfold sumStep
        go_num
      case measure => simp [intOf]; omega
    · have HA : Hid (l.take k = l) := by show _ = _; rw [List.take_of_length_le (by omega)]
      clear hp hb
      go_wp2
      go_ret
      exact ⟨by rw [HA.out]; rfl, rfl⟩

set_option maxRecDepth 20000 in
set_option maxHeartbeats 1000000 in
theorem refNumber_any (n : Int) (w : World) (h1 : -9223372036854775808 ≤ n) (h2 : n ≤ 9223372036854775807) :
    Calls Try.prog 70 #[.int .i64 n] w fun e w' => ∃ v', e = .returned v' ∧ OwnB w' w.heap.size v' (numB n) ∧ Below w.heap.size w w' := by
  have h64 := fold_lt64 h1 h2
  have HN : Hid (numB n = numGo 9 (foldN n)) := rfl
  have HU : Hid ((n < 0 → (foldN n : Int) = (-(n + 1)) * 2 + 1) ∧ (¬ n < 0 → (foldN n : Int) = n * 2)) := by
    refine ⟨fun h => ?_, fun h => ?_⟩
    · simp only [foldN, h, if_true]; omega
    · simp only [foldN, h, if_false]; omega
  generalize foldN n = u at *
  generalize numB n = t at *
  go_enter Try.func70, Try.ntmps70
  by_cases h0 : n < 0
  · have hu := HU.out.1 h0
    have h128 : u ≤ 18446744073709551615 := by omega
    clear HU
    go_wp2
    go_loopw [3, 4] (fun u' v' w' => ∃ (f x : Nat) (pre : List Nat), u' = .int .u64 x ∧ x ≤ 18446744073709551615 ∧ Hid (x < 128 ^ f * 128) ∧ Hid (t = pre ++ numGo f x) ∧ pre.length + f = 9 ∧ OwnB w' w.heap.size v' pre ∧ Below w.heap.size w w') (fun u _ _ => (intOf u).toNat)
    case atStart => exact ⟨9, u, [], by go_num, by omega, by show _ < _; omega, HN.out, rfl, OwnB.nil _ _, Below.refl _ _⟩
    case round =>
      obtain ⟨f, x, pre, rfl, hx, hxf, HT, hpl, ho, hg⟩ := hrel
      have hbr := hg.size
      have hlen : pre.length ≤ 9 := by omega
      by_cases hlt : 128 ≤ x
      · obtain ⟨f', rfl⟩ : ∃ f', f = f' + 1 := by
          cases f with
          | zero => have := hxf.out; omega
          | succ f' => exact ⟨f', rfl⟩
        have HT' : Hid (t = (pre ++ [x % 128 + 128]) ++ numGo f' (x / 128)) := by show _ = _; rw [HT.out, numGo_more _ (by omega)]; simp
        have HX' : Hid (x / 128 < 128 ^ f' * 128) := by have := hxf.out; show _ < _; rw [Nat.pow_succ] at this; omega
        clear HT hxf
        go_wp2_with (at_builtin; refine wpList_append_bytes _ rfl _ _ rfl w.heap.size _ _ rfl (ho.below (below1 wr _) (Nat.le_refl _)) wr.heap.size 1 [x % 128 + 128] rfl (by simp) rfl (by exact heap_alloc_new wr _) (by simp; omega) (by simp; omega) ?_; intro g cap' w2 hown2 hgrow)
        go_roundw
        case rel =>
          refine ⟨f', x / 128, pre ++ [x % 128 + 128], by go_num, by omega, HX', HT', by simp; omega, hown2, ?_⟩
          exact (hg.alloc hbr _).trans (hgrow.below (ho.below (below1 wr _) (Nat.le_refl _)) (Nat.le_refl _) (by simp; omega))
        case measure => simp [intOf]; omega
      · have HT' : Hid (t = pre ++ [x]) := by show _ = _; rw [HT.out, numGo_small _ (by omega)]
        clear HT hxf
        go_wp2_with (at_builtin; refine wpList_append_bytes _ rfl _ _ rfl w.heap.size _ _ rfl (ho.below (below1 wr _) (Nat.le_refl _)) wr.heap.size 1 [x] rfl (by simp) rfl (by exact heap_alloc_new wr _) (by simp; omega) (by simp; omega) ?_; intro g cap' w2 hown2 hgrow)
        go_ret
        refine ⟨_, rfl, ?_, ?_⟩
        · rw [HT'.out]
          exact hown2
        · exact (hg.alloc hbr _).trans (hgrow.below (ho.below (below1 wr _) (Nat.le_refl _)) (Nat.le_refl _) (by simp; omega))
  · have hu := HU.out.2 h0
    have h128 : u ≤ 18446744073709551615 := by omega
    clear HU
    go_wp2
    go_loopw [3, 4] (fun u' v' w' => ∃ (f x : Nat) (pre : List Nat), u' = .int .u64 x ∧ x ≤ 18446744073709551615 ∧ Hid (x < 128 ^ f * 128) ∧ Hid (t = pre ++ numGo f x) ∧ pre.length + f = 9 ∧ OwnB w' w.heap.size v' pre ∧ Below w.heap.size w w') (fun u _ _ => (intOf u).toNat)
    case atStart => exact ⟨9, u, [], by go_num, by omega, by show _ < _; omega, HN.out, rfl, OwnB.nil _ _, Below.refl _ _⟩
    case round =>
      obtain ⟨f, x, pre, rfl, hx, hxf, HT, hpl, ho, hg⟩ := hrel
      have hbr := hg.size
      have hlen : pre.length ≤ 9 := by omega
      by_cases hlt : 128 ≤ x
      · obtain ⟨f', rfl⟩ : ∃ f', f = f' + 1 := by
          cases f with
          | zero => have := hxf.out; omega
          | succ f' => exact ⟨f', rfl⟩
        have HT' : Hid (t = (pre ++ [x % 128 + 128]) ++ numGo f' (x / 128)) := by show _ = _; rw [HT.out, numGo_more _ (by omega)]; simp
        have HX' : Hid (x / 128 < 128 ^ f' * 128) := by have := hxf.out; show _ < _; rw [Nat.pow_succ] at this; omega
        clear HT hxf
        go_wp2_with (at_builtin; refine wpList_append_bytes _ rfl _ _ rfl w.heap.size _ _ rfl (ho.below (below1 wr _) (Nat.le_refl _)) wr.heap.size 1 [x % 128 + 128] rfl (by simp) rfl (by exact heap_alloc_new wr _) (by simp; omega) (by simp; omega) ?_; intro g cap' w2 hown2 hgrow)
        go_roundw
        case rel =>
          refine ⟨f', x / 128, pre ++ [x % 128 + 128], by go_num, by omega, HX', HT', by simp; omega, hown2, ?_⟩
          exact (hg.alloc hbr _).trans (hgrow.below (ho.below (below1 wr _) (Nat.le_refl _)) (Nat.le_refl _) (by simp; omega))
        case measure => simp [intOf]; omega
      · have HT' : Hid (t = pre ++ [x]) := by show _ = _; rw [HT.out, numGo_small _ (by omega)]
        clear HT hxf
        go_wp2_with (at_builtin; refine wpList_append_bytes _ rfl _ _ rfl w.heap.size _ _ rfl (ho.below (below1 wr _) (Nat.le_refl _)) wr.heap.size 1 [x] rfl (by simp) rfl (by exact heap_alloc_new wr _) (by simp; omega) (by simp; omega) ?_; intro g cap' w2 hown2 hgrow)
        go_ret
        refine ⟨_, rfl, ?_, ?_⟩
        · rw [HT'.out]
          exact hown2
        · exact (hg.alloc hbr _).trans (hgrow.below (ho.below (below1 wr _) (Nat.le_refl _)) (Nat.le_refl _) (by simp; omega))

set_option maxRecDepth 20000 in
set_option maxHeartbeats 1000000 in
theorem refGet_any (a : Option Addr) (l : List Nat) (cap n : Nat) (w : World) (hn : n = l.length) (hl : l.length ≤ 9223372036854775807) (hb : Byt l) (hp : BytesAt w a l) :
    Calls Try.prog 48 #[.slice a n cap] w fun e w' => e = .returned (.tuple #[.int .i64 (getB l).1, .int .i64 (getB l).2.1, .int .i64 (getB l).2.2]) ∧ w' = w := by
  subst hn
  go_enter Try.func48, Try.ntmps48
  go_wp2
  go_loopw [5, 6, 7] (fun u p i w' => ∃ k x q : Nat, k ≤ l.length ∧ k ≤ 6 ∧ i = .int .i64 k ∧ u = .int .i64 x ∧ p = .int .i64 q ∧ x < q ∧ q ≤ 4398046511104 ∧ Hid (q = 128 ^ k ∧ getB l = getGo k x (l.drop k)) ∧ w' = w) (fun _ _ i _ => l.length + 1 - (intOf i).toNat)
  case atStart => exact ⟨0, 0, 1, Nat.zero_le _, by omega, rfl, rfl, rfl, by omega, by omega, ⟨rfl, rfl⟩, rfl⟩
  case round =>
    obtain ⟨k, x, q, hk, hk6, rfl, rfl, rfl, hx, hq, HG, rfl⟩ := hrel
    by_cases hlt : k < l.length
    · rcases hp with rfl | ⟨b', o, rfl, hb', hc⟩
      · simp at hlt
      have d0 := hc k hlt
      have hc256 : (l[k] : Nat) < 256 := hb _ (List.getElem_mem hlt)
      have HG' : Hid (q = 128 ^ k ∧ getB l = getGo k x (l[k] :: l.drop (k + 1))) := ⟨HG.out.1, by rw [HG.out.2, ← List.drop_eq_getElem_cons hlt]⟩
      have hkl : ¬ k = l.length := by omega
      clear hc hb HG
      generalize l[k] = c at *
      by_cases h6 : k = 6
      · have HR : Hid (getB l = (0, 0, 3)) := by show _ = _; rw [HG'.out.2]; simp [getGo, h6]
        clear HG'
        subst h6
        go_wp2
        refine bodyPost_ret (v := .tuple #[.int .i64 0, .int .i64 0, .int .i64 3]) ?_ rfl ⟨by rw [HR.out]; rfl, rfl⟩
        simp [results, Try.results48, go_sem]
      · have hk5 : k < 6 := by omega
        have hq5 : q ≤ 34359738368 := by
          have := HG'.out.1
          have h5 : 128 ^ k ≤ 128 ^ 5 := Nat.pow_le_pow_right (by omega) (by omega)
          have h6 : (128 : Nat) ^ 5 = 34359738368 := rfl
          omega
        obtain ⟨y, hy⟩ : ∃ y : Nat, y = c % 128 * q := ⟨_, rfl⟩
        have hyb : y ≤ 127 * q := by rw [hy]; exact Nat.mul_le_mul_right _ (by omega)
        have hyi : ((c : Int) % 128) * (q : Int) = (y : Int) := by rw [hy]; push_cast; rfl
        have hyi2 : (((c % 128 : Nat) : Int)) * (q : Int) = (y : Int) := by rw [hy]; push_cast; rfl
        have HG2 : Hid (q = 128 ^ k ∧ getB l = (if 128 ≤ c then getGo (k + 1) (x + y) (l.drop (k + 1)) else if c = 0 ∧ 0 < k then (0, 0, 2) else (unfoldN (x + y), k + 1, 0))) := ⟨HG'.out.1, by rw [HG'.out.2, hy, HG'.out.1]; simp only [getGo, h6, if_false]⟩
        have HY : Hid (y = c % 128 * q) := hy
        clear HG' hy
        by_cases h128 : 128 ≤ c
        · have HR : Hid (q = 128 ^ k ∧ getB l = getGo (k + 1) (x + y) (l.drop (k + 1))) := ⟨HG2.out.1, by rw [HG2.out.2, if_pos h128]⟩
          clear HG2
          go_wp2
          go_roundw
          case rel =>
            refine ⟨k + 1, x + y, q * 128, by omega, by omega, by go_num, by go_num, by go_num, by omega, by omega, ⟨by rw [Nat.pow_succ, HR.out.1], HR.out.2⟩, by trivial⟩
          case measure => simp [intOf]; omega
        · by_cases h0 : c = 0 ∧ 0 < k
          · have HR : Hid (getB l = (0, 0, 2)) := by show _ = _; rw [HG2.out.2, if_neg h128, if_pos h0]
            clear HG2
            obtain ⟨rfl, hk0⟩ := h0
            go_wp2
            refine bodyPost_ret (v := .tuple #[.int .i64 0, .int .i64 0, .int .i64 2]) ?_ rfl ⟨by rw [HR.out]; rfl, rfl⟩
            simp [results, Try.results48, go_sem]
          · have HR : Hid (getB l = (unfoldN (x + y), k + 1, 0)) := by show _ = _; rw [HG2.out.2, if_neg h128, if_neg h0]
            clear HG2
            have HV : Hid (((x + y) % 2 = 1 → unfoldN (x + y) = -(((x + y : Nat) : Int) / 2) - 1) ∧ (¬ (x + y) % 2 = 1 → unfoldN (x + y) = ((x + y : Nat) : Int) / 2)) := by
              refine ⟨fun h => ?_, fun h => ?_⟩
              · simp only [unfoldN, h, if_true]; omega
              · simp only [unfoldN, h, if_false]; omega
            generalize unfoldN (x + y) = z at *
            by_cases hev : (x + y) % 2 = 1
            · have hz := HV.out.1 hev
              have hev' : ((x : Int) + (y : Int)) % 2 = 1 := by omega
              have HZ : Hid (z = -(((x : Int) + (y : Int)) / 2) - 1) := by show _ = _; rw [hz]; push_cast; rfl
              clear HV hz
              by_cases hk0 : 0 < k
              · have hc0 : ¬ c = 0 := fun h => h0 ⟨h, hk0⟩
                clear h0
                go_wp2
                refine bodyPost_ret (v := .tuple #[.int .i64 z, .int .i64 (k + 1 : Nat), .int .i64 0]) ?_ rfl ⟨by rw [HR.out], rfl⟩
                rw [HZ.out]
                simp [results, Try.results48, go_sem]
              · clear h0
                go_wp2
                refine bodyPost_ret (v := .tuple #[.int .i64 z, .int .i64 (k + 1 : Nat), .int .i64 0]) ?_ rfl ⟨by rw [HR.out], rfl⟩
                rw [HZ.out]
                simp [results, Try.results48, go_sem]
            · have hz := HV.out.2 hev
              have hev' : ¬ ((x : Int) + (y : Int)) % 2 = 1 := by omega
              have HZ : Hid (z = ((x : Int) + (y : Int)) / 2) := by show _ = _; rw [hz]; push_cast; rfl
              clear HV hz
              by_cases hk0 : 0 < k
              · have hc0 : ¬ c = 0 := fun h => h0 ⟨h, hk0⟩
                clear h0
                go_wp2
                refine bodyPost_ret (v := .tuple #[.int .i64 z, .int .i64 (k + 1 : Nat), .int .i64 0]) ?_ rfl ⟨by rw [HR.out], rfl⟩
                rw [HZ.out]
                simp [results, Try.results48, go_sem]
              · clear h0
                go_wp2
                refine bodyPost_ret (v := .tuple #[.int .i64 z, .int .i64 (k + 1 : Nat), .int .i64 0]) ?_ rfl ⟨by rw [HR.out], rfl⟩
                rw [HZ.out]
                simp [results, Try.results48, go_sem]
    · have hkl : k = l.length := by omega
      have HR : Hid (getB l = (0, 0, 8)) := by show _ = _; rw [HG.out.2, List.drop_eq_nil_of_le (by omega)]; rfl
      clear hp hb HG
      go_wp2
      refine bodyPost_ret (v := .tuple #[.int .i64 0, .int .i64 0, .int .i64 8]) ?_ rfl ⟨by rw [HR.out]; rfl, rfl⟩
      simp [results, Try.results48, go_sem]

end Go.Proofs.Ytmjekpdgmdpndaa
