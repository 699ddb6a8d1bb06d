/- Bytes that lie in memory, and what wire.Sum, wire.fold, wire.unfold and wire.Get do. -/
import Derived.Test.YtmjekpdgmdpndaaKWire0
import Derived.Laws.BitsAllLaws
namespace Go.Proofs.Ytmjekpdgmdpndaa
open Go.RowKit
attribute [local go_sem ↓] Go.wp_at_zero Go.wp_at_succ

/-- The bytes l lie in memory from the address on. -/
def BytesAt (w : World) (a : Option Addr) (l : List Nat) : Prop :=
  l = [] ∨ ∃ b o, a = some ⟨b, o, none⟩ ∧ b < w.heap.size ∧ ∀ i (h : i < l.length), w.cell? ⟨b, o + i, none⟩ = some (.int .u8 (l[i] : Nat))

theorem BytesAt.below {w w' : World} {a : Option Addr} {l : List Nat} (h : BytesAt w a l) (hb : Below w.heap.size w w') : BytesAt w' a l := by
  rcases h with rfl | ⟨b, o, rfl, hlt, hc⟩
  · exact Or.inl rfl
  · refine Or.inr ⟨b, o, rfl, Nat.lt_of_lt_of_le hlt hb.size, fun i hi => ?_⟩
    obtain ⟨hcc, _⟩ := bcell hb
    exact (hcc _ _ hlt).trans (hc i hi)

set_option maxHeartbeats 400000 in
theorem sum_any (a : Option Addr) (l : List Nat) (cap n : Nat) (w : World) (hn : n = l.length) (hl : l.length ≤ 9223372036854775807) (hb : Byt l) (hp : BytesAt w a l) :
    Calls Try.prog 66 #[.slice a n cap] w fun e w' => e = .returned (.int .i64 (sumB l : Nat)) ∧ w' = w := by
  subst hn
  go_enter Try.func66, Try.ntmps66
  go_wp2
  go_loopw [3, 8] (fun s i w' => ∃ k : Nat, k ≤ l.length ∧ i = .int .i64 k ∧ s = .int .i64 (sumB (l.take k) : Nat) ∧ w' = w) (fun _ i _ => l.length - (intOf i).toNat)
  case atStart => exact ⟨0, Nat.zero_le _, rfl, rfl, rfl⟩
  case round =>
    obtain ⟨k, hk, rfl, rfl, rfl⟩ := hrel
    by_cases hlt : k < l.length
    · rcases hp with rfl | ⟨b', o, rfl, hb', hc⟩
      · simp at hlt
      have d0 := hc k hlt
      have hc256 : (l[k] : Nat) < 256 := hb _ (List.getElem_mem hlt)
      have HS : Hid (sumB (l.take (k + 1)) = sumStep (sumB (l.take k)) l[k]) := by show _ = _; rw [take_snoc hlt, sumB_snoc]
      have hs := sumB_lt (l.take k)
      clear hc hb
      generalize sumB (l.take k) = s at *
      generalize l[k] = c at *
      go_wp2
      go_roundw
      case rel =>
        refine ⟨k + 1, by omega, by go_num, ?_, by trivial⟩
        rw [HS.out]
        unfold sumStep
        go_num
      case measure => simp [intOf]; omega
    · have HA : Hid (l.take k = l) := by show _ = _; rw [List.take_of_length_le (by omega)]
      clear hp hb
      go_wp2
      go_ret
      exact ⟨by rw [HA.out]; rfl, rfl⟩

set_option maxHeartbeats 400000 in
theorem fold_any (n : Int) (w : World) (h1 : -9223372036854775808 ≤ n) (h2 : n ≤ 9223372036854775807) :
    Calls Try.prog 92 #[.int .i64 n] w fun e w' => e = .returned (.int .u64 (foldN n : Nat)) ∧ w' = w := by
  by_cases h0 : n < 0
  · have HF : Hid ((foldN n : Int) = (-1 - n) * 2 + 1) := by show _ = _; simp only [foldN, h0, if_true]; omega
    go_enter Try.func92, Try.ntmps92
    go_wp2
    go_ret
    refine ⟨ret_int ?_, rfl⟩
    have := HF.out
    omega
  · have HF : Hid ((foldN n : Int) = n * 2) := by show _ = _; simp only [foldN, h0, if_false]; omega
    go_enter Try.func92, Try.ntmps92
    go_wp2
    go_ret
    refine ⟨ret_int ?_, rfl⟩
    have := HF.out
    omega

set_option maxHeartbeats 400000 in
theorem unfold_any (u : Nat) (w : World) (h1 : u ≤ 18446744073709551615) :
    Calls Try.prog 105 #[.int .u64 u] w fun e w' => e = .returned (.int .i64 (unfoldN u)) ∧ w' = w := by
  by_cases h0 : u % 2 = 1
  · have HF : Hid (unfoldN u = -1 - ((u / 2 : Nat) : Int)) := by show _ = _; simp only [unfoldN, h0, if_true]
    have h0' : ((u : Int) % 2) = 1 := by omega
    go_enter Try.func105, Try.ntmps105
    go_wp2
    go_ret
    refine ⟨ret_int ?_, rfl⟩
    have := HF.out
    omega
  · have HF : Hid (unfoldN u = ((u / 2 : Nat) : Int)) := by show _ = _; simp only [unfoldN, h0, if_false]
    have h0' : ((u : Int) % 2) = 0 := by omega
    go_enter Try.func105, Try.ntmps105
    go_wp2
    go_ret
    refine ⟨ret_int ?_, rfl⟩
    have := HF.out
    omega

theorem or_pow (u x k : Nat) (hu : u < 128 ^ k) : u ||| x * 128 ^ k = u + x * 128 ^ k := by
  have h : (128 : Nat) ^ k = 2 ^ (7 * k) := by rw [Nat.pow_mul]
  rw [h] at hu ⊢
  rw [Nat.or_comm, Nat.mul_comm, ← Nat.two_pow_add_eq_or_of_lt hu, Nat.add_comm]

theorem pow_next {x c k : Nat} (hx : x < 128 ^ k) : x + c % 128 * 128 ^ k < 128 ^ (k + 1) := by
  rw [Nat.pow_succ]
  have h1 : c % 128 ≤ 127 := by omega
  have h2 : c % 128 * 128 ^ k ≤ 127 * 128 ^ k := Nat.mul_le_mul_right _ h1
  omega
theorem or_shift (x c k : Nat) (hx : x < 128 ^ k) (hk : k < 6) : bits .or .u64 (x : Int) (IntKind.u64.wrap ((c : Int) % 128 * 2 ^ (7 * k))) = ((x + c % 128 * 128 ^ k : Nat) : Int) := by
  have h7 : (128 : Nat) ^ k = 2 ^ (7 * k) := by rw [Nat.pow_mul]
  have hn := pow_next (c := c) hx
  have h42 : x + c % 128 * 128 ^ k < 4398046511104 := Nat.lt_of_lt_of_le hn (Nat.pow_le_pow_right (by omega) (by omega) : 128 ^ (k + 1) ≤ 128 ^ 6)
  have hy : ((c : Int) % 128 * 2 ^ (7 * k)) = ((c % 128 * 128 ^ k : Nat) : Int) := by rw [h7]; push_cast; rfl
  have hw : IntKind.u64.wrap ((c % 128 * 128 ^ k : Nat) : Int) = ((c % 128 * 128 ^ k : Nat) : Int) := by
    generalize c % 128 * 128 ^ k = p at *
    rw [IntKind.wrap_u64]; omega
  rw [hy, hw, u64_or_nat _ _ (by omega) (by omega), or_pow _ _ _ hx]

set_option maxRecDepth 20000 in
set_option maxHeartbeats 1000000 in
theorem get_any (a : Option Addr) (l : List Nat) (cap n : Nat) (w : World) (hn : n = l.length) (hl : l.length ≤ 9223372036854775807) (hb : Byt l) (hp : BytesAt w a l) :
    Calls Try.prog 90 #[.slice a n cap] w fun e w' => e = .returned (.tuple #[.int .i64 (getB l).1, .int .i64 (getB l).2.1, .int .i64 (getB l).2.2]) ∧ w' = w := by
  subst hn
  go_enter Try.func90, Try.ntmps90
  go_wp2
  go_loopw [5, 10] (fun u i w' => ∃ k x : Nat, k ≤ l.length ∧ k ≤ 6 ∧ i = .int .i64 k ∧ u = .int .u64 x ∧ x < 128 ^ k ∧ Hid (getB l = getGo k x (l.drop k)) ∧ w' = w) (fun _ i _ => l.length - (intOf i).toNat)
  case atStart => exact ⟨0, 0, Nat.zero_le _, by omega, rfl, rfl, by decide, rfl, rfl⟩
  case round =>
    obtain ⟨k, x, hk, hk6, rfl, rfl, hx, HG, rfl⟩ := hrel
    by_cases hlt : k < l.length
    · rcases hp with rfl | ⟨b', o, rfl, hb', hc⟩
      · simp at hlt
      have d0 := hc k hlt
      have hc256 : (l[k] : Nat) < 256 := hb _ (List.getElem_mem hlt)
      have HG' : Hid (getB l = getGo k x (l[k] :: l.drop (k + 1))) := by show _ = _; rw [HG.out, ← List.drop_eq_getElem_cons hlt]
      have HX : Hid (x < 128 ^ k) := hx
      have hx64 : x < 4398046511104 := Nat.lt_of_lt_of_le hx (Nat.pow_le_pow_right (by omega) hk6 : 128 ^ k ≤ 128 ^ 6)
      clear hc hb HG hx
      generalize l[k] = c at *
      by_cases h6 : k = 6
      · have HR : Hid (getB l = (0, 0, 3)) := by show _ = _; rw [HG'.out]; simp [getGo, h6]
        clear HG'
        subst h6
        go_wp2
        refine bodyPost_ret (v := .tuple #[.int .i64 0, .int .i64 0, .int .i64 3]) ?_ rfl ⟨by rw [HR.out]; rfl, rfl⟩
        simp [results, Try.results90, go_sem]
      · by_cases h128 : 128 ≤ c
        · have HR : Hid (getB l = getGo (k + 1) (x + c % 128 * 128 ^ k) (l.drop (k + 1))) := by show _ = _; rw [HG'.out]; simp [getGo, h6, h128]
          clear HG'
          go_wp2
          go_roundw
          case rel =>
            exact ⟨k + 1, x + c % 128 * 128 ^ k, by omega, by omega, by go_num, by rw [or_shift x c k HX.out (by omega)], pow_next HX.out, HR, by trivial⟩
          case measure => simp [intOf]; omega
        · by_cases h0 : c = 0 ∧ 0 < k
          · have HR : Hid (getB l = (0, 0, 2)) := by show _ = _; rw [HG'.out]; simp [getGo, h6, h0]
            clear HG'
            obtain ⟨rfl, hk0⟩ := h0
            go_wp2
            refine bodyPost_ret (v := .tuple #[.int .i64 0, .int .i64 0, .int .i64 2]) ?_ rfl ⟨by rw [HR.out]; rfl, rfl⟩
            simp [results, Try.results90, go_sem]
          · have HR : Hid (getB l = (unfoldN (x + c % 128 * 128 ^ k), k + 1, 0)) := by show _ = _; rw [HG'.out]; simp only [getGo, h6, h128, h0, if_false]
            clear HG'
            have hp := or_shift x c k HX.out (by omega)
            have hlt42 : x + c % 128 * 128 ^ k < 4398046511104 := Nat.lt_of_lt_of_le (pow_next HX.out) (Nat.pow_le_pow_right (by omega) (by omega) : 128 ^ (k + 1) ≤ 128 ^ 6)
            have HP : Hid (bits .or .u64 (x : Int) (IntKind.u64.wrap ((c : Int) % 128 * 2 ^ (7 * k))) = ((x + c % 128 * 128 ^ k : Nat) : Int)) := hp
            clear hp HX
            generalize x + c % 128 * 128 ^ k = y at *
            by_cases hc0 : c = 0
            · have hk0 : ¬ 0 < k := fun h => h0 ⟨hc0, h⟩
              subst hc0
              have HP0 : Hid (bits .or .u64 (x : Int) 0 = (y : Int)) := by
                have := HP.out
                simp [IntKind.wrap_u64] at this
                exact this
              clear h0 HP
              go_wp2_with fail
              rw [HP0.out]
              refine (unfold_any y _ (by omega)).mono ?_
              rintro e w1 ⟨rfl, rfl⟩
              clear HP0
              go_wp2
              refine bodyPost_ret (v := .tuple #[.int .i64 (unfoldN y), .int .i64 (k + 1 : Nat), .int .i64 0]) ?_ rfl ⟨by rw [HR.out], rfl⟩
              simp [results, Try.results90, go_sem]
            · clear h0
              go_wp2_with fail
              rw [HP.out]
              refine (unfold_any y _ (by omega)).mono ?_
              rintro e w1 ⟨rfl, rfl⟩
              clear HP
              go_wp2
              refine bodyPost_ret (v := .tuple #[.int .i64 (unfoldN y), .int .i64 (k + 1 : Nat), .int .i64 0]) ?_ rfl ⟨by rw [HR.out], rfl⟩
              simp [results, Try.results90, go_sem]
    · have HR : Hid (getB l = (0, 0, 8)) := by show _ = _; rw [HG.out, List.drop_eq_nil_of_le (by omega)]; rfl
      clear hp hb HG
      go_wp2
      refine bodyPost_ret (v := .tuple #[.int .i64 0, .int .i64 0, .int .i64 8]) ?_ rfl ⟨by rw [HR.out]; rfl, rfl⟩
      simp [results, Try.results90, go_sem]

end Go.Proofs.Ytmjekpdgmdpndaa
