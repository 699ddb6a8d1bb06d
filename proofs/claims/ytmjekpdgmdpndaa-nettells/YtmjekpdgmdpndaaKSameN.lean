/- What the document's SameNet answers. -/
import Derived.Test.YtmjekpdgmdpndaaKNet0
import Derived.Laws.BytesArg
import Derived.BigQuiet
namespace Go.Proofs.Ytmjekpdgmdpndaa
open Go.RowKit
attribute [local go_sem ↓] Go.wp_at_zero Go.wp_at_succ

def strN (l : List Nat) : ByteArray := strOfNums (l.map fun c : Nat => (c : Int))
theorem bytes_toList_loop (bs : ByteArray) : ∀ (n i : Nat) (r : List UInt8), bs.size - i = n → ByteArray.toList.loop bs i r = r.reverse ++ bs.data.toList.drop i := by
  intro n
  induction n with
  | zero =>
    intro i r h
    have hsz : bs.data.toList.length = bs.size := by simp
    unfold ByteArray.toList.loop
    rw [if_neg (by omega), List.drop_eq_nil_of_le (by omega)]
    simp
  | succ n ih =>
    intro i r h
    have hsz : bs.data.toList.length = bs.size := by simp
    unfold ByteArray.toList.loop
    rw [if_pos (by omega), ih (i + 1) _ (by omega)]
    rw [List.drop_eq_getElem_cons (show i < bs.data.toList.length by omega)]
    have : bs.get! i = bs.data.toList[i]'(by omega) := by
      have h2 : i < bs.data.size := by simpa using (by omega : i < bs.data.toList.length)
      unfold ByteArray.get!
      simp
      exact getElem!_pos bs.data i h2
    rw [this]
    simp
theorem bytes_toList (bs : ByteArray) : bs.toList = bs.data.toList := by
  unfold ByteArray.toList
  rw [bytes_toList_loop bs _ 0 [] rfl]
  simp
theorem bytes_toList_inj {a b : ByteArray} (h : a.toList = b.toList) : a = b := by
  rw [bytes_toList, bytes_toList] at h
  have := Array.toList_inj.1 h
  cases a; cases b
  simp only at this
  rw [this]
theorem strN_inj : ∀ {l m : List Nat}, Byt l → Byt m → strN l = strN m → l = m := by
  intro l m hl hm h
  unfold strN strOfNums at h
  injection h with h
  have h1 : (l.map fun c : Nat => (c : Int)).map (fun n => UInt8.ofNat n.toNat) = (m.map fun c : Nat => (c : Int)).map (fun n => UInt8.ofNat n.toNat) := by
    have := congrArg Array.toList h
    simpa using this
  rw [List.map_map, List.map_map] at h1
  have key : ∀ (l m : List Nat), Byt l → Byt m → l.map ((fun n : Int => UInt8.ofNat n.toNat) ∘ fun c : Nat => (c : Int)) = m.map ((fun n : Int => UInt8.ofNat n.toNat) ∘ fun c : Nat => (c : Int)) → l = m := by
    intro l
    induction l with
    | nil => intro m _ _ h; cases m with
      | nil => rfl
      | cons y t => simp at h
    | cons x s ih => intro m hl hm h; cases m with
      | nil => simp at h
      | cons y t =>
        simp only [List.map_cons, List.cons.injEq] at h
        have e1 : x = y := by
          have h2 := congrArg UInt8.toNat h.1
          have hx : x < 256 := hl x (by simp)
          have hy : y < 256 := hm y (by simp)
          simp [Nat.mod_eq_of_lt hx, Nat.mod_eq_of_lt hy] at h2
          exact h2
        rw [e1, ih t (fun c hc => hl c (by simp [hc])) (fun c hc => hm c (by simp [hc])) h.2]
  exact key l m hl hm h1
theorem convN {w : World} {a : Option Addr} {l : List Nat} (cap : Nat) (h : BytesAt w a l) : (convert 57 9 (.slice a l.length cap)).run Try.prog w = .ok (.string (strN l)) w := by
  cases a with
  | none =>
    have h0 : l = [] := by
      rcases h with h | ⟨b, o, h, _⟩
      · exact h
      · cases h
    subst h0
    exact run_convert_bytes_nil w 57 5 Try.underlying57 Try.underlying5 0 cap 9 Try.underlying9
  | some ad =>
    rcases h with rfl | ⟨b, o, e, hlt, hc⟩
    · rw [List.length_nil, run_convert_bytes_string w 57 9 5 _ 0 cap Try.underlying57 Try.underlying5 Try.underlying9]
      simp [Conv.bytesToString]
      rfl
    · cases e
      refine run_convert_bytes_arg w 57 5 Try.underlying57 Try.underlying5 b o l.length cap _ (by simp) ?_ 9 Try.underlying9
      intro i hi
      rw [hc i hi]
      simp [hi]

set_option maxRecDepth 20000 in
set_option maxHeartbeats 1000000 in
theorem sameNet_q (R S : Nat → Prop) (a b : Option Addr) (n m c d : Nat) (X Y : List XN) (bs cs : List (List Nat)) (w : World) (hX : NetF R w a n X bs) (hY : NetF S w b m Y cs) (hb : ∀ x ∈ bs, Byt x) (hc : ∀ x ∈ cs, Byt x) (hl : X.length ≤ 1000000) :
    Calls Try.prog 14 #[.slice a n c, .slice b m d] w fun e w' => e = .returned (.bool (decide (bs = cs))) ∧ ∃ m, w' = w.drewN m := by
  have HN : Hid (NetF R w a n X bs ∧ NetF S w b m Y cs ∧ (∀ x ∈ bs, Byt x) ∧ (∀ x ∈ cs, Byt x) ∧ n = X.length ∧ m = Y.length ∧ X.length = bs.length ∧ Y.length = cs.length) := ⟨hX, hY, hb, hc, hX.n, hY.n, by rw [← hX.says, List.length_map], by rw [← hY.says, List.length_map]⟩
  have hnl : n ≤ 1000000 := by have := hX.n; omega
  clear hX hY hb hc hl
  go_enter Try.func14, Try.ntmps14
  by_cases hnm : n = m
  · subst hnm
    go_wp2
    go_loopw [13] (fun i w' => ∃ k : Nat, k ≤ n ∧ i = .int .i64 k ∧ Hid (bs.take k = cs.take k) ∧ Hid (∃ q, w' = w.drewN q)) (fun i _ => n - (intOf i).toNat)
    case atStart => exact ⟨0, Nat.zero_le _, rfl, rfl, 0, rfl⟩
    case round =>
      obtain ⟨k, hk, rfl, hH, hQ⟩ := hrel
      have hbw : Below w.heap.size w wr := by obtain ⟨q, hq⟩ := hQ.out; rw [hq]; exact drewN_below w q
      by_cases hlt : k < n
      · have hkX : k < X.length := by have := HN.out.2.2.2.2.1; omega
        have hkY : k < Y.length := by have := HN.out.2.2.2.2.2.1; omega
        have hkb : k < bs.length := by have := HN.out.2.2.2.2.2.2.1; omega
        have hkc : k < cs.length := by have := HN.out.2.2.2.2.2.2.2; omega
        have hq1 := ((HN.out.1.bytes _ (List.getElem_mem hkX)).below hbw).1
        have hq2 := ((HN.out.2.1.bytes _ (List.getElem_mem hkY)).below hbw).1
        have e1 : X[k].2 = bs[k] := by have h := HN.out.1.says; subst h; simp
        have e2 : Y[k].2 = cs[k] := by have h := HN.out.2.1.says; subst h; simp
        have hb1 : Byt X[k].2 := HN.out.2.2.1 _ (by rw [e1]; exact List.getElem_mem hkb)
        have hb2 : Byt Y[k].2 := HN.out.2.2.2.1 _ (by rw [e2]; exact List.getElem_mem hkc)
        have HE : Hid ((X[k].2 = Y[k].2 → bs.take (k + 1) = cs.take (k + 1)) ∧ (X[k].2 ≠ Y[k].2 → bs ≠ cs)) := by
          refine ⟨fun h => ?_, fun h h' => h ?_⟩
          · rw [take_snoc hkb, take_snoc hkc, hH.out, ← e1, ← e2, h]
          · subst h'
            rw [e1, e2]
        rcases HN.out.1.row.below hbw with h0 | ⟨g1, o1, rfl, hg1, hc1⟩
        · rw [h0] at hkX; simp at hkX
        rcases HN.out.2.1.row.below hbw with h0 | ⟨g2, o2, rfl, hg2, hc2⟩
        · rw [h0] at hkY; simp at hkY
        have d0 := hc1 k hkX 0 _ rfl
        have d1 := hc2 k hkY 0 _ rfl
        clear hc1 hc2 e1 e2
        generalize X[k] = x at *
        generalize Y[k] = y at *
        obtain ⟨⟨ax, cx⟩, l⟩ := x
        obtain ⟨⟨ay, cy⟩, l'⟩ := y
        simp only [Nat.mul_one, Nat.add_zero] at d0 d1 hq1 hq2 hb1 hb2 HE
        have v1 := convN (w := wr.drew) cx (hq1.below (Below.refl _ wr).drew)
        have v2 := convN (w := wr.drew) cy (hq2.below (Below.refl _ wr).drew)
        have HS : Hid (strN l = strN l' → l = l') := strN_inj hb1 hb2
        clear hq1 hq2 hb1 hb2
        generalize l.length = n1 at *
        generalize l'.length = n2 at *
        by_cases hs : strN l = strN l'
        · have HF : Hid (bs.take (k + 1) = cs.take (k + 1)) := HE.out.1 (HS.out hs)
          generalize strN l = t1 at *
          generalize strN l' = t2 at *
          subst hs
          go_wp2_with fail
          go_region_with (fail)
          all_goals
            go_wp2
            go_roundw
            case rel => exact ⟨k + 1, by omega, by go_num, HF, by obtain ⟨q, hq⟩ := hQ.out; exact ⟨q + 1, by rw [hq]; rfl⟩⟩
            case measure => simp [intOf]; omega
        · have HF : Hid (bs ≠ cs) := HE.out.2 (fun h => hs (by rw [h]))
          generalize strN l = t1 at *
          generalize strN l' = t2 at *
          have hd1 : (t1.toList == t2.toList) = false := beq_false_of_ne (fun h => hs (bytes_toList_inj h))
          go_wp2_with fail
          go_region_with (fail)
          all_goals
            go_wp2
            go_ret
            exact ⟨by rw [decide_eq_false HF.out]; rfl, by obtain ⟨q, hq⟩ := hQ.out; exact ⟨q + 1, by rw [hq]; rfl⟩⟩
      · have HF : Hid (bs = cs) := by
          have := hH.out
          rwa [List.take_of_length_le (by have := HN.out.2.2.2.2.1; have := HN.out.2.2.2.2.2.2.1; omega), List.take_of_length_le (by have := HN.out.2.2.2.2.2.1; have := HN.out.2.2.2.2.2.2.2; omega)] at this
        go_wp2
        go_ret
        exact ⟨by rw [decide_eq_true HF.out]; rfl, hQ.out⟩
  · have HF : Hid (bs ≠ cs) := fun h => hnm (by have := HN.out.2.2.2.2; rw [h] at this; omega)
    go_wp2
    go_ret
    exact ⟨by rw [decide_eq_false HF.out]; rfl, 0, rfl⟩

theorem sameNet_any (R S : Nat → Prop) (a b : Option Addr) (n m c d : Nat) (X Y : List XN) (bs cs : List (List Nat)) (w : World) (hX : NetF R w a n X bs) (hY : NetF S w b m Y cs) (hb : ∀ x ∈ bs, Byt x) (hc : ∀ x ∈ cs, Byt x) (hl : X.length ≤ 1000000) :
    Calls Try.prog 14 #[.slice a n c, .slice b m d] w fun e w' => e = .returned (.bool (decide (bs = cs))) ∧ Below w.heap.size w w' := by
  refine (sameNet_q R S a b n m c d X Y bs cs w hX hY hb hc hl).mono ?_
  rintro e w' ⟨rfl, q, rfl⟩
  exact ⟨rfl, drewN_below w q⟩

end Go.Proofs.Ytmjekpdgmdpndaa
