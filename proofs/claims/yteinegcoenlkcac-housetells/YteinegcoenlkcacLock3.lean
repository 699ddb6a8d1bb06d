/- What the document's Who does, called at a house whose deeds lie in memory. -/
import Derived.Test.YteinegcoenlkcacLock1
namespace Go.Proofs.Yteinegcoenlkcac
open Go.RowKit
attribute [local go_sem ↓] Go.wp_at_zero Go.wp_at_succ

set_option maxRecDepth 20000 in
set_option maxHeartbeats 2000000 in
theorem refWho_any (la ra da : Option Addr) (nl lc nr rc nd dc : Nat) (s0 s1 s2 s3 key : Int) (XR : List XD) (w : World) (hn : nr = XR.length) (hl : XR.length ≤ 9223372036854775807) (hm : ∀ x ∈ XR, x.2.2.length ≤ 9223372036854775807) (hp : DeedsAt w ra XR) :
    Calls Try.prog 15 #[.agg #[.slice la nl lc, .int .i64 s0, .int .i64 s1, .int .i64 s2, .int .i64 s3, .slice ra nr rc, .slice da nd dc], .int .i64 key] w fun e w' => e = .returned (.int .i64 (whoB (XR.map stripD) key)) ∧ Below w.heap.size w w' := by
  have HN : Hid (nr = XR.length ∧ XR.length ≤ 9223372036854775807 ∧ (∀ x ∈ XR, x.2.2.length ≤ 9223372036854775807) ∧ DeedsAt w ra XR) := ⟨hn, hl, hm, hp⟩
  have hnl : nr ≤ 9223372036854775807 := by omega
  clear hn hl hm hp
  go_enter Try.func15, Try.ntmps15
  go_wp2
  have hb0 := below1 w (.cells #[.slice la nl lc, .int .i64 s0, .int .i64 s1, .int .i64 s2, .int .i64 s3, .slice ra nr rc, .slice da nd dc] 32)
  generalize w.alloc (.cells #[.slice la nl lc, .int .i64 s0, .int .i64 s1, .int .i64 s2, .int .i64 s3, .slice ra nr rc, .slice da nd dc] 32) = W at *
  go_loopw [12] (fun i w' => ∃ k : Nat, k ≤ nr ∧ i = .int .i64 k ∧ Hid (∀ x ∈ XR.take k, hasK x.2.2 key = false) ∧ Below w.heap.size w w') (fun i _ => nr - (intOf i).toNat)
  case atStart => exact ⟨0, Nat.zero_le _, rfl, (fun x hx => by simp at hx), hb0⟩
  case round =>
    obtain ⟨k, hk, rfl, hno, hbw⟩ := hrel
    have hsz := hbw.size
    by_cases hlt : k < nr
    · have hkX : k < XR.length := by have := HN.out.1; omega
      obtain ⟨g, o, rfl, hg, d0, d1, hq⟩ := (HN.out.2.2.2.below hbw).get hkX
      have hmk := HN.out.2.2.1 _ (List.getElem_mem hkX)
      have HI : Hid (hasK XR[k].2.2 key = true → whoB (XR.map stripD) key = XR[k].1) := fun h => by
        have h := whoB_first (D := XR.map stripD) (k := key) (i := k) (by rw [List.length_map]; exact hkX) (by rw [List.getElem_map]; exact h) (fun j hj hji => by rw [List.getElem_map]; exact hno.out _ (List.mem_take_iff_getElem.2 ⟨j, by rw [List.length_map] at hj; omega, rfl⟩))
        rw [h, List.getElem_map]
        rfl
      have HJ : Hid (hasK XR[k].2.2 key = false → ∀ x ∈ XR.take (k + 1), hasK x.2.2 key = false) := fun h x hx => by
        rw [take_snoc hkX] at hx
        rcases List.mem_append.1 hx with hx | hx
        · exact hno.out x hx
        · rw [List.mem_singleton.1 hx]; exact h
      clear hno
      generalize XR[k] = x at *
      obtain ⟨dd, ⟨ax, cx⟩, l⟩ := x
      simp only at d0 d1 hq hmk HI HJ
      have hbV := below1 wr (.cells #[.int .i64 dd, .slice ax l.length cx] 36)
      have hrV : Blk (wr.alloc (.cells #[.int .i64 dd, .slice ax l.length cx] 36)) wr.heap.size #[.int .i64 dd, .slice ax l.length cx] 36 := Blk.new _ _ _
      have HQ : Hid (PartsAt (wr.alloc (.cells #[.int .i64 dd, .slice ax l.length cx] 36)) ax l ∧ Below w.heap.size w (wr.alloc (.cells #[.int .i64 dd, .slice ax l.length cx] 36))) := ⟨hq.below hbV, hbw.trans (hbV.mono hsz)⟩
      clear hq hbV hbw
      generalize hll : l.length = n2 at *
      have HL : Hid (l.length = n2) := hll
      clear hll
      go_wp2
      clear d0 d1
      generalize wr.alloc (.cells #[.int .i64 dd, .slice ax n2 cx] 36) = V at *
      generalize wr = wo at *
      go_loopw [19] (fun i w' => ∃ j : Nat, j ≤ n2 ∧ i = .int .i64 j ∧ Hid (hasK (l.take j) key = false) ∧ Below V.heap.size V w') (fun i _ => n2 - (intOf i).toNat)
      case atStart => exact ⟨0, Nat.zero_le _, rfl, rfl, Below.refl _ _⟩
      case round =>
        obtain ⟨j, hj, rfl, hnj, hbj⟩ := hrel
        have hszj := hbj.size
        have hBj : Below w.heap.size w wr := HQ.out.2.trans (hbj.mono HQ.out.2.size)
        by_cases hltj : j < n2
        · have hjl : j < l.length := by rw [HL.out]; exact hltj
          rcases HQ.out.1.below hbj with h0 | ⟨g2, o2, rfl, hg2, hc2⟩
          · rw [h0] at hjl; simp at hjl
          obtain ⟨e0, e1, e2⟩ := hc2 j hjl
          have HA : Hid (l[j].2.1 = key → hasK l key = true) := fun h => by
            unfold hasK
            rw [List.any_eq_true]
            exact ⟨_, List.getElem_mem hjl, by simpa using h⟩
          have HB : Hid (¬ l[j].2.1 = key → hasK (l.take (j + 1)) key = false) := fun h => by
            rw [take_snoc hjl, hasK_snoc, hnj.out, decide_eq_false h]; rfl
          have hrw := hrV.below hbj hrV.lt
          have q0 := hrw.cell 0
          have hql := hrw.lt
          simp at q0
          have hbp := hBj
          clear hc2 hnj hrw
          generalize l[j] = p at *
          obtain ⟨ph, pk, pn⟩ := p
          simp only at e0 e1 e2 HA HB
          have hBn : Below w.heap.size w (wr.alloc (.cells #[.int .i64 ph, .int .i64 pk, .int .i64 pn] 38)) := hBj.trans ((below1 wr _).mono hBj.size)
          have hBm : Below V.heap.size V (wr.alloc (.cells #[.int .i64 ph, .int .i64 pk, .int .i64 pn] 38)) := hbj.trans ((below1 wr _).mono hbj.size)
          by_cases hd : pk = key
          · have HF : Hid (whoB (XR.map stripD) key = dd) := HI.out (HA.out hd)
            subst hd
            clear HA HB HI HJ
            go_wp2
            go_ret
            exact ⟨ret_int HF.out.symm, hBn⟩
          · have HF : Hid (hasK (l.take (j + 1)) key = false) := HB.out hd
            have hd' : (pk == key) = false := by simpa using hd
            clear HA HB HI hd
            go_wp2
            go_roundw
            case rel => exact ⟨j + 1, by omega, by go_num, HF, hBm⟩
            case measure => simp [intOf]; omega
        · have HF : Hid (∀ x ∈ XR.take (k + 1), hasK x.2.2 key = false) := HJ.out (by have := hnj.out; rwa [List.take_of_length_le (by rw [HL.out]; omega)] at this)
          clear HI HJ hnj
          go_wp2
          go_roundw
          case rel => exact ⟨k + 1, by omega, by go_num, HF, hBj⟩
          case measure => simp [intOf]; omega
    · have HF : Hid (whoB (XR.map stripD) key = -1) := by
        show _ = _
        refine whoB_none ?_
        unfold atK
        rw [List.any_map, List.any_eq_false]
        intro x hx
        have := hno.out x (by rw [List.take_of_length_le (by have := HN.out.1; omega)]; exact hx)
        simpa [stripD] using this
      clear hno
      go_wp2
      go_ret
      exact ⟨ret_int HF.out.symm, hbw⟩

end Go.Proofs.Yteinegcoenlkcac
