/- Several texts in one: What the document's Who does, called at a house whose deeds lie in memory; Houses that right logs make: their deeds, as locks read them. -/
import Derived.Test.YtikmnaegalmfeaaKLock1
import Derived.Test.YtikmnaegalmfeaaKRefH
import Derived.Test.YtikmnaegalmfeaaKJ16
import Derived.Test.YtikmnaegalmfeaaKLock2
namespace Go.Proofs.Ytikmnaegalmfeaa
open Go.RowKit
attribute [local go_sem ↓] Go.wp_at_zero Go.wp_at_succ

set_option maxRecDepth 20000 in
set_option maxHeartbeats 2000000 in
theorem refWho_any (la ra da : Option Addr) (nl lc nr rc nd dc : Nat) (s0 s1 s2 s3 key : Int) (XR : List XD) (w : World) (hn : nr = XR.length) (hl : XR.length ≤ 9223372036854775807) (hm : ∀ x ∈ XR, x.2.2.length ≤ 9223372036854775807) (hp : DeedsAt w ra XR) :
    Calls Try.prog 19 #[.agg #[.slice la nl lc, .int .i64 s0, .int .i64 s1, .int .i64 s2, .int .i64 s3, .slice ra nr rc, .slice da nd dc], .int .i64 key] w fun e w' => e = .returned (.int .i64 (whoB (XR.map stripD) key)) ∧ Below w.heap.size w w' := by
  have HN : Hid (nr = XR.length ∧ XR.length ≤ 9223372036854775807 ∧ (∀ x ∈ XR, x.2.2.length ≤ 9223372036854775807) ∧ DeedsAt w ra XR) := ⟨hn, hl, hm, hp⟩
  have hnl : nr ≤ 9223372036854775807 := by omega
  clear hn hl hm hp
  go_enter Try.func19, Try.ntmps19
  go_wp2
  have hb0 := below1 w (.cells #[.slice la nl lc, .int .i64 s0, .int .i64 s1, .int .i64 s2, .int .i64 s3, .slice ra nr rc, .slice da nd dc] 31)
  generalize w.alloc (.cells #[.slice la nl lc, .int .i64 s0, .int .i64 s1, .int .i64 s2, .int .i64 s3, .slice ra nr rc, .slice da nd dc] 31) = W at *
  go_loopw [12] (fun i w' => ∃ k : Nat, k ≤ nr ∧ i = .int .i64 k ∧ Hid (∀ x ∈ XR.take k, hasK x.2.2 key = false) ∧ Below w.heap.size w w') (fun i _ => nr - (intOf i).toNat)
  case atStart => exact ⟨0, Nat.zero_le _, rfl, (fun x hx => by simp at hx), hb0⟩
  case round =>
    obtain ⟨k, hk, rfl, hno, hbw⟩ := hrel
    have hsz := hbw.size
    by_cases hlt : k < nr
    · have hkX : k < XR.length := by have := HN.out.1; omega
      obtain ⟨g, o, rfl, hg, d0, d1, hq⟩ := (HN.out.2.2.2.below hbw).get hkX
      have hmk := HN.out.2.2.1 _ (List.getElem_mem hkX)
      have HI : Hid (hasK XR[k].2.2 key = true → whoB (XR.map stripD) key = XR[k].1) := fun h => by
        have h := whoB_first (D := XR.map stripD) (k := key) (i := k) (by rw [List.length_map]; exact hkX) (by rw [List.getElem_map]; exact h) (fun j hj hji => by rw [List.getElem_map]; exact hno.out _ (List.mem_take_iff_getElem.2 ⟨j, by rw [List.length_map] at hj; omega, rfl⟩))
        rw [h, List.getElem_map]
        rfl
      have HJ : Hid (hasK XR[k].2.2 key = false → ∀ x ∈ XR.take (k + 1), hasK x.2.2 key = false) := fun h x hx => by
        rw [take_snoc hkX] at hx
        rcases List.mem_append.1 hx with hx | hx
        · exact hno.out x hx
        · rw [List.mem_singleton.1 hx]; exact h
      clear hno
      generalize XR[k] = x at *
      obtain ⟨dd, ⟨ax, cx⟩, l⟩ := x
      simp only at d0 d1 hq hmk HI HJ
      have hbV := below1 wr (.cells #[.int .i64 dd, .slice ax l.length cx] 69)
      have hrV : Blk (wr.alloc (.cells #[.int .i64 dd, .slice ax l.length cx] 69)) wr.heap.size #[.int .i64 dd, .slice ax l.length cx] 69 := Blk.new _ _ _
      have HQ : Hid (PartsAt (wr.alloc (.cells #[.int .i64 dd, .slice ax l.length cx] 69)) ax l ∧ Below w.heap.size w (wr.alloc (.cells #[.int .i64 dd, .slice ax l.length cx] 69))) := ⟨hq.below hbV, hbw.trans (hbV.mono hsz)⟩
      clear hq hbV hbw
      generalize hll : l.length = n2 at *
      have HL : Hid (l.length = n2) := hll
      clear hll
      go_wp2
      clear d0 d1
      generalize wr.alloc (.cells #[.int .i64 dd, .slice ax n2 cx] 69) = V at *
      generalize wr = wo at *
      go_loopw [19] (fun i w' => ∃ j : Nat, j ≤ n2 ∧ i = .int .i64 j ∧ Hid (hasK (l.take j) key = false) ∧ Below V.heap.size V w') (fun i _ => n2 - (intOf i).toNat)
      case atStart => exact ⟨0, Nat.zero_le _, rfl, rfl, Below.refl _ _⟩
      case round =>
        obtain ⟨j, hj, rfl, hnj, hbj⟩ := hrel
        have hszj := hbj.size
        have hBj : Below w.heap.size w wr := HQ.out.2.trans (hbj.mono HQ.out.2.size)
        by_cases hltj : j < n2
        · have hjl : j < l.length := by rw [HL.out]; exact hltj
          rcases HQ.out.1.below hbj with h0 | ⟨g2, o2, rfl, hg2, hc2⟩
          · rw [h0] at hjl; simp at hjl
          obtain ⟨e0, e1, e2⟩ := hc2 j hjl
          have HA : Hid (l[j].2.1 = key → hasK l key = true) := fun h => by
            unfold hasK
            rw [List.any_eq_true]
            exact ⟨_, List.getElem_mem hjl, by simpa using h⟩
          have HB : Hid (¬ l[j].2.1 = key → hasK (l.take (j + 1)) key = false) := fun h => by
            rw [take_snoc hjl, hasK_snoc, hnj.out, decide_eq_false h]; rfl
          have hrw := hrV.below hbj hrV.lt
          have q0 := hrw.cell 0
          have hql := hrw.lt
          simp at q0
          have hbp := hBj
          clear hc2 hnj hrw
          generalize l[j] = p at *
          obtain ⟨ph, pk, pn⟩ := p
          simp only at e0 e1 e2 HA HB
          have hBn : Below w.heap.size w (wr.alloc (.cells #[.int .i64 ph, .int .i64 pk, .int .i64 pn] 45)) := hBj.trans ((below1 wr _).mono hBj.size)
          have hBm : Below V.heap.size V (wr.alloc (.cells #[.int .i64 ph, .int .i64 pk, .int .i64 pn] 45)) := hbj.trans ((below1 wr _).mono hbj.size)
          by_cases hd : pk = key
          · have HF : Hid (whoB (XR.map stripD) key = dd) := HI.out (HA.out hd)
            subst hd
            clear HA HB HI HJ
            go_wp2
            go_ret
            exact ⟨ret_int HF.out.symm, hBn⟩
          · have HF : Hid (hasK (l.take (j + 1)) key = false) := HB.out hd
            have hd' : (pk == key) = false := by simpa using hd
            clear HA HB HI hd
            go_wp2
            go_roundw
            case rel => exact ⟨j + 1, by omega, by go_num, HF, hBm⟩
            case measure => simp [intOf]; omega
        · have HF : Hid (∀ x ∈ XR.take (k + 1), hasK x.2.2 key = false) := HJ.out (by have := hnj.out; rwa [List.take_of_length_le (by rw [HL.out]; omega)] at this)
          clear HI HJ hnj
          go_wp2
          go_roundw
          case rel => exact ⟨k + 1, by omega, by go_num, HF, hBj⟩
          case measure => simp [intOf]; omega
    · have HF : Hid (whoB (XR.map stripD) key = -1) := by
        show _ = _
        refine whoB_none ?_
        unfold atK
        rw [List.any_map, List.any_eq_false]
        intro x hx
        have := hno.out x (by rw [List.take_of_length_le (by have := HN.out.1; omega)]; exact hx)
        simpa [stripD] using this
      clear hno
      go_wp2
      go_ret
      exact ⟨ret_int HF.out.symm, hbw⟩

end Go.Proofs.Ytikmnaegalmfeaa

namespace Go.Proofs.Ytikmnaegalmfeaa
open Go.RowKit

/-- What a house is ready for, as it lies. -/
structure RdyAt (w : World) (ra : Option Addr) (nr : Nat) (XR : List XD) (D : List D2) : Prop where
  n : nr = XR.length
  few : XR.length ≤ 9223372036854775807
  small : ∀ x ∈ XR, x.2.2.length ≤ 9223372036854775807
  lies : DeedsAt w ra XR
  says : XR.map stripD = D
theorem RdyAt.below {w w' : World} {ra : Option Addr} {nr : Nat} {XR : List XD} {D : List D2} (h : RdyAt w ra nr XR D) (hb : Below w.heap.size w w') : RdyAt w' ra nr XR D := ⟨h.n, h.few, h.small, h.lies.below hb, h.says⟩
/-- A house's value, opened. -/
theorem HouseAt.open {w : World} {v : Value} {L : List R3} {h : H3} {k : Nat} (hh : HouseAt w v L h) (hi : HInv k h) (hk : k ≤ 9223372036854775807) : ∃ (la : Option Addr) (nl lc : Nat) (ra : Option Addr) (nr rc : Nat) (XR : List XD) (da : Option Addr) (nd dc : Nat),
    v = .agg #[.slice la nl lc, .int .i64 h.1.1, .int .i64 h.1.2.1, .int .i64 h.1.2.2.1, .int .i64 h.1.2.2.2, .slice ra nr rc, .slice da nd dc] ∧ RdyAt w ra nr XR h.2.1 := by
  obtain ⟨la, nl, lc, Y, ra, nr, rc, XR, da, nd, dc, hv, _, ⟨h4, h5, h6⟩, _⟩ := hh
  refine ⟨la, nl, lc, ra, nr, rc, XR, da, nd, dc, hv, h4, ?_, ?_, h6, h5⟩
  · have h1 := hi.few
    rw [← h5, List.length_map] at h1
    omega
  · intro x hx
    have h1 := (hi.ok (stripD x) (by rw [← h5]; exact List.mem_map.2 ⟨x, hx, rfl⟩)).1
    have h2 : x.2.2.length ≤ 4 := h1
    omega
theorem refWhoR_any (la ra da : Option Addr) (nl lc nr rc nd dc : Nat) (s0 s1 s2 s3 key : Int) (XR : List XD) (D : List D2) (w : World) (h : RdyAt w ra nr XR D) :
    Calls Try.prog 19 #[.agg #[.slice la nl lc, .int .i64 s0, .int .i64 s1, .int .i64 s2, .int .i64 s3, .slice ra nr rc, .slice da nd dc], .int .i64 key] w fun e w' => e = .returned (.int .i64 (whoB D key)) ∧ Below w.heap.size w w' := by
  rw [← h.says]
  exact refWho_any la ra da nl lc nr rc nd dc s0 s1 s2 s3 key XR w h.n h.few h.small h.lies
theorem freeR_any (la ra da pa : Option Addr) (nl lc nr rc nd dc np pc : Nat) (s0 s1 s2 s3 : Int) (XR : List XD) (D : List D2) (l : List P3) (w : World) (h : RdyAt w ra nr XR D) (hnp : np = l.length) (hlp : l.length ≤ 9223372036854775807) (hq : PartsAt w pa l) :
    Calls Try.prog 39 #[.agg #[.slice la nl lc, .int .i64 s0, .int .i64 s1, .int .i64 s2, .int .i64 s3, .slice ra nr rc, .slice da nd dc], .slice pa np pc] w fun e w' => e = .returned (.bool (freeB D l)) ∧ Below w.heap.size w w' := by
  rw [← h.says]
  exact free_any la ra da pa nl lc nr rc nd dc np pc s0 s1 s2 s3 XR l w h.n h.few h.small h.lies hnp hlp hq

end Go.Proofs.Ytikmnaegalmfeaa
