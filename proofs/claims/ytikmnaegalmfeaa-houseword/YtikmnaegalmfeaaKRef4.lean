/- What the document's Do does, called at right parts and sums within bounds: it is part.Do's plain function. -/
import Derived.Test.YtikmnaegalmfeaaKJ11
namespace Go.Proofs.Ytikmnaegalmfeaa
open Go.RowKit

def ltK (l : List P3) (k : Int) : List P3 := l.filter fun p => decide (p.2.1 < k)
def eqK (l : List P3) (k : Int) : List P3 := l.filter fun p => decide (p.2.1 = k)
theorem eqK_yes {l : List P3} {j : Nat} (hj : j < l.length) (k : Int) (h : l[j].2.1 = k) : eqK (l.take (j + 1)) k = eqK (l.take j) k ++ [l[j]] := by rw [take_snoc hj]; exact eq_snoc_yes _ _ _ h
theorem eqK_no {l : List P3} {j : Nat} (hj : j < l.length) (k : Int) (h : ¬ l[j].2.1 = k) : eqK (l.take (j + 1)) k = eqK (l.take j) k := by rw [take_snoc hj]; exact eq_snoc_no _ _ _ h
theorem inner_within {s : S4} {l : List P3} (hw : Within 2199023255552 s) (hs : Small l) (hl : l.length ≤ 4) (k : Int) (j : Nat) : Within (2199023255552 + 8388608) (doB (doB s (ltK l k)) (eqK (l.take j) k)) := by
  refine within_two hw (small_filter hs _) (small_filter (small_take hs j) _) ?_ ?_
  · exact Nat.le_trans (List.length_filter_le _ _) hl
  · exact Nat.le_trans (List.length_filter_le _ _) (by simp; omega)
theorem do1_key {s : S4} {p : P3} {k : Int} (h : p.2.1 = k) (hk : keyB k = true) : do1 s p = sadd s k p.2.2 := by
  unfold do1; rw [h, if_pos hk]

/-- What an inner round leaves. -/
def InnerAt (w w' : World) (s : S4) (l : List P3) (k : Int) (j : Nat) : Prop :=
  ∃ t0 t1 t2 t3 : Int, doB (doB s (ltK l k)) (eqK (l.take j) k) = (t0, t1, t2, t3) ∧ SumsAt w' w.heap.size t0 t1 t2 t3 ∧ SumsAt w' (w.heap.size + 1) 0 0 0 0 ∧ w.heap.size + 2 ≤ w'.heap.size ∧ Below w.heap.size w w'
/-- What an outer round leaves. -/
def OuterAt (w w' : World) (s : S4) (l : List P3) (k : Int) : Prop :=
  ∃ t0 t1 t2 t3 : Int, doB s (ltK l k) = (t0, t1, t2, t3) ∧ SumsAt w' w.heap.size t0 t1 t2 t3 ∧ SumsAt w' (w.heap.size + 1) 0 0 0 0 ∧ w.heap.size + 2 ≤ w'.heap.size ∧ Below w.heap.size w w'
theorem inner_start {w w' : World} {s : S4} {l : List P3} {k : Int} (h : OuterAt w w' s l k) : InnerAt w w' s l k 0 := h
theorem inner_end {w w' : World} {s : S4} {l : List P3} {k : Int} {j : Nat} (h : InnerAt w w' s l k j) (hj : l.length ≤ j) : OuterAt w w' s l (k + 1) := by
  obtain ⟨t0, t1, t2, t3, e, r⟩ := h
  rw [List.take_of_length_le hj] at e
  exact ⟨t0, t1, t2, t3, by rw [← e]; exact (doB_lt_eq s l k).symm, r⟩
theorem inner_no {w w' w'' : World} {s : S4} {l : List P3} {k : Int} {j : Nat} (h : InnerAt w w' s l k j) (hj : j < l.length) (hk : ¬ l[j].2.1 = k) (hb : Below w'.heap.size w' w'') : InnerAt w w'' s l k (j + 1) := by
  obtain ⟨t0, t1, t2, t3, e, hS, hR, hz, hB⟩ := h
  refine ⟨t0, t1, t2, t3, by rw [eqK_no hj k hk]; exact e, hS.below hb (by omega), hR.below hb (by omega), Nat.le_trans hz hb.size, hB.trans (hb.mono (by omega))⟩
theorem inner_put0 {w w' : World} {s : S4} {l : List P3} {j : Nat} {t0 t1 t2 t3 n : Int} (hj : j < l.length) (hk : l[j].2.1 = 0) (hn : l[j].2.2 = n) (e : doB (doB s (ltK l 0)) (eqK (l.take j) 0) = (t0, t1, t2, t3))
    (hS : SumsAt w' w.heap.size t0 t1 t2 t3) (hR : SumsAt w' (w.heap.size + 1) 0 0 0 0) (hz : w.heap.size + 2 ≤ w'.heap.size) (hB : Below w.heap.size w w') (o : Obj) :
    InnerAt w ((w'.setCell ⟨w.heap.size, 0, none⟩ (.int .i64 (t0 + n))).alloc o).drew s l 0 (j + 1) := by
  refine ⟨t0 + n, t1, t2, t3, ?_, ((hS.put0 _).below (below1 _ o) (by simp; omega)).drew, ((hR.far (by omega) _).below (below1 _ o) (by simp; omega)).drew, by simp; omega, ((hB.setCell (Nat.le_refl _) _).alloc (by simp; omega) o).drew⟩
  rw [eqK_yes hj 0 hk, doB_snoc, e, do1_key hk (by decide), hn]
  simp [sadd]
theorem inner_put1 {w w' : World} {s : S4} {l : List P3} {j : Nat} {t0 t1 t2 t3 n : Int} (hj : j < l.length) (hk : l[j].2.1 = 1) (hn : l[j].2.2 = n) (e : doB (doB s (ltK l 1)) (eqK (l.take j) 1) = (t0, t1, t2, t3))
    (hS : SumsAt w' w.heap.size t0 t1 t2 t3) (hR : SumsAt w' (w.heap.size + 1) 0 0 0 0) (hz : w.heap.size + 2 ≤ w'.heap.size) (hB : Below w.heap.size w w') (o : Obj) :
    InnerAt w ((w'.setCell ⟨w.heap.size, 1, none⟩ (.int .i64 (t1 + n))).alloc o).drew s l 1 (j + 1) := by
  refine ⟨t0, t1 + n, t2, t3, ?_, ((hS.put1 _).below (below1 _ o) (by simp; omega)).drew, ((hR.far (by omega) _).below (below1 _ o) (by simp; omega)).drew, by simp; omega, ((hB.setCell (Nat.le_refl _) _).alloc (by simp; omega) o).drew⟩
  rw [eqK_yes hj 1 hk, doB_snoc, e, do1_key hk (by decide), hn]
  simp [sadd]
theorem inner_put2 {w w' : World} {s : S4} {l : List P3} {j : Nat} {t0 t1 t2 t3 n : Int} (hj : j < l.length) (hk : l[j].2.1 = 2) (hn : l[j].2.2 = n) (e : doB (doB s (ltK l 2)) (eqK (l.take j) 2) = (t0, t1, t2, t3))
    (hS : SumsAt w' w.heap.size t0 t1 t2 t3) (hR : SumsAt w' (w.heap.size + 1) 0 0 0 0) (hz : w.heap.size + 2 ≤ w'.heap.size) (hB : Below w.heap.size w w') (o : Obj) :
    InnerAt w ((w'.setCell ⟨w.heap.size, 2, none⟩ (.int .i64 (t2 + n))).alloc o).drew s l 2 (j + 1) := by
  refine ⟨t0, t1, t2 + n, t3, ?_, ((hS.put2 _).below (below1 _ o) (by simp; omega)).drew, ((hR.far (by omega) _).below (below1 _ o) (by simp; omega)).drew, by simp; omega, ((hB.setCell (Nat.le_refl _) _).alloc (by simp; omega) o).drew⟩
  rw [eqK_yes hj 2 hk, doB_snoc, e, do1_key hk (by decide), hn]
  simp [sadd]
theorem inner_put3 {w w' : World} {s : S4} {l : List P3} {j : Nat} {t0 t1 t2 t3 n : Int} (hj : j < l.length) (hk : l[j].2.1 = 3) (hn : l[j].2.2 = n) (e : doB (doB s (ltK l 3)) (eqK (l.take j) 3) = (t0, t1, t2, t3))
    (hS : SumsAt w' w.heap.size t0 t1 t2 t3) (hR : SumsAt w' (w.heap.size + 1) 0 0 0 0) (hz : w.heap.size + 2 ≤ w'.heap.size) (hB : Below w.heap.size w w') (o : Obj) :
    InnerAt w ((w'.setCell ⟨w.heap.size, 3, none⟩ (.int .i64 (t3 + n))).alloc o).drew s l 3 (j + 1) := by
  refine ⟨t0, t1, t2, t3 + n, ?_, ((hS.put3 _).below (below1 _ o) (by simp; omega)).drew, ((hR.far (by omega) _).below (below1 _ o) (by simp; omega)).drew, by simp; omega, ((hB.setCell (Nat.le_refl _) _).alloc (by simp; omega) o).drew⟩
  rw [eqK_yes hj 3 hk, doB_snoc, e, do1_key hk (by decide), hn]
  simp [sadd]

set_option maxHeartbeats 2000000 in
theorem refDo_any (s0 s1 s2 s3 : Int) (a : Option Addr) (l : List P3) (cap n : Nat) (w : World) (hn : n = l.length) (hl : l.length ≤ 4) (hp : PartsAt w a l) (hs : Small l) (hky : ∀ p ∈ l, keyB p.2.1 = true) (hw : Within 2199023255552 (s0, s1, s2, s3)) :
    Calls Try.prog 29 #[.agg #[.int .i64 s0, .int .i64 s1, .int .i64 s2, .int .i64 s3], .slice a n cap] w fun e w' => (∃ t0 t1 t2 t3 : Int, doB (s0, s1, s2, s3) l = (t0, t1, t2, t3) ∧ e = .returned (.agg #[.int .i64 t0, .int .i64 t1, .int .i64 t2, .int .i64 t3])) ∧ Below w.heap.size w w' := by
  subst hn
  go_enter Try.func29, Try.ntmps29
  go_wp2
  go_loopw [8] (fun i w' => ∃ k : Int, 0 ≤ k ∧ k ≤ 4 ∧ i = .int .i64 k ∧ OuterAt w w' (s0, s1, s2, s3) l k) (fun i _ => (4 - intOf i).toNat)
  case atStart => exact ⟨0, by omega, by omega, rfl, s0, s1, s2, s3, by rw [ltK, filter_lt0 hky]; rfl, by simp [SumsAt], by simp [SumsAt], by simp, below2 _ _ _⟩
  case round =>
    obtain ⟨k, hk0, hk4, rfl, hO⟩ := hrel
    have h5 : k = 0 ∨ k = 1 ∨ k = 2 ∨ k = 3 ∨ k = 4 := by omega
    clear hk0 hk4
    rcases h5 with rfl | rfl | rfl | rfl | rfl
    · have HO : Hid (OuterAt w wr (s0, s1, s2, s3) l 0) := hO
      clear hO
      go_wp2
      go_loopw [13] (fun i w' => ∃ j : Nat, j ≤ l.length ∧ i = .int .i64 j ∧ InnerAt w w' (s0, s1, s2, s3) l 0 j) (fun i _ => l.length - (intOf i).toNat)
      case atStart => exact ⟨0, Nat.zero_le _, rfl, inner_start HO.out⟩
      case round =>
        obtain ⟨j, hj, rfl, hI⟩ := hrel
        clear HO
        by_cases hlt : j < l.length
        · have hwi := inner_within hw hs hl 0 j
          have hI2 := hI
          obtain ⟨t0, t1, t2, t3, e, hS, hR, hz, hB⟩ := hI2
          rw [e] at hwi
          obtain ⟨⟨a1, a2⟩, ⟨b1, b2⟩, ⟨c1, c2⟩, ⟨d1, d2⟩⟩ := hwi
          simp only at a1 a2 b1 b2 c1 c2 d1 d2
          rcases hp with rfl | ⟨b', o, rfl, hb', hc⟩
          · simp at hlt
          obtain ⟨x0, x1, x2⟩ := hc j hlt
          obtain ⟨hn1, hn2⟩ := small_get hs hlt
          obtain ⟨hcc, hff⟩ := bcell hB
          clear hc hw hs hky
          by_cases hkk : l[j].2.1 = 0
          · rw [hkk] at x1
            obtain ⟨m, hm⟩ : ∃ m, l[j].2.2 = m := ⟨_, rfl⟩
            rw [hm] at x2 hn1 hn2
            have HE : Hid (l[j].2.1 = 0 ∧ l[j].2.2 = m ∧ doB (doB (s0, s1, s2, s3) (ltK l 0)) (eqK (l.take j) 0) = (t0, t1, t2, t3)) := ⟨hkk, hm, e⟩
            have HX : Hid (SumsAt wr w.heap.size t0 t1 t2 t3 ∧ SumsAt wr (w.heap.size + 1) 0 0 0 0) := ⟨hS, hR⟩
            have hlt3 : w.heap.size < wr.heap.size := by omega
            obtain ⟨⟨y0, y1, y2, y3⟩, ⟨f0, f1, f2, f3⟩⟩ := hS
            clear hkk hm e hR hI
            go_wp2
            go_region
            go_wp2
            go_roundw
            case rel => exact ⟨j + 1, by omega, by go_num, inner_put0 hlt HE.out.1 HE.out.2.1 HE.out.2.2 HX.out.1 HX.out.2 hz hB _⟩
            case measure => simp [intOf]; omega
          · have hk2 : (l[j].2.1 == 0) = false := by simpa using hkk
            have HI : Hid (InnerAt w wr (s0, s1, s2, s3) l 0 j ∧ ¬ l[j].2.1 = 0) := ⟨hI, hkk⟩
            clear hkk hI e hS hR
            go_wp2
            go_roundw
            case rel => exact ⟨j + 1, by omega, by go_num, inner_no HI.out.1 hlt HI.out.2 (below1 _ _)⟩
            case measure => simp [intOf]; omega
        · have HI : Hid (OuterAt w wr (s0, s1, s2, s3) l (0 + 1)) := inner_end hI (by omega)
          clear hI hp
          go_wp2
          go_roundw
          case rel => exact ⟨0 + 1, by omega, by omega, by go_num, HI.out⟩
          case measure => simp [intOf]
    · have HO : Hid (OuterAt w wr (s0, s1, s2, s3) l 1) := hO
      clear hO
      go_wp2
      go_loopw [13] (fun i w' => ∃ j : Nat, j ≤ l.length ∧ i = .int .i64 j ∧ InnerAt w w' (s0, s1, s2, s3) l 1 j) (fun i _ => l.length - (intOf i).toNat)
      case atStart => exact ⟨0, Nat.zero_le _, rfl, inner_start HO.out⟩
      case round =>
        obtain ⟨j, hj, rfl, hI⟩ := hrel
        clear HO
        by_cases hlt : j < l.length
        · have hwi := inner_within hw hs hl 1 j
          have hI2 := hI
          obtain ⟨t0, t1, t2, t3, e, hS, hR, hz, hB⟩ := hI2
          rw [e] at hwi
          obtain ⟨⟨a1, a2⟩, ⟨b1, b2⟩, ⟨c1, c2⟩, ⟨d1, d2⟩⟩ := hwi
          simp only at a1 a2 b1 b2 c1 c2 d1 d2
          rcases hp with rfl | ⟨b', o, rfl, hb', hc⟩
          · simp at hlt
          obtain ⟨x0, x1, x2⟩ := hc j hlt
          obtain ⟨hn1, hn2⟩ := small_get hs hlt
          obtain ⟨hcc, hff⟩ := bcell hB
          clear hc hw hs hky
          by_cases hkk : l[j].2.1 = 1
          · rw [hkk] at x1
            obtain ⟨m, hm⟩ : ∃ m, l[j].2.2 = m := ⟨_, rfl⟩
            rw [hm] at x2 hn1 hn2
            have HE : Hid (l[j].2.1 = 1 ∧ l[j].2.2 = m ∧ doB (doB (s0, s1, s2, s3) (ltK l 1)) (eqK (l.take j) 1) = (t0, t1, t2, t3)) := ⟨hkk, hm, e⟩
            have HX : Hid (SumsAt wr w.heap.size t0 t1 t2 t3 ∧ SumsAt wr (w.heap.size + 1) 0 0 0 0) := ⟨hS, hR⟩
            have hlt3 : w.heap.size < wr.heap.size := by omega
            obtain ⟨⟨y0, y1, y2, y3⟩, ⟨f0, f1, f2, f3⟩⟩ := hS
            clear hkk hm e hR hI
            go_wp2
            go_region
            go_wp2
            go_roundw
            case rel => exact ⟨j + 1, by omega, by go_num, inner_put1 hlt HE.out.1 HE.out.2.1 HE.out.2.2 HX.out.1 HX.out.2 hz hB _⟩
            case measure => simp [intOf]; omega
          · have hk2 : (l[j].2.1 == 1) = false := by simpa using hkk
            have HI : Hid (InnerAt w wr (s0, s1, s2, s3) l 1 j ∧ ¬ l[j].2.1 = 1) := ⟨hI, hkk⟩
            clear hkk hI e hS hR
            go_wp2
            go_roundw
            case rel => exact ⟨j + 1, by omega, by go_num, inner_no HI.out.1 hlt HI.out.2 (below1 _ _)⟩
            case measure => simp [intOf]; omega
        · have HI : Hid (OuterAt w wr (s0, s1, s2, s3) l (1 + 1)) := inner_end hI (by omega)
          clear hI hp
          go_wp2
          go_roundw
          case rel => exact ⟨1 + 1, by omega, by omega, by go_num, HI.out⟩
          case measure => simp [intOf]
    · have HO : Hid (OuterAt w wr (s0, s1, s2, s3) l 2) := hO
      clear hO
      go_wp2
      go_loopw [13] (fun i w' => ∃ j : Nat, j ≤ l.length ∧ i = .int .i64 j ∧ InnerAt w w' (s0, s1, s2, s3) l 2 j) (fun i _ => l.length - (intOf i).toNat)
      case atStart => exact ⟨0, Nat.zero_le _, rfl, inner_start HO.out⟩
      case round =>
        obtain ⟨j, hj, rfl, hI⟩ := hrel
        clear HO
        by_cases hlt : j < l.length
        · have hwi := inner_within hw hs hl 2 j
          have hI2 := hI
          obtain ⟨t0, t1, t2, t3, e, hS, hR, hz, hB⟩ := hI2
          rw [e] at hwi
          obtain ⟨⟨a1, a2⟩, ⟨b1, b2⟩, ⟨c1, c2⟩, ⟨d1, d2⟩⟩ := hwi
          simp only at a1 a2 b1 b2 c1 c2 d1 d2
          rcases hp with rfl | ⟨b', o, rfl, hb', hc⟩
          · simp at hlt
          obtain ⟨x0, x1, x2⟩ := hc j hlt
          obtain ⟨hn1, hn2⟩ := small_get hs hlt
          obtain ⟨hcc, hff⟩ := bcell hB
          clear hc hw hs hky
          by_cases hkk : l[j].2.1 = 2
          · rw [hkk] at x1
            obtain ⟨m, hm⟩ : ∃ m, l[j].2.2 = m := ⟨_, rfl⟩
            rw [hm] at x2 hn1 hn2
            have HE : Hid (l[j].2.1 = 2 ∧ l[j].2.2 = m ∧ doB (doB (s0, s1, s2, s3) (ltK l 2)) (eqK (l.take j) 2) = (t0, t1, t2, t3)) := ⟨hkk, hm, e⟩
            have HX : Hid (SumsAt wr w.heap.size t0 t1 t2 t3 ∧ SumsAt wr (w.heap.size + 1) 0 0 0 0) := ⟨hS, hR⟩
            have hlt3 : w.heap.size < wr.heap.size := by omega
            obtain ⟨⟨y0, y1, y2, y3⟩, ⟨f0, f1, f2, f3⟩⟩ := hS
            clear hkk hm e hR hI
            go_wp2
            go_region
            go_wp2
            go_roundw
            case rel => exact ⟨j + 1, by omega, by go_num, inner_put2 hlt HE.out.1 HE.out.2.1 HE.out.2.2 HX.out.1 HX.out.2 hz hB _⟩
            case measure => simp [intOf]; omega
          · have hk2 : (l[j].2.1 == 2) = false := by simpa using hkk
            have HI : Hid (InnerAt w wr (s0, s1, s2, s3) l 2 j ∧ ¬ l[j].2.1 = 2) := ⟨hI, hkk⟩
            clear hkk hI e hS hR
            go_wp2
            go_roundw
            case rel => exact ⟨j + 1, by omega, by go_num, inner_no HI.out.1 hlt HI.out.2 (below1 _ _)⟩
            case measure => simp [intOf]; omega
        · have HI : Hid (OuterAt w wr (s0, s1, s2, s3) l (2 + 1)) := inner_end hI (by omega)
          clear hI hp
          go_wp2
          go_roundw
          case rel => exact ⟨2 + 1, by omega, by omega, by go_num, HI.out⟩
          case measure => simp [intOf]
    · have HO : Hid (OuterAt w wr (s0, s1, s2, s3) l 3) := hO
      clear hO
      go_wp2
      go_loopw [13] (fun i w' => ∃ j : Nat, j ≤ l.length ∧ i = .int .i64 j ∧ InnerAt w w' (s0, s1, s2, s3) l 3 j) (fun i _ => l.length - (intOf i).toNat)
      case atStart => exact ⟨0, Nat.zero_le _, rfl, inner_start HO.out⟩
      case round =>
        obtain ⟨j, hj, rfl, hI⟩ := hrel
        clear HO
        by_cases hlt : j < l.length
        · have hwi := inner_within hw hs hl 3 j
          have hI2 := hI
          obtain ⟨t0, t1, t2, t3, e, hS, hR, hz, hB⟩ := hI2
          rw [e] at hwi
          obtain ⟨⟨a1, a2⟩, ⟨b1, b2⟩, ⟨c1, c2⟩, ⟨d1, d2⟩⟩ := hwi
          simp only at a1 a2 b1 b2 c1 c2 d1 d2
          rcases hp with rfl | ⟨b', o, rfl, hb', hc⟩
          · simp at hlt
          obtain ⟨x0, x1, x2⟩ := hc j hlt
          obtain ⟨hn1, hn2⟩ := small_get hs hlt
          obtain ⟨hcc, hff⟩ := bcell hB
          clear hc hw hs hky
          by_cases hkk : l[j].2.1 = 3
          · rw [hkk] at x1
            obtain ⟨m, hm⟩ : ∃ m, l[j].2.2 = m := ⟨_, rfl⟩
            rw [hm] at x2 hn1 hn2
            have HE : Hid (l[j].2.1 = 3 ∧ l[j].2.2 = m ∧ doB (doB (s0, s1, s2, s3) (ltK l 3)) (eqK (l.take j) 3) = (t0, t1, t2, t3)) := ⟨hkk, hm, e⟩
            have HX : Hid (SumsAt wr w.heap.size t0 t1 t2 t3 ∧ SumsAt wr (w.heap.size + 1) 0 0 0 0) := ⟨hS, hR⟩
            have hlt3 : w.heap.size < wr.heap.size := by omega
            obtain ⟨⟨y0, y1, y2, y3⟩, ⟨f0, f1, f2, f3⟩⟩ := hS
            clear hkk hm e hR hI
            go_wp2
            go_region
            go_wp2
            go_roundw
            case rel => exact ⟨j + 1, by omega, by go_num, inner_put3 hlt HE.out.1 HE.out.2.1 HE.out.2.2 HX.out.1 HX.out.2 hz hB _⟩
            case measure => simp [intOf]; omega
          · have hk2 : (l[j].2.1 == 3) = false := by simpa using hkk
            have HI : Hid (InnerAt w wr (s0, s1, s2, s3) l 3 j ∧ ¬ l[j].2.1 = 3) := ⟨hI, hkk⟩
            clear hkk hI e hS hR
            go_wp2
            go_roundw
            case rel => exact ⟨j + 1, by omega, by go_num, inner_no HI.out.1 hlt HI.out.2 (below1 _ _)⟩
            case measure => simp [intOf]; omega
        · have HI : Hid (OuterAt w wr (s0, s1, s2, s3) l (3 + 1)) := inner_end hI (by omega)
          clear hI hp
          go_wp2
          go_roundw
          case rel => exact ⟨3 + 1, by omega, by omega, by go_num, HI.out⟩
          case measure => simp [intOf]
    · obtain ⟨t0, t1, t2, t3, e, hS, hR, hz, hB⟩ := hO
      have HE : Hid (doB (s0, s1, s2, s3) l = (t0, t1, t2, t3)) := by show _ = _; rw [← e, ltK, filter_lt4 hky]
      clear e hp hky hs hw
      obtain ⟨⟨y0, y1, y2, y3⟩, ⟨f0, f1, f2, f3⟩⟩ := hS
      obtain ⟨⟨x0, x1, x2, x3⟩, ⟨g0, g1, g2, g3⟩⟩ := hR
      go_wp2
      refine bodyPost_ret (v := .agg #[.int .i64 t0, .int .i64 t1, .int .i64 t2, .int .i64 t3]) ?_ rfl ⟨⟨t0, t1, t2, t3, HE.out, rfl⟩, (((hB.setCell (by simp) _).setCell (by simp) _).setCell (by simp) _).setCell (by simp) _⟩
      simp [results, Try.results29, go_sem, *]

end Go.Proofs.Ytikmnaegalmfeaa
