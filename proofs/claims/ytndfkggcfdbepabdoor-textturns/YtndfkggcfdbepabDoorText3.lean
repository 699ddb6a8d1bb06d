/- What text.isDigit, value, needless, count and read do. -/
import Derived.Test.YtndfkggcfdbepabDoorText1
import Derived.Deep.DeepCutAuto
import Derived.Deep.RegionHeld3
import Derived.Deep.DrawnRows
namespace Go.Proofs.YtndfkggcfdbepabDoor
open Go.RowKit

theorem isDigit_any (c : UInt8) (w : World) :
    Calls Tryd.prog 21 #[.int .u8 c.toNat] w fun e w' => e = .returned (.bool (isDig c)) ∧ w' = w := by
  go_enter Tryd.func21, Tryd.ntmps21
  go_wp2
  all_goals
    go_ret
    refine ⟨ret_bool ?_, rfl⟩
    unfold isDig
    rw [Bool.eq_iff_iff]; simp_all
    try omega
theorem value_any (c : UInt8) (hd : isDig c = true) (w : World) :
    Calls Tryd.prog 24 #[.int .u8 c.toNat] w fun e w' => e = .returned (.int .i64 (valB c)) ∧ w' = w := by
  simp only [isDig, decide_eq_true_eq] at hd
  obtain ⟨d1, d2⟩ := hd
  go_enter Tryd.func24, Tryd.ntmps24
  go_wp2
  go_ret
  exact ⟨ret_int rfl, rfl⟩

theorem bidx (l : List UInt8) (k : Nat) (h : k < (⟨l.toArray⟩ : ByteArray).size) : (⟨l.toArray⟩ : ByteArray)[k]'h = l[k]'h := rfl
attribute [local go_sem] bidx

theorem needless_any (sg d : UInt8) (ds : List UInt8) (w : World) (hl : ds.length ≤ 4611686018427387904) :
    Calls Tryd.prog 22 #[.int .u8 sg.toNat, .string ⟨(d :: ds).toArray⟩] w fun e w' => e = .returned (.bool (needB sg (d :: ds))) ∧ w' = w := by
  have e1 : (d == (48 : UInt8)) = decide ((d.toNat : Int) = 48) := by
    rw [Bool.eq_iff_iff]; simp only [beq_iff_eq, decide_eq_true_eq]
    constructor
    · intro e; subst e; rfl
    · intro e; exact UInt8.toNat.inj (by show d.toNat = 48; omega)
  have e2 : (sg == (45 : UInt8)) = decide ((sg.toNat : Int) = 45) := by
    rw [Bool.eq_iff_iff]; simp only [beq_iff_eq, decide_eq_true_eq]
    constructor
    · intro e; subst e; rfl
    · intro e; exact UInt8.toNat.inj (by show sg.toNat = 45; omega)
  have HN : Hid (needB sg (d :: ds) = (decide ((d.toNat : Int) = 48) && (decide (1 < ds.length + 1) || decide ((sg.toNat : Int) = 45)))) := by
    show _ = _
    rw [← e1, ← e2]; rfl
  clear e1 e2
  go_enter Tryd.func22, Tryd.ntmps22
  go_wp2
  all_goals
    go_ret
    refine ⟨ret_bool ?_, rfl⟩
    rw [HN.out]
    rw [Bool.eq_iff_iff]; simp_all
    try omega

theorem countGo_step {ds : List UInt8} {k : Nat} (h : k < ds.length) (m : Int) : countGo m (ds.drop k) = if isDig ds[k] = true then countGo (if m ≤ 1048576 then m * 10 + valB ds[k] else m) (ds.drop (k + 1)) else none := by
  rw [List.drop_eq_getElem_cons h]; rfl

def countV (o : Option Int) : Value := match o with
  | some n => .tuple #[.int .i64 n, .bool true]
  | none => .tuple #[.int .i64 0, .bool false]

set_option maxHeartbeats 1000000 in
theorem count_any (ds : List UInt8) (w : World) (hl : ds.length ≤ 4611686018427387904) :
    Calls Tryd.prog 23 #[.string ⟨ds.toArray⟩] w fun e w' => e = .returned (countV (countGo 0 ds)) ∧ w' = w := by
  go_enter Tryd.func23, Tryd.ntmps23
  go_wp2
  go_loopw [4, 8] (fun v i w' => ∃ (k : Nat) (m : Int), k ≤ ds.length ∧ i = .int .i64 k ∧ v = .int .i64 m ∧ 0 ≤ m ∧ m ≤ 20000000 ∧ Hid (countGo 0 ds = countGo m (ds.drop k)) ∧ w' = w) (fun _ i _ => ds.length - (intOf i).toNat)
  case atStart => exact ⟨0, 0, Nat.zero_le _, rfl, rfl, by omega, by omega, (rfl : _ = _), rfl⟩
  case round =>
    obtain ⟨k, m, hk, rfl, rfl, hm0, hm1, HC, rfl⟩ := hrel
    by_cases hlt : k < ds.length
    · have HS : Hid (countGo 0 ds = if isDig ds[k] = true then countGo (if m ≤ 1048576 then m * 10 + valB ds[k] else m) (ds.drop (k + 1)) else none) := by
        show _ = _
        rw [HC.out, countGo_step hlt]
      clear HC
      go_wp2_with fail
      refine (isDigit_any ds[k] wr).mono ?_
      rintro e w' ⟨rfl, rfl⟩
      cases hd : isDig ds[k]
      · have HE : Hid (countGo 0 ds = none) := by
          show _ = _
          rw [HS.out, hd]; rfl
        clear HS
        go_wp2
        refine bodyPost_ret (v := .tuple #[.int .i64 0, .bool false]) ?_ rfl ⟨by rw [HE.out]; rfl, rfl⟩
        simp [results, Tryd.results23, go_sem]
      · obtain ⟨_, v0, v9⟩ := dig_back hd
        by_cases hm : m ≤ 1048576
        · have HE : Hid (countGo 0 ds = countGo (m * 10 + valB ds[k]) (ds.drop (k + 1))) := by
            show _ = _
            rw [HS.out, hd, if_pos rfl, if_pos hm]
          clear HS
          have hw1 : IntKind.i64.wrap (m * 10) = m * 10 := by rw [IntKind.wrap_i64]; omega
          have hw2 : IntKind.i64.wrap (m * 10 + valB ds[k]) = m * 10 + valB ds[k] := by rw [IntKind.wrap_i64]; omega
          go_wp2_with fail
          refine (value_any ds[k] hd _).mono ?_
          rintro e w' ⟨rfl, rfl⟩
          go_wp2
          go_roundw
          case rel => exact ⟨k + 1, m * 10 + valB ds[k], by omega, by go_num, rfl, by omega, by omega, HE, trivial⟩
          case measure => simp [intOf]; omega
        · have HE : Hid (countGo 0 ds = countGo m (ds.drop (k + 1))) := by
            show _ = _
            rw [HS.out, hd, if_pos rfl, if_neg hm]
          clear HS
          go_wp2
          go_roundw
          case rel => exact ⟨k + 1, m, by omega, by go_num, rfl, by omega, by omega, HE, trivial⟩
          case measure => simp [intOf]; omega
    · have HE : Hid (countGo 0 ds = some m) := by
        show _ = _
        rw [HC.out, List.drop_eq_nil_of_le (by omega)]; rfl
      clear HC
      go_wp2
      refine bodyPost_ret (v := .tuple #[.int .i64 m, .bool true]) ?_ rfl ⟨by rw [HE.out]; rfl, rfl⟩
      simp [results, Tryd.results23, go_sem]

def readV (o : Option P3) : Value := match o with
  | some p => .tuple #[.agg #[.int .i64 p.1, .int .i64 p.2.1, .int .i64 p.2.2], .bool true]
  | none => .tuple #[.agg #[.int .i64 0, .int .i64 0, .int .i64 0], .bool false]

theorem readB_short {x : List UInt8} (h : x.length ≤ 4) : readB x = none := by
  match x, h with
  | [], _ => rfl
  | [_], _ => rfl
  | [_, _], _ => rfl
  | [_, _, _], _ => rfl
  | [a, b, c, d], _ => simp [readB]

set_option maxHeartbeats 1000000 in
theorem read_short (x : ByteArray) (w : World) (h : x.size ≤ 4) :
    Calls Tryd.prog 14 #[.string x] w fun e w' => e = .returned (readV none) ∧ Below w.heap.size w w' := by
  go_enter Tryd.func14, Tryd.ntmps14
  go_wp2
  refine bodyPost_ret (v := readV none) ?_ rfl ⟨rfl, below1 _ _⟩
  simp [results, Tryd.results14, go_sem, readV]

theorem u8_ne {a : UInt8} {n : Nat} (hn : n < 256) (h : a ≠ UInt8.ofNat n) : ¬ (a.toNat : Int) = n := by
  intro e
  apply h
  apply UInt8.toNat.inj
  rw [UInt8.toNat_ofNat']
  omega

theorem countGo_le : ∀ (ds : List UInt8) (m n : Int), 0 ≤ m → m ≤ 20000000 → countGo m ds = some n → n ≤ 20000000
  | [], m, n, _, h, e => by simp only [countGo, Option.some.injEq] at e; omega
  | c :: t, m, n, h0, h, e => by
    simp only [countGo] at e
    split at e
    · rename_i hd
      obtain ⟨_, h1, h2⟩ := dig_back hd
      refine countGo_le t _ n ?_ ?_ e <;> split <;> omega
    · cases e
theorem put3 {w : World} {b : Nat} {t : TypeId} {x y z : Value} (h : Blk w b #[x, y, z] t) (u v s : Value) : Blk (((w.setCell ⟨b, 0, none⟩ u).setCell ⟨b, 1, none⟩ v).setCell ⟨b, 2, none⟩ s) b #[u, v, s] t := by
  have := ((h.set 0 u).set 1 v).set 2 s
  simpa using this
theorem below3 {w w' : World} {b : Nat} (h : Below b w w') (u v s : Value) : Below b w (((w'.setCell ⟨b, 0, none⟩ u).setCell ⟨b, 1, none⟩ v).setCell ⟨b, 2, none⟩ s) :=
  ((h.setCell (p := ⟨b, 0, none⟩) (Nat.le_refl _) u).setCell (p := ⟨b, 1, none⟩) (Nat.le_refl _) v).setCell (p := ⟨b, 2, none⟩) (Nat.le_refl _) s

set_option maxRecDepth 20000 in
set_option maxHeartbeats 1000000 in
theorem read_long (h d k sg c : UInt8) (ds : List UInt8) (w : World) (hl : ds.length ≤ 4611686018427387000) :
    Calls Tryd.prog 14 #[.string ⟨(h :: d :: k :: sg :: c :: ds).toArray⟩] w fun e w' => e = .returned (readV (readB (h :: d :: k :: sg :: c :: ds))) ∧ Below w.heap.size w w' := by
  have HR : Hid (readB (h :: d :: k :: sg :: c :: ds) = if isDig h = true ∧ d = 46 ∧ isDig k = true ∧ (sg = 43 ∨ sg = 45) ∧ needB sg (c :: ds) = false then (countGo 0 (c :: ds)).map fun n => (valB h, valB k, if sg = 45 then -n else n) else none) := by
    show _ = _
    simp only [readB]
    simp
  have h5 : ¬ ((ds.length : Int) + 1 + 1 + 1 + 1 + 1 ≤ 4) := by omega
  have e0 : (⟨(h :: d :: k :: sg :: c :: ds).toArray⟩ : ByteArray).extract 4 (ds.length + 1 + 1 + 1 + 1 + 1) = ⟨(c :: ds).toArray⟩ := by
    rw [Lib.extract_eq]; simp
  generalize readB (h :: d :: k :: sg :: c :: ds) = R at *
  go_enter Tryd.func14, Tryd.ntmps14
  go_wp2_with fail
  have hX := Blk.new w #[.int .i64 0, .int .i64 0, .int .i64 0] 32
  have hbX := below1 w (.cells #[.int .i64 0, .int .i64 0, .int .i64 0] 32)
  generalize w.alloc (.cells #[.int .i64 0, .int .i64 0, .int .i64 0] 32) = X at *
  have q0 := hX.cell 0
  have q1 := hX.cell 1
  have q2 := hX.cell 2
  have f0 := hX.free 0
  have f1 := hX.free 1
  have f2 := hX.free 2
  simp at q0 q1 q2
  refine (isDigit_any h X).mono ?_
  rintro e w' ⟨rfl, rfl⟩
  cases hh : isDig h
  · have HE : Hid (R = none) := by
      show _ = _
      rw [HR.out, if_neg (by rw [hh]; simp)]
    clear HR
    go_wp2
    have hp := put3 hX (.int .i64 0) (.int .i64 0) (.int .i64 0)
    refine bodyPost_ret (v := readV none) ?_ rfl ⟨by rw [HE.out], below3 hbX _ _ _⟩
    have p0 := hp.cell 0
    have p1 := hp.cell 1
    have p2 := hp.cell 2
    simp at p0 p1 p2
    simp [results, Tryd.results14, go_sem, readV, p0, p1, p2]
  · by_cases hd : d = 46
    · subst hd
      go_wp2_with fail
      refine (isDigit_any k _).mono ?_
      rintro e w' ⟨rfl, rfl⟩
      cases hk : isDig k
      · have HE : Hid (R = none) := by
          show _ = _
          rw [HR.out, if_neg (by rw [hk]; simp)]
        clear HR
        go_wp2
        have hp := put3 hX (.int .i64 0) (.int .i64 0) (.int .i64 0)
        refine bodyPost_ret (v := readV none) ?_ rfl ⟨by rw [HE.out], below3 hbX _ _ _⟩
        have p0 := hp.cell 0
        have p1 := hp.cell 1
        have p2 := hp.cell 2
        simp at p0 p1 p2
        simp [results, Tryd.results14, go_sem, readV, p0, p1, p2]
      · go_wp2_with fail
        go_quiet (fail)
        have hX : Blk (w'.drewN nq) w.heap.size #[.int .i64 0, .int .i64 0, .int .i64 0] 32 := hX
        have hbX : Below w.heap.size w (w'.drewN nq) := below_drewN hbX _
        clear q0 q1 q2 f0 f1 f2
        generalize w'.drewN nq = Y at *
        have q0 := hX.cell 0
        have q1 := hX.cell 1
        have q2 := hX.cell 2
        have f0 := hX.free 0
        have f1 := hX.free 1
        have f2 := hX.free 2
        simp at q0 q1 q2
        by_cases hp : sg = 43
        · subst hp
          have HND : ∀ w, Calls Tryd.prog 22 #[.int .u8 43, .string ⟨(c :: ds).toArray⟩] w fun e w' => e = .returned (.bool (needB 43 (c :: ds))) ∧ w' = w := fun w => needless_any 43 c ds w (by omega)
          go_wp2_with fail
          refine (HND _).mono ?_
          rintro e w' ⟨rfl, rfl⟩
          cases hn : needB 43 (c :: ds)
          · go_wp2_with fail
            refine (count_any (c :: ds) _ (by simp; omega)).mono ?_
            rintro e w' ⟨rfl, rfl⟩
            cases hc : countGo 0 (c :: ds) with
            | none =>
              have HE : Hid (R = none) := by
                show _ = _
                rw [HR.out, hc]
                split <;> rfl
              clear HR
              simp only [countV]
              go_wp2
              have hp := put3 hX (.int .i64 0) (.int .i64 0) (.int .i64 0)
              refine bodyPost_ret (v := readV none) ?_ rfl ⟨by rw [HE.out], below3 hbX _ _ _⟩
              have p0 := hp.cell 0
              have p1 := hp.cell 1
              have p2 := hp.cell 2
              simp at p0 p1 p2
              simp [results, Tryd.results14, go_sem, readV, p0, p1, p2]
            | some n =>
              have HE : Hid (R = some (valB h, valB k, n)) := by
                show _ = _
                rw [HR.out, hc, hn, if_pos (by simp [hh, hk])]
                rfl
              clear HR
              have hn0 := countGo_nonneg _ _ _ (Int.le_refl 0) hc
              have hn1 := countGo_le _ _ _ (Int.le_refl 0) (by omega) hc
              simp only [countV]
              have HV := value_any h hh
              have HK := value_any k hk
              go_wp2_with fail
              go_region_held3 (fun _ => True) (exact trivial) (
                first
                | (go_at_call 24; refine (HV _).mono ?_; rintro e w2 ⟨rfl, rfl⟩)
                | (go_at_call 24; refine (HK _).mono ?_; rintro e w2 ⟨rfl, rfl⟩))
              all_goals
                have hp : Blk (((w'.setCell ⟨w.heap.size, 0, none⟩ (.int .i64 (valB h))).setCell ⟨w.heap.size, 1, none⟩ (.int .i64 (valB k))).setCell ⟨w.heap.size, 2, none⟩ (.int .i64 (n))).drew w.heap.size #[.int .i64 (valB h), .int .i64 (valB k), .int .i64 (n)] 32 := put3 hX (.int .i64 (valB h)) (.int .i64 (valB k)) (.int .i64 (n))
                have hbp := (below3 hbX (.int .i64 (valB h)) (.int .i64 (valB k)) (.int .i64 (n))).drew
                generalize (((w'.setCell ⟨w.heap.size, 0, none⟩ (.int .i64 (valB h))).setCell ⟨w.heap.size, 1, none⟩ (.int .i64 (valB k))).setCell ⟨w.heap.size, 2, none⟩ (.int .i64 (n))).drew = Z at *
                have p0 := hp.cell 0
                have p1 := hp.cell 1
                have p2 := hp.cell 2
                simp at p0 p1 p2
                clear HV HK q0 q1 q2 f0 f1 f2 hX hbX
                go_wp2
                refine bodyPost_ret (v := readV (some (valB h, valB k, n))) ?_ rfl ⟨by rw [HE.out], hbp⟩
                simp [results, Tryd.results14, go_sem, readV, p0, p1, p2]
          · have HE : Hid (R = none) := by
              show _ = _
              rw [HR.out, hn, if_neg (by simp)]
            clear HR
            go_wp2
            have hp := put3 hX (.int .i64 0) (.int .i64 0) (.int .i64 0)
            refine bodyPost_ret (v := readV none) ?_ rfl ⟨by rw [HE.out], below3 hbX _ _ _⟩
            have p0 := hp.cell 0
            have p1 := hp.cell 1
            have p2 := hp.cell 2
            simp at p0 p1 p2
            simp [results, Tryd.results14, go_sem, readV, p0, p1, p2]
        · have hp2 : ¬ (sg.toNat : Int) = 43 := u8_ne (n := 43) (by omega) hp
          by_cases hm : sg = 45
          · subst hm
            have HND : ∀ w, Calls Tryd.prog 22 #[.int .u8 45, .string ⟨(c :: ds).toArray⟩] w fun e w' => e = .returned (.bool (needB 45 (c :: ds))) ∧ w' = w := fun w => needless_any 45 c ds w (by omega)
            go_wp2_with fail
            refine (HND _).mono ?_
            rintro e w' ⟨rfl, rfl⟩
            cases hn : needB 45 (c :: ds)
            · go_wp2_with fail
              refine (count_any (c :: ds) _ (by simp; omega)).mono ?_
              rintro e w' ⟨rfl, rfl⟩
              cases hc : countGo 0 (c :: ds) with
              | none =>
                have HE : Hid (R = none) := by
                  show _ = _
                  rw [HR.out, hc]
                  split <;> rfl
                clear HR
                simp only [countV]
                go_wp2
                have hp := put3 hX (.int .i64 0) (.int .i64 0) (.int .i64 0)
                refine bodyPost_ret (v := readV none) ?_ rfl ⟨by rw [HE.out], below3 hbX _ _ _⟩
                have p0 := hp.cell 0
                have p1 := hp.cell 1
                have p2 := hp.cell 2
                simp at p0 p1 p2
                simp [results, Tryd.results14, go_sem, readV, p0, p1, p2]
              | some n =>
                have HE : Hid (R = some (valB h, valB k, -n)) := by
                  show _ = _
                  rw [HR.out, hc, hn, if_pos (by simp [hh, hk])]
                  rfl
                clear HR
                have hn0 := countGo_nonneg _ _ _ (Int.le_refl 0) hc
                have hn1 := countGo_le _ _ _ (Int.le_refl 0) (by omega) hc
                have hw : IntKind.i64.wrap (-n) = -n := by rw [IntKind.wrap_i64]; omega
                simp only [countV]
                have HV := value_any h hh
                have HK := value_any k hk
                go_wp2_with fail
                go_region_held3 (fun _ => True) (exact trivial) (
                  first
                  | (go_at_call 24; refine (HV _).mono ?_; rintro e w2 ⟨rfl, rfl⟩)
                  | (go_at_call 24; refine (HK _).mono ?_; rintro e w2 ⟨rfl, rfl⟩))
                all_goals
                  have hp : Blk (((w'.setCell ⟨w.heap.size, 0, none⟩ (.int .i64 (valB h))).setCell ⟨w.heap.size, 1, none⟩ (.int .i64 (valB k))).setCell ⟨w.heap.size, 2, none⟩ (.int .i64 (-n))).drew w.heap.size #[.int .i64 (valB h), .int .i64 (valB k), .int .i64 (-n)] 32 := put3 hX (.int .i64 (valB h)) (.int .i64 (valB k)) (.int .i64 (-n))
                  have hbp := (below3 hbX (.int .i64 (valB h)) (.int .i64 (valB k)) (.int .i64 (-n))).drew
                  generalize (((w'.setCell ⟨w.heap.size, 0, none⟩ (.int .i64 (valB h))).setCell ⟨w.heap.size, 1, none⟩ (.int .i64 (valB k))).setCell ⟨w.heap.size, 2, none⟩ (.int .i64 (-n))).drew = Z at *
                  have p0 := hp.cell 0
                  have p1 := hp.cell 1
                  have p2 := hp.cell 2
                  simp at p0 p1 p2
                  clear HV HK q0 q1 q2 f0 f1 f2 hX hbX
                  go_wp2
                  refine bodyPost_ret (v := readV (some (valB h, valB k, -n))) ?_ rfl ⟨by rw [HE.out], hbp⟩
                  simp [results, Tryd.results14, go_sem, readV, p0, p1, p2]
            · have HE : Hid (R = none) := by
                show _ = _
                rw [HR.out, hn, if_neg (by simp)]
              clear HR
              go_wp2
              have hp := put3 hX (.int .i64 0) (.int .i64 0) (.int .i64 0)
              refine bodyPost_ret (v := readV none) ?_ rfl ⟨by rw [HE.out], below3 hbX _ _ _⟩
              have p0 := hp.cell 0
              have p1 := hp.cell 1
              have p2 := hp.cell 2
              simp at p0 p1 p2
              simp [results, Tryd.results14, go_sem, readV, p0, p1, p2]
          · have hm2 : ¬ (sg.toNat : Int) = 45 := u8_ne (n := 45) (by omega) hm
            have HE : Hid (R = none) := by
              show _ = _
              rw [HR.out, if_neg (fun hc => by rcases hc.2.2.2.1 with e | e; exact hp e; exact hm e)]
            clear HR
            go_wp2
            have hp := put3 hX (.int .i64 0) (.int .i64 0) (.int .i64 0)
            refine bodyPost_ret (v := readV none) ?_ rfl ⟨by rw [HE.out], below3 hbX _ _ _⟩
            have p0 := hp.cell 0
            have p1 := hp.cell 1
            have p2 := hp.cell 2
            simp at p0 p1 p2
            simp [results, Tryd.results14, go_sem, readV, p0, p1, p2]
    · have HE : Hid (R = none) := by
        show _ = _
        rw [HR.out, if_neg (fun hc => hd hc.2.1)]
      clear HR
      have hd2 : ¬ (d.toNat : Int) = 46 := u8_ne (n := 46) (by omega) hd
      go_wp2
      have hp := put3 hX (.int .i64 0) (.int .i64 0) (.int .i64 0)
      refine bodyPost_ret (v := readV none) ?_ rfl ⟨by rw [HE.out], below3 hbX _ _ _⟩
      have p0 := hp.cell 0
      have p1 := hp.cell 1
      have p2 := hp.cell 2
      simp at p0 p1 p2
      simp [results, Tryd.results14, go_sem, readV, p0, p1, p2]

theorem read_any (x : ByteArray) (w : World) (hl : x.size ≤ 4611686018427387000) :
    Calls Tryd.prog 14 #[.string x] w fun e w' => e = .returned (readV (readB x.data.toList)) ∧ Below w.heap.size w w' := by
  rw [Lib.size_eq] at hl
  have hs := Lib.size_eq x
  by_cases h : x.data.toList.length ≤ 4
  · rw [readB_short h]
    exact read_short x w (by omega)
  · have hx := Lib.mk_data x
    revert hl h hx
    generalize x.data.toList = l
    intro hl h hx
    match l, h, hl, hx with
    | a :: d :: k :: sg :: c :: ds, _, hl, hx =>
      rw [← hx]
      exact read_long a d k sg c ds w (by simp at hl; omega)
    | [], h, _, _ => exact absurd (by simp) h
    | [_], h, _, _ => exact absurd (by simp) h
    | [_, _], h, _, _ => exact absurd (by simp) h
    | [_, _, _], h, _, _ => exact absurd (by simp) h
    | [_, _, _, _], h, _, _ => exact absurd (by simp) h

end Go.Proofs.YtndfkggcfdbepabDoor
