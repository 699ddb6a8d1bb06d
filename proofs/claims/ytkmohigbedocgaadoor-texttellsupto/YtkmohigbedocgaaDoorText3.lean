/- What text.isDigit, value, number and read do. -/
import Derived.Test.YtkmohigbedocgaaDoorText1
import Derived.Deep.DeepCutAuto
import Derived.Deep.RegionHeld3
import Derived.Deep.DrawnRows
import Derived.Lib.AtoiErrMem
namespace Go.Proofs.YtkmohigbedocgaaDoor
open Go.RowKit

theorem isDigit_any (c : UInt8) (w : World) :
    Calls Tryd.prog 18 #[.int .u8 c.toNat] w fun e w' => e = .returned (.bool (isDig c)) ∧ w' = w := by
  go_enter Tryd.func18, Tryd.ntmps18
  go_wp2
  all_goals
    go_ret
    refine ⟨ret_bool ?_, rfl⟩
    unfold isDig
    rw [Bool.eq_iff_iff]; simp_all
    try omega
theorem value_any (c : UInt8) (hd : isDig c = true) (w : World) :
    Calls Tryd.prog 20 #[.int .u8 c.toNat] w fun e w' => e = .returned (.int .i64 (valB c)) ∧ w' = w := by
  simp only [isDig, decide_eq_true_eq] at hd
  obtain ⟨d1, d2⟩ := hd
  go_enter Tryd.func20, Tryd.ntmps20
  go_wp2
  go_ret
  exact ⟨ret_int rfl, rfl⟩

theorem bidx (l : List UInt8) (k : Nat) (h : k < (⟨l.toArray⟩ : ByteArray).size) : (⟨l.toArray⟩ : ByteArray)[k]'h = l[k]'h := rfl
attribute [local go_sem] bidx

/-- Go's own errors lie where they must. -/
def Errs (w : World) : Prop := ∃ t1 p1 t2 p2, w.var? Tryd.prog "strconv.ErrSyntax" = some #[.iface t1 p1] ∧ w.var? Tryd.prog "strconv.ErrRange" = some #[.iface t2 p2]
theorem globSyntax : Tryd.prog.globalNamed "strconv.ErrSyntax" = some 0 := by kernel_rfl
theorem globRange : Tryd.prog.globalNamed "strconv.ErrRange" = some 1 := by kernel_rfl
theorem var_below {w w' : World} {n : String} {g : Nat} {cs : Array Value} (hg : Tryd.prog.globalNamed n = some g) (h : w.var? Tryd.prog n = some cs) (hb : Below w.heap.size w w') : w'.var? Tryd.prog n = some cs := by
  unfold World.var? at *
  rw [hg] at h ⊢
  simp only [Option.bind_some] at h ⊢
  have hlt : g < w.heap.size := by
    rcases Nat.lt_or_ge g w.heap.size with h' | h'
    · exact h'
    · rw [Array.getElem?_eq_none h'] at h; cases h
  rw [hb.block g hlt]
  exact h
theorem Errs.on {w w' : World} (h : Errs w) (hb : Below w.heap.size w w') : Errs w' := by
  obtain ⟨t1, p1, t2, p2, h1, h2⟩ := h
  exact ⟨t1, p1, t2, p2, var_below globSyntax h1 hb, var_below globRange h2 hb⟩

/-- strconv.Atoi, of whatever text. -/
theorem atoi_any (x : ByteArray) (w : World) (hl : x.size ≤ 281474976710656) (he : Errs w) :
    Calls Tryd.prog 13 #[.string x] w fun e w' => (∃ n er, e = .returned (.tuple #[.int .i64 n, er]) ∧ ((Lib.atoiAll x.data.toList = .ok n ∧ er = .nilIface) ∨ ((∀ m, Lib.atoiAll x.data.toList ≠ .ok m) ∧ ∃ t v, er = .iface t v))) ∧ Below w.heap.size w w' := by
  obtain ⟨t1, p1, t2, p2, h1, h2⟩ := he
  rcases ha : Lib.atoiAll x.data.toList with n | _ | _
  · refine (Tryd.strconv_Atoi_ok x (by omega) n ha w).mono ?_
    rintro e w' ⟨rfl, hw⟩
    refine ⟨⟨n, _, rfl, .inl ⟨rfl, rfl⟩⟩, ?_⟩
    rcases hw with rfl | ⟨t, rfl⟩
    · exact Below.refl _ _
    · exact Lib.bytesWorld_below _ _ _
  · refine (Tryd.strconv_Atoi_syntax_var x hl ha t1 p1 w h1).mono ?_
    rintro e w' ⟨N, rfl, _, _, hb⟩
    exact ⟨⟨_, _, rfl, .inr ⟨(fun m h => by cases h), _, _, rfl⟩⟩, hb⟩
  · refine (Tryd.strconv_Atoi_range_var x hl ha t2 p2 w h2).mono ?_
    rintro e w' ⟨N, rfl, _, _, hb⟩
    exact ⟨⟨_, _, rfl, .inr ⟨(fun m h => by cases h), _, _, rfl⟩⟩, hb⟩

def numV (o : Option Int) : Value := match o with
  | some n => .tuple #[.int .i64 n, .bool true]
  | none => .tuple #[.int .i64 0, .bool false]

set_option maxHeartbeats 1000000 in
theorem number_any (L : List UInt8) (w : World) (hl : L.length ≤ 281474976710656) (ht : Tab w) (he : Errs w) :
    Calls Tryd.prog 19 #[.string ⟨L.toArray⟩] w fun e w' => e = .returned (numV (numB L)) ∧ Below w.heap.size w w' := by
  have HAT := atoi_any ⟨L.toArray⟩ w (by rw [Lib.size_eq]; simpa using hl) he
  have hL : (⟨L.toArray⟩ : ByteArray).data.toList = L := by simp
  rw [hL] at HAT
  clear hL
  go_enter Tryd.func19, Tryd.ntmps19
  go_wp2_with fail
  refine HAT.mono ?_
  rintro e w1 ⟨⟨n, er, rfl, hcase⟩, hb1⟩
  have ht1 := ht.on hb1
  clear HAT
  rcases hcase with ⟨hok, rfl⟩ | ⟨hbad, t1, v1, rfl⟩
  · obtain ⟨n0, n1⟩ := Lib.atoiAll_bounds hok
    have HNum : Hid (numB L = if signB n = L then some n else none) := by
      show _ = _
      unfold numB
      rw [hok]
    have HS := signed_any n n0 n1 w1 ht1
    clear hok
    generalize signB n = z at *
    go_wp2_with fail
    refine HS.mono ?_
    rintro e w2 ⟨rfl, hb2⟩
    have hB2 : Below w.heap.size w w2 := hb1.trans (hb2.mono hb1.size)
    clear HS
    by_cases hz : z = L
    · have HE : Hid (numB L = some n) := by
        show _ = _
        rw [HNum.out, if_pos hz]
      subst hz
      clear HNum
      go_wp2
      refine bodyPost_ret (v := .tuple #[.int .i64 n, .bool true]) ?_ rfl ⟨by rw [HE.out]; rfl, hB2⟩
      simp [results, Tryd.results19, go_sem]
    · have HE : Hid (numB L = none) := by
        show _ = _
        rw [HNum.out, if_neg hz]
      have hd : (z == L) = false := by simpa using hz
      clear HNum
      go_wp2
      refine bodyPost_ret (v := .tuple #[.int .i64 0, .bool false]) ?_ rfl ⟨by rw [HE.out]; rfl, hB2⟩
      simp [results, Tryd.results19, go_sem]
  · have HE : Hid (numB L = none) := by
      show _ = _
      unfold numB
      cases h : Lib.atoiAll L with
      | ok m => exact absurd h (hbad m)
      | «syntax» => rfl
      | range => rfl
    clear hbad
    go_wp2
    refine bodyPost_ret (v := .tuple #[.int .i64 0, .bool false]) ?_ rfl ⟨by rw [HE.out]; rfl, hb1⟩
    simp [results, Tryd.results19, go_sem]

def readV (o : Option P3) : Value := match o with
  | some p => .tuple #[.agg #[.int .i64 p.1, .int .i64 p.2.1, .int .i64 p.2.2], .bool true]
  | none => .tuple #[.agg #[.int .i64 0, .int .i64 0, .int .i64 0], .bool false]

theorem readB_short {x : List UInt8} (h : x.length ≤ 2) : readB x = none := by
  match x, h with
  | [], _ => rfl
  | [_], _ => rfl
  | [_, _], _ => rfl

set_option maxHeartbeats 1000000 in
theorem read_short (x : ByteArray) (w : World) (h : x.size ≤ 2) :
    Calls Tryd.prog 11 #[.string x] w fun e w' => e = .returned (readV none) ∧ Below w.heap.size w w' := by
  go_enter Tryd.func11, Tryd.ntmps11
  go_wp2
  refine bodyPost_ret (v := readV none) ?_ rfl ⟨rfl, below1 _ _⟩
  simp [results, Tryd.results11, go_sem, readV]

theorem u8_ne {a : UInt8} {n : Nat} (hn : n < 256) (h : a ≠ UInt8.ofNat n) : ¬ (a.toNat : Int) = n := by
  intro e
  apply h
  apply UInt8.toNat.inj
  rw [UInt8.toNat_ofNat']
  omega

theorem put3 {w : World} {b : Nat} {t : TypeId} {x y z : Value} (h : Blk w b #[x, y, z] t) (u v s : Value) : Blk (((w.setCell ⟨b, 0, none⟩ u).setCell ⟨b, 1, none⟩ v).setCell ⟨b, 2, none⟩ s) b #[u, v, s] t := by
  have := ((h.set 0 u).set 1 v).set 2 s
  simpa using this
theorem below3 {w w' : World} {b : Nat} (h : Below b w w') (u v s : Value) : Below b w (((w'.setCell ⟨b, 0, none⟩ u).setCell ⟨b, 1, none⟩ v).setCell ⟨b, 2, none⟩ s) :=
  ((h.setCell (p := ⟨b, 0, none⟩) (Nat.le_refl _) u).setCell (p := ⟨b, 1, none⟩) (Nat.le_refl _) v).setCell (p := ⟨b, 2, none⟩) (Nat.le_refl _) s

set_option maxRecDepth 20000 in
set_option maxHeartbeats 1000000 in
theorem read_long (h d k : UInt8) (ds : List UInt8) (w : World) (hl : ds.length ≤ 281474976710656) (ht : Tab w) (he : Errs w) :
    Calls Tryd.prog 11 #[.string ⟨(h :: d :: k :: ds).toArray⟩] w fun e w' => e = .returned (readV (readB (h :: d :: k :: ds))) ∧ Below w.heap.size w w' := by
  have HR : Hid (readB (h :: d :: k :: ds) = if isDig h = true ∧ d = 46 ∧ isDig k = true then (numB ds).map fun n => (valB h, valB k, n) else none) := by
    show _ = _
    rfl
  have h5 : ¬ ((ds.length : Int) + 1 + 1 + 1 < 3) := by omega
  have e0 : (⟨(h :: d :: k :: ds).toArray⟩ : ByteArray).extract 3 (ds.length + 1 + 1 + 1) = ⟨ds.toArray⟩ := by
    rw [Lib.extract_eq]; simp
  generalize readB (h :: d :: k :: ds) = R at *
  go_enter Tryd.func11, Tryd.ntmps11
  go_wp2_with fail
  have hX := Blk.new w #[.int .i64 0, .int .i64 0, .int .i64 0] 34
  have hbX := below1 w (.cells #[.int .i64 0, .int .i64 0, .int .i64 0] 34)
  generalize w.alloc (.cells #[.int .i64 0, .int .i64 0, .int .i64 0] 34) = X at *
  have q0 := hX.cell 0
  have q1 := hX.cell 1
  have q2 := hX.cell 2
  have f0 := hX.free 0
  have f1 := hX.free 1
  have f2 := hX.free 2
  simp at q0 q1 q2
  refine (isDigit_any h X).mono ?_
  rintro e w' ⟨rfl, rfl⟩
  cases hh : isDig h
  · have HE : Hid (R = none) := by
      show _ = _
      rw [HR.out, if_neg (by rw [hh]; simp)]
    clear HR
    go_wp2
    have hp := put3 hX (.int .i64 0) (.int .i64 0) (.int .i64 0)
    refine bodyPost_ret (v := readV none) ?_ rfl ⟨by rw [HE.out], below3 hbX _ _ _⟩
    have p0 := hp.cell 0
    have p1 := hp.cell 1
    have p2 := hp.cell 2
    simp at p0 p1 p2
    simp [results, Tryd.results11, go_sem, readV, p0, p1, p2]
  · by_cases hd : d = 46
    · subst hd
      go_wp2_with fail
      refine (isDigit_any k _).mono ?_
      rintro e w' ⟨rfl, rfl⟩
      cases hk : isDig k
      · have HE : Hid (R = none) := by
          show _ = _
          rw [HR.out, if_neg (by rw [hk]; simp)]
        clear HR
        go_wp2
        have hp := put3 hX (.int .i64 0) (.int .i64 0) (.int .i64 0)
        refine bodyPost_ret (v := readV none) ?_ rfl ⟨by rw [HE.out], below3 hbX _ _ _⟩
        have p0 := hp.cell 0
        have p1 := hp.cell 1
        have p2 := hp.cell 2
        simp at p0 p1 p2
        simp [results, Tryd.results11, go_sem, readV, p0, p1, p2]
      · have HC := number_any ds w' hl (ht.on hbX) (he.on hbX)
        go_wp2_with fail
        refine HC.mono ?_
        rintro e w2 ⟨rfl, hb2⟩
        replace hX := hX.below hb2 hX.lt
        replace hbX := hbX.trans (hb2.mono hbX.size)
        clear q0 q1 q2 f0 f1 f2 HC hb2
        have q0 := hX.cell 0
        have q1 := hX.cell 1
        have q2 := hX.cell 2
        have f0 := hX.free 0
        have f1 := hX.free 1
        have f2 := hX.free 2
        simp at q0 q1 q2
        cases hc : numB ds with
        | none =>
          have HE : Hid (R = none) := by
            show _ = _
            rw [HR.out, hc]
            split <;> rfl
          clear HR
          simp only [numV]
          go_wp2
          have hp := put3 hX (.int .i64 0) (.int .i64 0) (.int .i64 0)
          refine bodyPost_ret (v := readV none) ?_ rfl ⟨by rw [HE.out], below3 hbX _ _ _⟩
          have p0 := hp.cell 0
          have p1 := hp.cell 1
          have p2 := hp.cell 2
          simp at p0 p1 p2
          simp [results, Tryd.results11, go_sem, readV, p0, p1, p2]
        | some n =>
          have HE : Hid (R = some (valB h, valB k, n)) := by
            show _ = _
            rw [HR.out, hc, if_pos (by simp [hh, hk])]
            rfl
          clear HR
          simp only [numV]
          have HV := value_any h hh
          have HK := value_any k hk
          go_wp2_with fail
          go_region_held3 (fun _ => True) (exact trivial) (
            first
            | (go_at_call 20; refine (HV _).mono ?_; rintro e w3 ⟨rfl, rfl⟩)
            | (go_at_call 20; refine (HK _).mono ?_; rintro e w3 ⟨rfl, rfl⟩))
          all_goals
            have hp : Blk (((w2.setCell ⟨w.heap.size, 0, none⟩ (.int .i64 (valB h))).setCell ⟨w.heap.size, 1, none⟩ (.int .i64 (valB k))).setCell ⟨w.heap.size, 2, none⟩ (.int .i64 (n))).drew w.heap.size #[.int .i64 (valB h), .int .i64 (valB k), .int .i64 (n)] 34 := put3 hX (.int .i64 (valB h)) (.int .i64 (valB k)) (.int .i64 (n))
            have hbp := (below3 hbX (.int .i64 (valB h)) (.int .i64 (valB k)) (.int .i64 (n))).drew
            generalize (((w2.setCell ⟨w.heap.size, 0, none⟩ (.int .i64 (valB h))).setCell ⟨w.heap.size, 1, none⟩ (.int .i64 (valB k))).setCell ⟨w.heap.size, 2, none⟩ (.int .i64 (n))).drew = Z at *
            have p0 := hp.cell 0
            have p1 := hp.cell 1
            have p2 := hp.cell 2
            simp at p0 p1 p2
            clear HV HK q0 q1 q2 f0 f1 f2 hX hbX
            go_wp2
            refine bodyPost_ret (v := readV (some (valB h, valB k, n))) ?_ rfl ⟨by rw [HE.out], hbp⟩
            simp [results, Tryd.results11, go_sem, readV, p0, p1, p2]
    · have HE : Hid (R = none) := by
        show _ = _
        rw [HR.out, if_neg (fun hc => hd hc.2.1)]
      clear HR
      have hd2 : ¬ (d.toNat : Int) = 46 := u8_ne (n := 46) (by omega) hd
      go_wp2
      have hp := put3 hX (.int .i64 0) (.int .i64 0) (.int .i64 0)
      refine bodyPost_ret (v := readV none) ?_ rfl ⟨by rw [HE.out], below3 hbX _ _ _⟩
      have p0 := hp.cell 0
      have p1 := hp.cell 1
      have p2 := hp.cell 2
      simp at p0 p1 p2
      simp [results, Tryd.results11, go_sem, readV, p0, p1, p2]

theorem read_any (x : ByteArray) (w : World) (hl : x.size ≤ 281474976710656) (ht : Tab w) (he : Errs w) :
    Calls Tryd.prog 11 #[.string x] w fun e w' => e = .returned (readV (readB x.data.toList)) ∧ Below w.heap.size w w' := by
  rw [Lib.size_eq] at hl
  have hs := Lib.size_eq x
  by_cases h : x.data.toList.length ≤ 2
  · rw [readB_short h]
    exact read_short x w (by omega)
  · have hx := Lib.mk_data x
    revert hl h hx
    generalize x.data.toList = l
    intro hl h hx
    match l, h, hl, hx with
    | a :: d :: k :: ds, _, hl, hx =>
      rw [← hx]
      exact read_long a d k ds w (by simp at hl; omega) ht he
    | [], h, _, _ => exact absurd (by simp) h
    | [_], h, _, _ => exact absurd (by simp) h
    | [_, _], h, _, _ => exact absurd (by simp) h

end Go.Proofs.YtkmohigbedocgaaDoor
