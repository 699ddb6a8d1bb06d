/- What the law WireTurns does, called at whatever message, bytes and number. -/
import Derived.Test.YtebiaegnppkdnaaWire8
import Derived.Test.YtebiaegnppkdnaaWireByte
import Derived.Test.YtebiaegnppkdnaaBase
import Derived.Laws.BytesArg
import Derived.Deep.DeepCutAuto
namespace Go.Proofs.Ytebiaegnppkdnaa
open Go.RowKit
attribute [local go_sem ↓] Go.wp_at_zero Go.wp_at_succ

def strB (l : List Nat) : ByteArray := strOfNums (l.map fun c : Nat => (c : Int))
theorem conv_bytes {w : World} {b o : Nat} {l : List Nat} (cap : Nat) (hc : ∀ i (h : i < l.length), w.cell? ⟨b, o + i, none⟩ = some (.int .u8 (l[i] : Nat))) :
    (convert 40 9 (.slice (some ⟨b, o, none⟩) l.length cap)).run Try.prog w = .ok (.string (strB l)) w := by
  refine run_convert_bytes_arg w 40 5 Try.underlying40 Try.underlying5 b o l.length cap _ (by simp) ?_ 9 Try.underlying9
  intro i hi
  rw [hc i hi]
  simp [hi]
theorem own_conv {w : World} {base : Nat} {v : Value} {l : List Nat} (h : OwnB w base v l) (h0 : 0 < l.length) : ∃ g cap, v = .slice (some ⟨g, 0, none⟩) l.length cap ∧ (convert 40 9 (.slice (some ⟨g, 0, none⟩) l.length cap)).run Try.prog w = .ok (.string (strB l)) w := by
  obtain ⟨a, cap, rfl, hat, _⟩ := h.bytes
  rcases h.2 with ⟨hv, h00⟩ | ⟨g, cap', cur, hv, _⟩
  · omega
  · injection hv with e1 _ e3
    subst e1
    rcases hat with rfl | ⟨b, o, e, hlt, hc⟩
    · simp at h0
    · cases e
      exact ⟨g, cap, rfl, conv_bytes cap hc⟩
theorem bytes_src {w : World} {a : Option Addr} {l : List Nat} (h : BytesAt w a l) : SrcAt w a l.length 1 (cells1 l) := by
  refine ⟨by simp [cells1], ?_⟩
  rcases h with rfl | ⟨b, o, rfl, hlt, hc⟩
  · exact Or.inl rfl
  · refine Or.inr ⟨_, rfl, fun j u hj => ?_⟩
    have hadd : (⟨b, o, none⟩ : Addr).add j = ⟨b, o + j, none⟩ := by unfold Addr.add; split <;> simp_all
    have hjl : j < l.length := by
      rcases Nat.lt_or_ge j l.length with h | h
      · exact h
      · rw [List.getElem?_eq_none (by simpa [cells1] using h)] at hj; cases hj
    rw [hadd, hc j hjl]
    simp [cells1, hjl] at hj
    rw [hj]
theorem cells1_append (l m : List Nat) : cells1 (l ++ m) = cells1 l ++ cells1 m := by simp [cells1]

/-- 'append(v, x...)' where v is owned and x are bytes. -/
theorem wpList_append_src {ops : Array Oper} {rest : List Oper} {o : Oper} {a : Act} {Q : Exit → Act → World → Prop} (w : World) (hgd : o.guard = none) (s x : Operand)
    (ho : o.op = .call { callee := .builtin .append, args := #[s, x], argTypes := #[40, 40] })
    (base : Nat) (v : Value) (l : List Nat) (hs : a.eval s = v) (hown : OwnB w base v l) (ad : Option Addr) (m c : Nat) (cs : List Nat) (hm : m = cs.length) (hx : a.eval x = .slice ad m c)
    (hsrc : BytesAt w ad cs) (hl : l.length + cs.length ≤ 140737488355328) (hbase : base ≤ w.heap.size)
    (h : ∀ v' w', OwnB w' base v' (l ++ cs) → Grew w w' v v' → wpList Try.prog ops Q rest (a.put o.dst v') w') : wpList Try.prog ops Q (o :: rest) a w := by
  subst hm
  obtain ⟨i0, hi, hz0, hz1, hz2⟩ := info_parts infoU8
  refine wpList_append_any w hgd s x 40 ho base 5 i0 _ 1 1 Try.underlying40 hi hz0 hz1 hz2 rfl (by decide) v l.length (cells1 l) hs hown ad cs.length c (cells1 cs) hx (bytes_src hsrc) ?_ (by unfold maxLen; omega) (by omega) hbase ?_
  · intro u hu
    simp only [cells1, List.mem_map] at hu
    obtain ⟨c, _, rfl⟩ := hu
    rfl
  · intro v' w' h1 h2 h3
    refine h v' w' ?_ ⟨h2, ?_⟩
    · unfold OwnB
      rw [cells1_append]
      simpa using h1
    · rcases h3 with e | e
      · exact Or.inl e
      · exact Or.inr ⟨_, e, Nat.le_refl _⟩

set_option maxRecDepth 20000 in
set_option maxHeartbeats 4000000 in
theorem wireTurns_any (k d h : Int) (a : Option Addr) (l : List P3) (cap n : Nat) (ab : Option Addr) (bs : List Nat) (capb nb : Nat) (x : Int) (w : World) (hn : n = l.length) (hm : l.length ≤ 9223372036854775807) (hp : PartsAt w a l) (hcap : l.length ≤ cap)
    (hnb : nb = bs.length) (hbs : bs.length ≤ 140737488351232) (hbyt : Byt bs) (hcapb : bs.length ≤ capb) (hmaxb : capb ≤ 9223372036854775807) (hpb : BytesAt w ab bs) :
    Calls Try.prog 5 #[.agg #[.int .i64 k, .int .i64 d, .int .i64 h, .slice a n cap], .slice ab nb capb, .int .i64 x] w fun e w' => e = .returned (.bool true) ∧ Below w.heap.size w w' := by
  subst hn hnb
  go_enter Try.func5, Try.ntmps5
  go_wp2_with fail
  have hB0 : Blk (w.alloc (.cells #[.int .i64 k, .int .i64 d, .int .i64 h, .slice a l.length cap] 39)) w.heap.size #[.int .i64 k, .int .i64 d, .int .i64 h, .slice a l.length cap] 39 := Blk.new _ _ _
  have hbw0 : Below w.heap.size w (w.alloc (.cells #[.int .i64 k, .int .i64 d, .int .i64 h, .slice a l.length cap] 39)) := below1 _ _
  generalize (w.alloc (.cells #[.int .i64 k, .int .i64 d, .int .i64 h, .slice a l.length cap] 39)) = W0 at *
  refine (alive2_any W0).mono ?_
  rintro e w1 ⟨rfl, hb1⟩
  have hB1 := hB0.below hb1 hB0.lt
  have hs1 := hb1.size
  have hs0 := hB0.lt
  have hbw1 : Below w.heap.size w w1 := hbw0.trans (hb1.mono (by omega))
  have hp1 := hp.below hbw1
  have k0 := hB1.cell 0
  have k1 := hB1.cell 1
  have k2 := hB1.cell 2
  have k3 := hB1.cell 3
  simp at k0 k1 k2 k3
  clear hb1 hB0 hbw0
  go_wp2_with fail
  refine (wrongM_any k d h a l cap _ w1 rfl hm hp1 hcap).mono ?_
  obtain ⟨z, HZ⟩ : ∃ z, Hid (wrongM (k, d, h, l) = z) := ⟨_, rfl⟩
  rw [HZ.out]
  rintro e w2 ⟨rfl, hb2⟩
  clear k0 k1 k2 k3
  have hB2 := hB1.below hb2 hB1.lt
  have hs2 := hb2.size
  have hbw2 : Below w.heap.size w w2 := hbw1.trans (hb2.mono (by omega))
  clear hp1 hbw1 hB1 hb2
  go_upto_if 19 with fail
  go_cut [] (fun wx => Below w.heap.size w wx)
  case first =>
    by_cases hw : wrongM (k, d, h, l) = 0
    · skip
      obtain ⟨hk1, hd1, hh1, hl4, hfine⟩ := wrongM_ok hw
      simp only at hk1 hd1 hh1 hl4 hfine
      have HBY := bytes_any k d h a l cap l.length w2 rfl (by omega) (hp.below hbw2) (by omega) (by omega) (fine_nums hfine)
      have HRB := read_bytes hw
      have hbyt1 := bytes_byt hw
      have hz : z = 0 := HZ.out.symm.trans hw
      subst hz
      have k0 := hB2.cell 0
      have k1 := hB2.cell 1
      have k2 := hB2.cell 2
      have k3 := hB2.cell 3
      simp at k0 k1 k2 k3
      clear hw hk1 hd1 hh1 hfine HZ
      generalize bytesB (k, d, h, l) = ms at *
      go_wp2_with fail
      refine HBY.mono ?_
      rintro e w3 ⟨v3, rfl, ho3, hb3⟩
      have hs3 := hb3.size
      have hB3 := hB2.below hb3 hB2.lt
      have hbw3 : Below w.heap.size w w3 := hbw2.trans (hb3.mono (by omega))
      obtain ⟨a3, c3, rfl, hat3, hcap3, hmax3⟩ := ho3.bytes2
      have HRE := read_any a3 ms c3 _ w3 rfl hcap3 hmax3 hbyt1 hat3
      rw [HRB] at HRE
      simp only at HRE
      clear HBY HRB hat3 ho3 hb3 hB2 hbw2 k0 k1 k2 k3
      go_wp2_with fail
      refine HRE.mono ?_
      rintro e w4 ⟨v4, rfl, ho4, hb4⟩
      obtain ⟨a4, c4, rfl, hp4, _⟩ := ho4.parts
      have hs4 := hb4.size
      have hB4 := hB3.below hb4 hB3.lt
      have hbw4 : Below w.heap.size w w4 := hbw3.trans (hb4.mono (by omega))
      have hbX : Below w4.heap.size w4 (w4.alloc (.cells #[.int .i64 k, .int .i64 d, .int .i64 h, .slice a4 l.length c4] 39)) := below1 _ _
      have hBX := hB4.below hbX hB4.lt
      have hmX : Blk (w4.alloc (.cells #[.int .i64 k, .int .i64 d, .int .i64 h, .slice a4 l.length c4] 39)) w4.heap.size #[.int .i64 k, .int .i64 d, .int .i64 h, .slice a4 l.length c4] 39 := Blk.new _ _ _
      have hpX := hp4.below hbX
      have hbwX : Below w.heap.size w (w4.alloc (.cells #[.int .i64 k, .int .i64 d, .int .i64 h, .slice a4 l.length c4] 39)) := hbw4.trans (hbX.mono (by omega))
      have hqX := hp.below hbwX
      have hsX : w4.heap.size ≤ (w4.alloc (.cells #[.int .i64 k, .int .i64 d, .int .i64 h, .slice a4 l.length c4] 39)).heap.size := hbX.size
      have k0 := hBX.cell 0
      have k1 := hBX.cell 1
      have k2 := hBX.cell 2
      have k3 := hBX.cell 3
      simp only [List.getElem?_toArray, List.getElem?_cons_zero, List.getElem?_cons_succ] at k0 k1 k2 k3
      clear HRE ho4 hb4 hB3 hbw3 hp4 hB4 hbw4 hbX
      go_wp2_with fail
      clear k0 k1 k2 k3
      generalize (w4.alloc (.cells #[.int .i64 k, .int .i64 d, .int .i64 h, .slice a4 l.length c4] 39)) = X at *
      refine (sameMsg_self k d h a4 a l c4 cap _ _ X rfl rfl (by omega) hpX hqX).mono ?_
      rintro e w5 ⟨rfl, hb5⟩
      have hbw5 : Below w.heap.size w w5 := hbwX.trans (hb5.mono (by omega))
      have hs5x := hb5.size
      clear hBX hmX hpX hqX hbwX hb5
      go_wp2
      go_meet
      case rel => exact hbw5
    · have hz : ¬ z = 0 := fun e => hw (HZ.out.trans e)
      clear hw HZ
      go_wp2
      go_meet
      case rel => exact hbw2
  case rest =>
    clear hB2 hbw2 hs2 hs1 hs0 HZ
    go_upto_region 7 with fail
    go_cut [39] (fun s39 wx => s39 = .bool (decide (-1099511627776 < x ∧ x < 1099511627776)) ∧ Below w.heap.size w wx)
    case first =>
      by_cases hx : -1099511627776 < x ∧ x < 1099511627776
      · have HD : Hid (decide (-1099511627776 < x ∧ x < 1099511627776) = true) := by show _ = _; simpa using hx
        obtain ⟨hx1, hx2⟩ := hx
        go_wp2
        go_meet
        case rel => exact ⟨by rw [HD.out], hcut⟩
      · have HD : Hid (decide (-1099511627776 < x ∧ x < 1099511627776) = false) := by show _ = _; simpa using hx
        have hx' : x ≤ -1099511627776 ∨ 1099511627776 ≤ x := by omega
        clear hx
        rcases hx' with hx | hx
        · go_wp2
          go_meet
          case rel => exact ⟨by rw [HD.out], hcut⟩
        · go_wp2
          go_meet
          case rel => exact ⟨by rw [HD.out, decide_eq_false (show ¬ x < 1099511627776 by omega)], hcut⟩
    case rest =>
    obtain ⟨rfl, hcut⟩ := hcut
    go_upto_if 39 with fail
    go_cut [] (fun wx => Below w.heap.size w wx)
    case first =>
      by_cases hx : -1099511627776 < x ∧ x < 1099511627776
      · have hd : decide (-1099511627776 < x ∧ x < 1099511627776) = true := by simpa using hx
        obtain ⟨hx1, hx2⟩ := hx
        rw [hd]
        clear hd
        have hbb := hcut
        generalize wc = wb at *
        clear hp hm hcap
        have hsb := hbb.size
        go_wp2_with fail
        refine (number_any x (.slice none 0 0) [] wb.heap.size wb (by omega) (by omega) (by simp) (OwnB.nil _ _) (Nat.le_refl _)).mono ?_
        rintro e wn ⟨vn, rfl, hon, hgn⟩
        have hbn : Below wb.heap.size wb wn := hgn.below (OwnB.nil wb wb.heap.size) (Nat.le_refl _) (Nat.le_refl _)
        have hbwn : Below w.heap.size w wn := hbb.trans (hbn.mono hsb)
        have hsn := hbn.size
        rw [List.nil_append] at hon
        obtain ⟨an, cn, rfl, hatn, hcn, hmaxn⟩ := hon.bytes2
        have hnl := numB_len x
        have hnbyt : Byt (numB x) := numB_byt (by omega) (by omega)
        have HG : Hid (getB (numB x ++ bs) = (x, (numB x).length, 0)) := get_numB hx1 hx2 bs
        generalize numB x = ns at *
        have hpbn := hpb.below hbwn
        clear hon hgn hbn hbb
        have hoE : OwnB (wn.alloc (.cells #[] 5)) wn.heap.size (.slice (some ⟨wn.heap.size, 0, none⟩) 0 0) [] := OwnB.fresh wn (Nat.le_refl _) [] rfl (by simp) #[] rfl
        have hA1 : Below wn.heap.size wn (wn.alloc (.cells #[] 5)) := below1 _ _
        have hatn1 := hatn.below hA1
        have hpbn1 := hpbn.below hA1
        go_wp2_with (at_builtin; first | (refine wpList_append_src _ rfl _ _ rfl wn.heap.size _ [] rfl hoE an ns.length cn ns rfl rfl hatn1 (by simp; omega) (by simp) ?_; intro v5 w5 ho5 hg5; rw [List.nil_append] at ho5; have hb5 : Below wn.heap.size (wn.alloc (.cells #[] 5)) w5 := hg5.below hoE (Nat.le_refl _) (by simp); have hpb5 := hpbn.below (hA1.trans hb5)) | (refine wpList_append_src _ rfl _ _ rfl wn.heap.size _ ns rfl ho5 ab bs.length capb bs rfl rfl hpb5 (by omega) (by have := hb5.size; simp at this; omega) ?_; intro v6 w6 ho6 hg6))
        have hs5 : wn.heap.size ≤ w5.heap.size := by have := hb5.size; simp at this; omega
        have hb6 : Below wn.heap.size w5 w6 := hg6.below ho5 (Nat.le_refl _) hs5
        have hbc : Below w.heap.size w w6 := hbwn.trans (((hA1.trans hb5).trans hb6).mono (Nat.le_trans hsb hsn))
        obtain ⟨a6, c6, rfl, hat6, _, _⟩ := ho6.bytes2
        have hbyt6 : Byt (ns ++ bs) := fun c hc => by
          rcases List.mem_append.1 hc with h | h
          · exact hnbyt c h
          · exact hbyt c h
        have HGE := get_any a6 (ns ++ bs) c6 _ w6 rfl (by simp; omega) hbyt6 hat6
        rw [HG.out] at HGE
        clear hg5 hg6 ho5 ho6 hb5 hb6 hpb5 hat6 hbyt6 HG hA1 hatn1 hpbn1 hoE hpbn hatn hnbyt
        generalize (ns ++ bs).length = nlen at *
        refine HGE.mono ?_
        rintro e w7 ⟨rfl, rfl⟩
        clear HGE
        go_wp2
        go_meet
        case rel => exact hbc
      · have hd : decide (-1099511627776 < x ∧ x < 1099511627776) = false := by simpa using hx
        rw [hd]
        clear hd hx
        go_wp2
        go_meet
        case rel => exact hcut
    case rest =>
      have hbc := hcut
      clear hp hm hcap
      go_wp2_with fail
      refine (read_any ab bs capb _ wc rfl hcapb hmaxb hbyt (hpb.below hbc)).mono ?_
      rintro e w9 ⟨v9, rfl, ho9, hb9⟩
      have hsc := hbc.size
      have hs9 := hb9.size
      have hbw9 : Below w.heap.size w w9 := hbc.trans (hb9.mono hsc)
      obtain ⟨a9, c9, rfl, hp9, hc9⟩ := ho9.parts
      have hle9 := ho9.le
      have HRO : Hid (∀ m, readB bs = (m, 0) → bytesB m = bs ∧ wrongM m = 0) := fun m hm => read_own hbyt hm
      have hpb9 := hpb.below hbw9
      have HBS : Hid ((readB bs).2 = 0 → 3 ≤ bs.length) := fun h0 => by
        rcases Nat.lt_or_ge bs.length 3 with h3 | h3
        · exfalso
          have : readB bs = (m0, 8) := by unfold readB; exact if_pos h3
          rw [this] at h0
          cases h0
        · exact h3
      generalize hr : readB bs = r at *
      obtain ⟨⟨k', d', h', l'⟩, y⟩ := r
      simp only at hp9 hc9 hle9 HBS
      have HR9 : Hid (readB bs = ((k', d', h', l'), y)) := hr
      clear hr ho9 hb9
      have hA : Below w9.heap.size w9 (w9.alloc (.cells #[.int .i64 k', .int .i64 d', .int .i64 h', .slice a9 l'.length c9] 39)) := below1 _ _
      have hmA : Blk (w9.alloc (.cells #[.int .i64 k', .int .i64 d', .int .i64 h', .slice a9 l'.length c9] 39)) w9.heap.size #[.int .i64 k', .int .i64 d', .int .i64 h', .slice a9 l'.length c9] 39 := Blk.new _ _ _
      have hpA := hp9.below hA
      have hpbA := hpb9.below hA
      have hbwA : Below w.heap.size w (w9.alloc (.cells #[.int .i64 k', .int .i64 d', .int .i64 h', .slice a9 l'.length c9] 39)) := hbw9.trans (hA.mono (by omega))
      clear hp9 hpb9 hA hbw9
      have hxs : w9.heap.size ≤ (w9.alloc (.cells #[.int .i64 k', .int .i64 d', .int .i64 h', .slice a9 l'.length c9] 39)).heap.size := by simp
      by_cases hy : y = 0
      · subst hy
        obtain ⟨hby, hwr⟩ := HRO.out _ rfl
        have h3 := HBS.out rfl
        obtain ⟨hk1, hd1, hh1, hl4, hfine⟩ := wrongM_ok hwr
        simp only at hk1 hd1 hh1 hl4 hfine
        have hnums := fine_nums hfine
        go_wp2_with fail
        generalize (w9.alloc (.cells #[.int .i64 k', .int .i64 d', .int .i64 h', .slice a9 l'.length c9] 39)) = X at *
        rcases hpbA with rfl | ⟨bb, ob, rfl, hltb, hcb⟩
        · simp at h3
        have HK : Hid (∀ w', Below X.heap.size X w' → ((w'.cell? ⟨w9.heap.size, 0, none⟩ = some (.int .i64 k') ∧ w'.cell? ⟨w9.heap.size, 1, none⟩ = some (.int .i64 d') ∧ w'.cell? ⟨w9.heap.size, 2, none⟩ = some (.int .i64 h') ∧ w'.cell? ⟨w9.heap.size, 3, none⟩ = some (.slice a9 l'.length c9)) ∧ (convert 40 9 (.slice (some ⟨bb, ob, none⟩) bs.length capb)).run Try.prog w' = .ok (.string (strB bs)) w')) := by
          show ∀ w', _
          intro w' hb'
          have hb2 := hmA.below hb' hmA.lt
          refine ⟨⟨hb2.cell 0, hb2.cell 1, hb2.cell 2, hb2.cell 3⟩, conv_bytes capb fun i hi => ?_⟩
          rw [hb'.cell (p := ⟨bb, ob + i, none⟩) hltb]
          exact hcb i hi
        have hX0 : Below X.heap.size X X.drew := (Below.refl _ _).drew
        obtain ⟨⟨i0, i1, i2, i3⟩, i4⟩ := HK.out _ hX0
        clear hmA hcb
        go_region_with (
          first
          | (go_at_call 23; refine (bytes_any k' d' h' a9 l' c9 _ _ rfl (by omega) (by exact hpA.below hX0) (by omega) (by omega) hnums).mono ?_; rw [hby]; rintro e wb ⟨vb, rfl, hob, hbb⟩; have hBc : Below X.heap.size X wb := hX0.trans (hbb.mono hX0.size); obtain ⟨g, capg, rfl, hcv⟩ := own_conv hob (by omega); obtain ⟨⟨j0, j1, j2, j3⟩, j4⟩ := HK.out _ hBc; clear hob hbb i0 i1 i2 i3 i4)
          | (go_at_call 21; refine (wrongM_any k' d' h' a9 l' c9 _ _ rfl hle9 (by exact hpA.below hBc) hc9).mono ?_; rw [hwr]; rintro e wd ⟨rfl, hbd⟩; have hBd : Below X.heap.size X wd := hBc.trans (hbd.mono hBc.size); clear hbd j0 j1 j2 j3 j4 hcv))
        all_goals
          go_wp2
          go_ret
          exact ⟨rfl, hbwA.trans (hBd.mono (Nat.le_trans (Nat.le_trans hsc hs9) hxs))⟩
      · have hd : (y != 0) = true := by simpa using hy
        have hd2 : (y == 0) = false := by simpa using hy
        clear HRO HBS HR9
        go_wp2_with fail
        generalize (w9.alloc (.cells #[.int .i64 k', .int .i64 d', .int .i64 h', .slice a9 l'.length c9] 39)) = X at *
        go_quiet (fail)
        go_wp2
        go_ret
        exact ⟨rfl, below_drewN hbwA _⟩

end Go.Proofs.Ytebiaegnppkdnaa
