/- LogDone, walked: called at whatever two logs it answers true and leaves all older memory as it was. -/
import Derived.Test.YtbdkkajmafjfbacLogA
import Derived.Test.YtbdkkajmafjfbacLogR
import Derived.Test.YtbdkkajmafjfbacLogP
import Derived.Test.YtbdkkajmafjfbacMap1
import Derived.Test.YtbdkkajmafjfbacSameI
namespace Go.Proofs.Ytbdkkajmafjfbac
open Go.RowKit
attribute [local go_sem ↓] Go.wp_at_zero Go.wp_at_succ

theorem nodup_get {l : List Int} (h : l.Nodup) {k : Nat} (hk : k < l.length) : ((l.take k).any fun p => decide (p = l[k])) = false := by
  rw [List.any_eq_false]
  intro p hp he
  obtain ⟨i, hi, rfl⟩ := List.mem_take_iff_getElem.1 hp
  have h1 := of_decide_eq_true he
  exact (List.pairwise_iff_getElem.1 h) i k (by omega) hk (by omega) h1

set_option maxRecDepth 20000 in
set_option maxHeartbeats 4000000 in
theorem logDone_any (a1 a2 : Option Addr) (X1 X2 : List XL) (c1 c2 n1 n2 : Nat) (w : World) (hn1 : n1 = X1.length) (hn2 : n2 = X2.length) (hl1 : X1.length ≤ 9223372036854775807) (hl2 : X2.length ≤ 9223372036854775807)
    (hm1 : ∀ x ∈ X1, x.2.2.2.length ≤ 9223372036854775807 ∧ In1 x.2.1) (hm2 : ∀ x ∈ X2, x.2.2.2.length ≤ 9223372036854775807 ∧ In1 x.2.1) (hp1 : RecsAt w a1 X1) (hp2 : RecsAt w a2 X2) :
    Calls Try.prog 4 #[.slice a1 n1 c1, .slice a2 n2 c2] w fun e w' => e = .returned (.bool true) ∧ Below w.heap.size w w' := by
  have HN : Hid (n1 = X1.length ∧ n2 = X2.length ∧ X1.length ≤ 9223372036854775807 ∧ X2.length ≤ 9223372036854775807 ∧ (∀ x ∈ X1, x.2.2.2.length ≤ 9223372036854775807 ∧ In1 x.2.1) ∧ (∀ x ∈ X2, x.2.2.2.length ≤ 9223372036854775807 ∧ In1 x.2.1)) := ⟨hn1, hn2, hl1, hl2, hm1, hm2⟩
  clear hn1 hn2 hl1 hl2 hm1 hm2
  go_enter Try.func4, Try.ntmps4
  go_wp2_with fail
  refine (alive_any w).mono ?_
  rintro e w1 ⟨rfl, hb1⟩
  have HP1 : Hid (RecsAt w1 a1 X1 ∧ RecsAt w1 a2 X2 ∧ Below w.heap.size w w1) := ⟨hp1.below hb1, hp2.below hb1, hb1⟩
  clear hp1 hp2 hb1
  go_wp2_with fail
  refine (rightLog_any a1 X1 c1 n1 w1 HN.out.1 HN.out.2.2.1 (fun x hx => (HN.out.2.2.2.2.1 x hx).1) HP1.out.1).mono ?_
  rintro e w2 ⟨rfl, hb2⟩
  have HP2 : Hid (RecsAt w2 a1 X1 ∧ RecsAt w2 a2 X2 ∧ Below w.heap.size w w2) := ⟨HP1.out.1.below hb2, HP1.out.2.1.below hb2, HP1.out.2.2.trans (hb2.mono HP1.out.2.2.size)⟩
  clear HP1 hb2
  cases hz1 : rightLog (X1.map stripL)
  · go_wp2
    go_ret
    exact ⟨rfl, HP2.out.2.2⟩
  obtain ⟨hok1, h60⟩ := rightLog_ok hz1
  rw [List.length_map] at h60
  clear hz1
  go_wp2_with fail
  refine (rightLog_any a2 X2 c2 n2 w2 HN.out.2.1 HN.out.2.2.2.1 (fun x hx => (HN.out.2.2.2.2.2 x hx).1) HP2.out.2.1).mono ?_
  rintro e w3 ⟨rfl, hb3⟩
  have HP3 : Hid (RecsAt w3 a1 X1 ∧ RecsAt w3 a2 X2 ∧ Below w.heap.size w w3) := ⟨HP2.out.1.below hb3, HP2.out.2.1.below hb3, HP2.out.2.2.trans (hb3.mono HP2.out.2.2.size)⟩
  clear HP2 hb3
  cases hz2 : rightLog (X2.map stripL)
  · go_wp2
    go_ret
    exact ⟨rfl, HP3.out.2.2⟩
  obtain ⟨hok2, h60'⟩ := rightLog_ok hz2
  rw [List.length_map] at h60'
  clear hz2
  have HOK : Hid (OkL (X1.map stripL) ∧ OkL ((X1 ++ X2).map stripL)) := ⟨hok1, by
    rw [List.map_append]
    intro r hr
    rcases List.mem_append.1 hr with hr | hr
    · exact hok1 r hr
    · exact hok2 r hr⟩
  clear hok1 hok2
  go_wp2_with fail
  refine (house_any a1 X1 c1 n1 w3 HN.out.1 (by omega) HOK.out.1 HP3.out.1).mono ?_
  rintro e w4 ⟨v4, rfl, hh4, hb4⟩
  have HP4 : Hid (RecsAt w4 a1 X1 ∧ RecsAt w4 a2 X2 ∧ Below w.heap.size w w4) := ⟨HP3.out.1.below hb4, HP3.out.2.1.below hb4, HP3.out.2.2.trans (hb4.mono HP3.out.2.2.size)⟩
  clear HP3 hb4
  have hinv := houseB_inv HOK.out.2
  have hdone := houseB_done (X1.map stripL) (X2.map stripL)
  rw [← List.map_append] at hdone
  generalize hhb : houseB (X1.map stripL) = h at *
  obtain ⟨⟨s0, s1, s2, s3⟩, DD, dn⟩ := h
  obtain ⟨la, nl, lc, Y, ra, nr, rc, XR, da, nd, dc, rfl, -, -, hnd, hdc, hdm, hdr⟩ := hh4.at
  simp only at hnd hdr
  have HD4 : Hid (nd = dn.length ∧ RowAt 1 encI w4 da dn) := ⟨hnd, hdr⟩
  have HIV : Hid (HInv ((X1 ++ X2).map stripL).length (houseB ((X1 ++ X2).map stripL)) ∧ ∃ t, (houseB ((X1 ++ X2).map stripL)).2.2 = dn ++ t) := ⟨hinv, hdone⟩
  clear hinv hdone hnd hdr hh4 hhb
  simp only
  have hs4 := HP4.out.2.2.size
  have HZ4 : Hid (OwnL 25 3 encL (w4.alloc (.cells #[] 25)) w4.heap.size (.slice (some ⟨w4.heap.size, 0, none⟩) 0 0) []) := World.ownsRow_made w4 #[] 0 (Nat.le_refl _) (Nat.zero_le _) (by simp)
  have HB4 : Hid (Below w4.heap.size w4 (w4.alloc (.cells #[] 25))) := below1 _ _
  go_wp2_with (
    first
    | (at_builtin; refine wpList_append_list lenL oneL Try.underlying22 infoRec rfl (by decide) (by decide) _ rfl _ _ rfl w4.heap.size _ [] rfl HZ4.out a1 n1 c1 X1 rfl HN.out.1 (HP4.out.1.1.below HB4.out) (by simp; omega) (by simp) ?_; intro a5 n5 c5 w5 hown5 hn5 hgrow5 hat5; clear hn5 hat5; rw [List.nil_append] at hown5; have hB5 : Below w4.heap.size w4 w5 := HB4.out.grown hgrow5 (by simp) HZ4.out.base; have HO5 : Hid (OwnL 25 3 encL w5 w4.heap.size (.slice a5 n5 c5) X1 ∧ Below w4.heap.size w4 w5) := ⟨hown5, hB5⟩; clear hown5 hB5 hgrow5)
    | (at_builtin; refine wpList_append_list lenL oneL Try.underlying22 infoRec rfl (by decide) (by decide) _ rfl _ _ rfl w4.heap.size _ X1 rfl HO5.out.1 a2 n2 c2 X2 rfl HN.out.2.1 (HP4.out.2.1.1.below HO5.out.2) (by omega) HO5.out.2.size ?_; intro a6 n6 c6 w6 hown6 hn6 hgrow6 hat6; clear hn6 hat6))
  have hB6 : Below w4.heap.size w4 w6 := HO5.out.2.grown hgrow6 HO5.out.2.size HO5.out.1.base
  have hx6 : RecsAt w6 a6 (X1 ++ X2) := ⟨(hown6.at lenL).1, fun y hy => by
    rcases List.mem_append.1 hy with hy | hy
    · exact (HP4.out.1.2 y hy).below hB6
    · exact (HP4.out.2.1.2 y hy).below hB6⟩
  refine (house_any a6 (X1 ++ X2) c6 n6 w6 (hown6.at lenL).2.1 (by simp; omega) HOK.out.2 hx6).mono ?_
  rintro e w7 ⟨v7, rfl, hh7, hb7⟩
  have hB7 : Below w4.heap.size w4 w7 := hB6.trans (hb7.mono hB6.size)
  have hbw7 : Below w.heap.size w w7 := HP4.out.2.2.trans (hB7.mono hs4)
  have hdeeds : ∀ x ∈ (houseB ((X1 ++ X2).map stripL)).2.1, In1 x.1 := fun x hx => by
    obtain ⟨r, hr, rfl⟩ := houseB_deeds hx
    obtain ⟨y, hy, rfl⟩ := List.mem_map.1 hr
    rcases List.mem_append.1 hy with hy | hy
    · exact (HN.out.2.2.2.2.1 y hy).2
    · exact (HN.out.2.2.2.2.2 y hy).2
  obtain ⟨hinv, t, ht⟩ := HIV.out
  generalize houseB ((X1 ++ X2).map stripL) = h7 at *
  obtain ⟨⟨q0, q1, q2, q3⟩, D7, dn7⟩ := h7
  obtain ⟨la7, nl7, lc7, Y7, ra7, nr7, rc7, XR7, da7, nd7, dc7, rfl, -, ⟨hnr7, hXR7, hdd7⟩, hnd7, hdc7, hdm7, hdr7⟩ := hh7.at
  simp only at hnr7 hXR7 hnd7 hdr7 ht hdeeds
  subst ht
  have HD7 : Hid (nd7 = dn.length + t.length ∧ RowAt 1 encI w7 da7 dn ∧ RowAt 1 encI w7 da dn ∧ nd = dn.length) := ⟨by rw [hnd7, List.length_append], by
    have := hdr7.take dn.length
    rwa [List.take_left] at this, HD4.out.2.below hB7, HD4.out.1⟩
  have hfew : nr7 ≤ 120 := by
    have h1 := hinv.few
    have h2 := congrArg List.length hXR7
    simp at h1 h2
    omega
  have hdfew : nd7 ≤ 120 := by
    have h1 := hinv.done
    simp at h1
    have := HD7.out.1
    omega
  have hdle : nd ≤ nd7 := by have := HD7.out.1; have := HD7.out.2.2.2; omega
  have HR7 : Hid (nr7 = XR7.length ∧ XR7.map stripD = D7 ∧ DeedsAt w7 ra7 XR7 ∧ (D7.map (·.1)).Nodup ∧ (∀ x ∈ D7, In1 x.1)) := ⟨hnr7, hXR7, hdd7, hinv.nd, hdeeds⟩
  clear hh7 hnr7 hXR7 hdd7 hnd7 hdr7 hdeeds hinv HIV HD4 HP4 HO5 HZ4 HB4 hown6 hgrow6 hx6 hB6 hb7 hB7 HOK
  simp only
  go_upto_region 6 with fail
  have hBV := below2 w7 (.cells #[.slice la nl lc, .int .i64 s0, .int .i64 s1, .int .i64 s2, .int .i64 s3, .slice ra nr rc, .slice da nd dc] 32) (.cells #[.slice la7 nl7 lc7, .int .i64 q0, .int .i64 q1, .int .i64 q2, .int .i64 q3, .slice ra7 nr7 rc7, .slice da7 nd7 dc7] 32)
  have hxV : Blk ((w7.alloc (.cells #[.slice la nl lc, .int .i64 s0, .int .i64 s1, .int .i64 s2, .int .i64 s3, .slice ra nr rc, .slice da nd dc] 32)).alloc (.cells #[.slice la7 nl7 lc7, .int .i64 q0, .int .i64 q1, .int .i64 q2, .int .i64 q3, .slice ra7 nr7 rc7, .slice da7 nd7 dc7] 32)) w7.heap.size #[.slice la nl lc, .int .i64 s0, .int .i64 s1, .int .i64 s2, .int .i64 s3, .slice ra nr rc, .slice da nd dc] 32 := (Blk.new _ _ _).alloc _
  have hyV : Blk ((w7.alloc (.cells #[.slice la nl lc, .int .i64 s0, .int .i64 s1, .int .i64 s2, .int .i64 s3, .slice ra nr rc, .slice da nd dc] 32)).alloc (.cells #[.slice la7 nl7 lc7, .int .i64 q0, .int .i64 q1, .int .i64 q2, .int .i64 q3, .slice ra7 nr7 rc7, .slice da7 nd7 dc7] 32)) (w7.heap.size + 1) #[.slice la7 nl7 lc7, .int .i64 q0, .int .i64 q1, .int .i64 q2, .int .i64 q3, .slice ra7 nr7 rc7, .slice da7 nd7 dc7] 32 := heap2 _ _ _
  generalize (w7.alloc (.cells #[.slice la nl lc, .int .i64 s0, .int .i64 s1, .int .i64 s2, .int .i64 s3, .slice ra nr rc, .slice da nd dc] 32)).alloc (.cells #[.slice la7 nl7 lc7, .int .i64 q0, .int .i64 q1, .int .i64 q2, .int .i64 q3, .slice ra7 nr7 rc7, .slice da7 nd7 dc7] 32) = V at *
  have HV : Hid (Below w.heap.size w V ∧ DeedsAt V ra7 XR7) := ⟨hbw7.trans (hBV.mono hbw7.size), HR7.out.2.2.1.below hBV⟩
  have HK : Hid (∀ w', Below V.heap.size V w' → (w'.cell? ⟨w7.heap.size, 6, none⟩ = some (.slice da nd dc) ∧ w'.cell? ⟨w7.heap.size + 1, 6, none⟩ = some (.slice da7 nd7 dc7) ∧ w'.cell? ⟨w7.heap.size + 1, 5, none⟩ = some (.slice ra7 nr7 rc7)) ∧ RowAt 1 encI w' da7 dn ∧ RowAt 1 encI w' da dn) := fun w' hb =>
    ⟨⟨(hxV.below hb hxV.lt).cell 6, (hyV.below hb hyV.lt).cell 6, (hyV.below hb hyV.lt).cell 5⟩, (HD7.out.2.1.below hBV).below hb, (HD7.out.2.2.1.below hBV).below hb⟩
  have hs7 := hBV.size
  have hsV : w7.heap.size + 1 < V.heap.size := hyV.lt
  clear hxV hyV hbw7 hBV
  obtain ⟨⟨i0, i1, -⟩, -, -⟩ := HK.out _ (Below.refl _ _)
  have hg1 : ¬ (nd7 : Int) < (nd : Int) := by omega
  have hndc : nd ≤ dc7 := by omega
  have hg2 : decide ((nd7 : Int) < (nd : Int)) = false := decide_eq_false hg1
  go_quiet ((go_at_call 9; exact Calls.quiet_of (sameInts_q da7 da dn dc7 dc nd nd _ HD7.out.2.2.2 HD7.out.2.2.2 (by have := HD7.out.2.2.2; omega) (HK.out _ (drewN_below _ _)).2.1 (HK.out _ (drewN_below _ _)).2.2)))
  have HVn : Hid (Below w.heap.size w (V.drewN nq) ∧ DeedsAt (V.drewN nq) ra7 XR7) := ⟨below_drewN HV.out.1 _, HV.out.2.below (drewN_below _ _)⟩
  obtain ⟨⟨-, -, i5⟩, -⟩ := HK.out _ (drewN_below V nq)
  have hsn : w7.heap.size + 1 < (V.drewN nq).heap.size := hsV
  clear i0 i1 hg1 hg2 HK HV HD7
  generalize V.drewN nq = U at *
  have hmm := @run_makeMap Try.prog
  have HU : Hid (U.heap.size < (U.alloc (.map #[] 0)).heap.size) := by show _ < _; simp
  have i5' : (U.alloc (.map #[] 0)).cell? ⟨w7.heap.size + 1, 5, none⟩ = some (.slice ra7 nr7 rc7) := by rw [Below.cell (below1 U _) (by show w7.heap.size + 1 < _; omega)]; exact i5
  clear i5
  go_wp2
  go_loopw [51] (fun i w' => ∃ k : Nat, k ≤ nr7 ∧ i = .int .i64 k ∧ SetI w' U.heap.size ((D7.map (·.1)).take k) ∧ U.heap.size + 1 ≤ w'.heap.size ∧ Below U.heap.size U w') (fun i _ => nr7 - (intOf i).toNat)
  case atStart => exact ⟨0, Nat.zero_le _, rfl, setI_made U, by simp, below1 _ _⟩
  case round =>
    obtain ⟨k, hk, rfl, hset, hsz, hbw⟩ := hrel
    clear hmm
    by_cases hlt : k < nr7
    · have hkX : k < XR7.length := by have := HR7.out.1; omega
      obtain ⟨b, o, rfl, hb, d0, d1, -⟩ := (HVn.out.2.below hbw).get hkX
      have hkD : k < (D7.map (·.1)).length := by rw [← HR7.out.2.1, List.length_map, List.length_map]; exact hkX
      have hDk : (D7.map (·.1))[k] = XR7[k].1 := by
        have : D7 = XR7.map stripD := HR7.out.2.1.symm
        subst this
        simp [stripD]
      have h64 : In1 XR7[k].1 := by
        rw [← hDk, List.getElem_map]
        exact HR7.out.2.2.2.2 _ (List.getElem_mem _)
      have hno := nodup_get HR7.out.2.2.2.1 hkD
      rw [hDk] at hno
      have hsn : (D7.map (·.1)).take (k + 1) = (D7.map (·.1)).take k ++ [XR7[k].1] := by rw [take_snoc hkD, hDk]
      have hlk : ((D7.map (·.1)).take k).length ≤ 1000 := by simp; omega
      generalize XR7[k] = x at *
      obtain ⟨dd, ⟨ax, cx⟩, l⟩ := x
      simp only at d0 d1 hDk h64 hno hsn
      generalize l.length = nx at *
      have hlook := (hset.alloc (.cells #[.int .i64 dd, .slice ax nx cx] 36)).lookup dd h64
      rw [hno] at hlook
      have HSET : Hid (SetI wr U.heap.size ((D7.map (·.1)).take k) ∧ In1 dd ∧ (D7.map (·.1)).take (k + 1) = (D7.map (·.1)).take k ++ [dd] ∧ ((D7.map (·.1)).take k).length ≤ 1000) := ⟨hset, h64, hsn, hlk⟩
      clear hset h64 hsn hlk hno hDk hkD
      go_wp2_with (at_mapUpdate; refine wpList_setIPut _ rfl _ _ _ rfl U.heap.size ((D7.map (·.1)).take k) dd rfl (HSET.out.1.alloc _) HSET.out.2.2.2 rfl rfl HSET.out.2.1 ?_; intro w8 hset8 hgrow8)
      have hB8 : Below U.heap.size U w8 := (hbw.alloc (by omega) _).grown hgrow8 (by simp; omega) (fun j hj => by cases hj; exact Nat.le_refl _)
      have hs8 : U.heap.size + 1 ≤ w8.heap.size := by have := hgrow8.size; simp at this; omega
      have HS8 : Hid (SetI w8 U.heap.size ((D7.map (·.1)).take k ++ [dd])) := hset8
      clear hset8 hgrow8 hlook d0 d1
      go_wp2
      go_roundw
      case rel => exact ⟨k + 1, by omega, by go_num, by rw [HSET.out.2.2.1]; exact HS8.out, hs8, hB8⟩
      case measure => simp [intOf]; omega
    · clear hset
      go_wp2
      go_ret
      exact ⟨rfl, HVn.out.1.trans (hbw.mono HVn.out.1.size)⟩

end Go.Proofs.Ytbdkkajmafjfbac
