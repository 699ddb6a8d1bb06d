/- What house.Tick and the two functions within house.Hear do. -/
import Derived.Test.YtikmnaegalmfeaaKHous2
namespace Go.Proofs.Ytikmnaegalmfeaa
open Go.RowKit
attribute [local go_sem ↓] Go.wp_at_zero Go.wp_at_succ

theorem infoMsg : (Try.prog.info? 25).map (fun i => (i.zero, i.size, i.bytes)) = some (some (.agg #[.int .i64 0, .int .i64 0, .int .i64 0, .slice none 0 0]), 4, 48) := by kernel_rfl

set_option maxRecDepth 20000 in
set_option maxHeartbeats 1000000 in
theorem say_any (S M E base : Nat) (kind k d hs me : Int) (mv : Value) (sa : Option Addr) (sn sc : Nat) (XS : List XM) (w : World) (hS : Blk w S #[.slice sa sn sc] 33) (hM : Blk w M #[.int .i64 k, .int .i64 d, .int .i64 hs, mv] 25) (hE : Blk w E #[.int .i64 me] 3) (hO : OwnL 25 4 encM w base (.slice sa sn sc) XS) (hb : base ≤ w.heap.size) (hl : XS.length ≤ 1000) :
    Calls Try.prog 31 #[.int .i64 kind, .pointer (some ⟨S, 0, none⟩), .pointer (some ⟨M, 0, none⟩), .pointer (some ⟨E, 0, none⟩)] w fun e w' => e = .returned (.tuple #[]) ∧ ∃ a' n' c', Blk w' S #[.slice a' n' c'] 33 ∧ OwnL 25 4 encM w' base (.slice a' n' c') (XS ++ [(kind, d, me, (none, 0), [])]) ∧ Keep (fun b => b = S ∨ Value.ownBlock (.slice sa sn sc) = some b) w w' := by
  have c0 := hS.cell 0
  have f0 := hS.free 0
  have c1 := hM.cell 1
  have c2 := hE.cell 0
  have hl0 := hS.lt
  have hl1 := hM.lt
  have hl2 := hE.lt
  simp at c0 c1 c2
  have HS : Hid (Blk w S #[.slice sa sn sc] 33 ∧ OwnL 25 4 encM w base (.slice sa sn sc) XS) := ⟨hS, hO⟩
  clear hS hM hE hO
  go_enter Try.func31, Try.ntmps31
  go_wp2_with (at_builtin; refine wpList_append_listB lenM oneM Try.underlying33 infoMsg rfl (by decide) _ rfl _ _ rfl base _ XS rfl (HS.out.2.below (below1 w _) (Nat.le_refl _)) (some ⟨w.heap.size, 0, none⟩) 1 1 [(kind, d, me, (none, 0), [])] rfl rfl (RowAt.one (Blk.new w _ _) rfl) (by unfold maxLen; simp; omega) (by simp; omega) (by simp; omega) ?_; intro a4 n4 c4 w4 hown4 hn4 hgrow4 hat4; have hS5 : Blk w4 S #[.slice sa sn sc] 33 := Blk.keptT (HS.out.1.alloc _) hgrow4 ((HS.out.2.below (below1 w _) (Nat.le_refl _)).grownT (by decide)); have c3 := hS5.cell 0; have f3 := hS5.free 0; have hl3 := hS5.lt; simp at c3; have HS5 : Hid (Blk w4 S #[.slice sa sn sc] 33) := hS5; clear hS5 c0 c1 c2 f0 hn4)
  have HF : Hid (Blk (w4.setCell ⟨S, 0, none⟩ (.slice a4 n4 c4)) S #[.slice a4 n4 c4] 33 ∧ OwnL 25 4 encM (w4.setCell ⟨S, 0, none⟩ (.slice a4 n4 c4)) base (.slice a4 n4 c4) (XS ++ [(kind, d, me, (none, 0), [])]) ∧ Keep (fun b => b = S ∨ Value.ownBlock (.slice sa sn sc) = some b) w (w4.setCell ⟨S, 0, none⟩ (.slice a4 n4 c4))) :=
    ⟨HS5.out.set 0 _, hown4.setOther (a := ⟨S, 0, none⟩) HS5.out (by decide) _, (show Keep (fun b => b = S ∨ Value.ownBlock (.slice sa sn sc) = some b) w w4 from ((Keep.refl _ w).alloc _).trans (Keep.ofGrown (row := Value.ownBlock (.slice sa sn sc)) hgrow4 (fun k hk => Or.inr hk))).setCell (p := ⟨S, 0, none⟩) (Or.inl rfl) _⟩
  clear hown4 hgrow4 hat4 c3 f3
  refine bodyPost_end (v := .tuple #[]) (results_none rfl _ _ _) rfl ⟨rfl, _, _, _, HF.out⟩

set_option maxRecDepth 20000 in
set_option maxHeartbeats 2000000 in
theorem hnote_any (N M P : Nat) (kind k d hs : Int) (mv : Value) (la ra da : Option Addr) (nl lc nr rc nd dc : Nat) (s0 s1 s2 s3 : Int) (X : List XL) (pa : Option Addr) (np pc : Nat) (l : List P3) (c0 c1 c2 c3 c4 c5 c6 : Value) (w : World) (hN : Blk w N #[.slice la nl lc, .int .i64 s0, .int .i64 s1, .int .i64 s2, .int .i64 s3, .slice ra nr rc, .slice da nd dc] 31) (hM : Blk w M #[.int .i64 k, .int .i64 d, .int .i64 hs, mv] 25) (hP : Blk w P #[c0, c1, c2, c3, c4, c5, c6] 31)
    (hn : nl = X.length) (hnp : np = l.length) (hc : CalcL (X.map stripL ++ [(kind, d, l)])) (hp : RecsAt w la X) (hq : PartsAt w pa l) :
    Calls Try.prog 32 #[.int .i64 kind, .slice pa np pc, .pointer (some ⟨N, 0, none⟩), .pointer (some ⟨M, 0, none⟩), .pointer (some ⟨P, 0, none⟩)] w fun e w' => e = .returned (.tuple #[]) ∧ ∃ (u0 u1 u2 u3 u4 u5 u6 : Value), Blk w' P #[u0, u1, u2, u3, u4, u5, u6] 31 ∧ HouseN w.heap.size w' (.agg #[u0, u1, u2, u3, u4, u5, u6]) (X.map stripL ++ [(kind, d, l)]) (houseB (X.map stripL ++ [(kind, d, l)])) ∧ Keep (fun b => b = P) w w' := by
  subst hnp
  have hmap : (X ++ [(kind, d, (pa, pc), l)]).map stripL = X.map stripL ++ [(kind, d, l)] := by rw [List.map_append]; rfl
  have HC := note_gen la ra da nl lc nr rc nd dc s0 s1 s2 s3 X (kind, d, (pa, pc), l) w hn (by rw [hmap]; exact hc) hp hq
  rw [hmap] at HC
  simp only at HC
  obtain ⟨⟨q0, q1, q2, q3, q4, q5, q6⟩, -⟩ := zcells hN
  have r1 := hM.cell 1
  have hl0 := hN.lt
  have hl1 := hM.lt
  have hl2 := hP.lt
  simp at r1
  have HP : Hid (Blk w P #[c0, c1, c2, c3, c4, c5, c6] 31) := hP
  clear hN hM hP hp hq hc hmap hn
  generalize l.length = np at *
  go_enter Try.func32, Try.ntmps32
  go_wp2_with fail
  refine HC.mono ?_
  rintro e w7 ⟨v, rfl, hh7, hb7⟩
  clear HC q0 q1 q2 q3 q4 q5 q6 r1
  generalize hhb : houseB (X.map stripL ++ [(kind, d, l)]) = h at *
  have HHB : Hid (houseB (X.map stripL ++ [(kind, d, l)]) = h) := hhb
  clear hhb
  obtain ⟨⟨t0, t1, t2, t3⟩, DD, dn⟩ := h
  have HH7 : Hid (HouseN w.heap.size w7 v (X.map stripL ++ [(kind, d, l)]) ((t0, t1, t2, t3), DD, dn)) := hh7
  obtain ⟨la', nl', lc', Y', ra', nr', rc', XR', da', nd', dc', rfl, -⟩ := hh7
  have hr7 := HP.out.below hb7 HP.out.lt
  obtain ⟨hW, hOnly⟩ := fill7 hr7 (.slice la' nl' lc') (.int .i64 t0) (.int .i64 t1) (.int .i64 t2) (.int .i64 t3) (.slice ra' nr' rc') (.slice da' nd' dc')
  have hKp := (fill7K hr7 (.slice la' nl' lc') (.int .i64 t0) (.int .i64 t1) (.int .i64 t2) (.int .i64 t3) (.slice ra' nr' rc') (.slice da' nd' dc')).2
  have HF : Hid _ := And.intro hW (And.intro (HH7.out.only hOnly) (Keep.trans (keep_of_below (R := fun b => b = P) hb7) hKp))
  obtain ⟨⟨n0, n1, n2, n3, n4, n5, n6⟩, f0, f1, f2, f3, f4, f5, f6⟩ := zcells hr7
  have hl7 := hr7.lt
  clear hW hOnly hKp hr7 hb7 HH7
  go_wp2
  refine bodyPost_end (v := .tuple #[]) (results_none rfl _ _ _) rfl ⟨rfl, _, _, _, _, _, _, _, by rw [HHB.out]; exact HF.out⟩

set_option maxRecDepth 20000 in
set_option maxHeartbeats 2000000 in
theorem tick_any (la ra da : Option Addr) (nl lc nr rc nd dc : Nat) (s0 s1 s2 s3 me : Int) (XR : List XD) (D : List D2) (w : World) (h : RdyAt w ra nr XR D) (hl : XR.length ≤ 2900000000000) :
    Calls Try.prog 15 #[.agg #[.slice la nl lc, .int .i64 s0, .int .i64 s1, .int .i64 s2, .int .i64 s3, .slice ra nr rc, .slice da nd dc], .int .i64 me] w fun e w' => ∃ a' n' c', e = .returned (.slice a' n' c') ∧ OwnL 25 4 encM w' w.heap.size (.slice a' n' c') (D.map fun x => (7, x.1, me, (none, 0), [])) ∧ Below w.heap.size w w' := by
  have HN : Hid (RdyAt w ra nr XR D ∧ XR.length ≤ 2900000000000) := ⟨h, hl⟩
  have hnl : nr ≤ 2900000000000 := by have := h.n; omega
  clear h hl
  go_enter Try.func15, Try.ntmps15
  go_wp2
  have hb0 := below1 w (.cells #[.slice la nl lc, .int .i64 s0, .int .i64 s1, .int .i64 s2, .int .i64 s3, .slice ra nr rc, .slice da nd dc] 31)
  generalize w.alloc (.cells #[.slice la nl lc, .int .i64 s0, .int .i64 s1, .int .i64 s2, .int .i64 s3, .slice ra nr rc, .slice da nd dc] 31) = W at *
  go_loopw [5, 11] (fun v i w' => ∃ (k : Nat), k ≤ nr ∧ i = .int .i64 k ∧ Hid (OwnL 25 4 encM w' w.heap.size v ((D.take k).map fun x => (7, x.1, me, (none, 0), []))) ∧ Below w.heap.size w w') (fun _ i _ => nr - (intOf i).toNat)
  case atStart => exact ⟨0, Nat.zero_le _, rfl, OwnL.nil _ _, hb0⟩
  case round =>
    obtain ⟨k, hk, rfl, hO, hbw⟩ := hrel
    have hsz := hbw.size
    by_cases hlt : k < nr
    · have hkX : k < XR.length := by have := HN.out.1.n; omega
      have hkD : k < D.length := by rw [← HN.out.1.says, List.length_map]; exact hkX
      have HE : Hid ((D.take (k + 1)).map (fun x => ((7 : Int), x.1, me, ((none, 0) : Hd), ([] : List P3))) = (D.take k).map (fun x => (7, x.1, me, (none, 0), [])) ++ [(7, XR[k].1, me, (none, 0), [])] ∧ ((D.take k).map (fun x => ((7 : Int), x.1, me, ((none, 0) : Hd), ([] : List P3)))).length = k) := by
        refine ⟨?_, by simp; omega⟩
        rw [take_snoc hkD, List.map_append]
        have : D = XR.map stripD := HN.out.1.says.symm
        subst this
        simp [stripD]
      obtain ⟨g, o, rfl, hg, d0, d1, hq⟩ := (HN.out.1.lies.below hbw).get hkX
      obtain ⟨av, nv, cv, rfl⟩ : ∃ a n c, u5 = .slice a n c := by
        obtain ⟨a, c, hv, _⟩ := hO.out.row lenM
        exact ⟨a, _, c, hv⟩
      clear hq
      generalize XR[k] = x at *
      obtain ⟨dd, ⟨ax, cx⟩, l⟩ := x
      simp only at d0 d1 HE
      generalize l.length = n2 at *
      generalize (D.take k).map (fun x => ((7 : Int), x.1, me, ((none, 0) : Hd), ([] : List P3))) = Z at *
      have hZl : Z.length = k := HE.out.2
      have HO2 := (hO.out.below (below1 wr (.cells #[.int .i64 dd, .slice ax n2 cx] 69)) (Nat.le_refl _)).below (below1 (wr.alloc (.cells #[.int .i64 dd, .slice ax n2 cx] 69)) (.cells #[.int .i64 7, .int .i64 dd, .int .i64 me, .slice none 0 0] 25)) (Nat.le_refl _)
      have HO3 : Hid (OwnL 25 4 encM ((wr.alloc (.cells #[.int .i64 dd, .slice ax n2 cx] 69)).alloc (.cells #[.int .i64 7, .int .i64 dd, .int .i64 me, .slice none 0 0] 25)) w.heap.size (.slice av nv cv) Z) := HO2
      have hbn := hbw.trans ((below2 wr (.cells #[.int .i64 dd, .slice ax n2 cx] 69) (.cells #[.int .i64 7, .int .i64 dd, .int .i64 me, .slice none 0 0] 25)).mono hsz)
      clear HO2
      go_wp2_with (at_builtin; refine wpList_append_listB lenM oneM Try.underlying33 infoMsg rfl (by decide) _ rfl _ _ rfl w.heap.size _ Z rfl HO3.out (some ⟨wr.heap.size + 1, 0, none⟩) 1 1 [(7, dd, me, (none, 0), [])] rfl rfl (RowAt.one (heap2 wr _ _) rfl) (by unfold maxLen; simp; omega) (by simp; omega) (by simp; omega) ?_; intro a4 n4 c4 w4 hown4 hn4 hgrow4 hat4; clear hn4)
      have HF : Hid (OwnL 25 4 encM w4 w.heap.size (.slice a4 n4 c4) ((D.take (k + 1)).map fun x => (7, x.1, me, (none, 0), []))) := by
        show OwnL _ _ _ _ _ _ _
        rw [HE.out.1]
        exact hown4
      have hB4 : Below w.heap.size w w4 := hbn.grown hgrow4 hbn.size HO3.out.base
      clear hown4 hgrow4 hat4 HO3 hbn d0 d1
      go_wp2
      go_roundw
      case rel => exact ⟨k + 1, by omega, by go_num, HF, hB4⟩
      case measure => simp [intOf]; omega
    · have HF : Hid (OwnL 25 4 encM wr w.heap.size u5 (D.map fun x => (7, x.1, me, (none, 0), []))) := by
        have := hO.out
        rwa [List.take_of_length_le (by have h1 := HN.out.1.n; rw [← HN.out.1.says, List.length_map]; omega)] at this
      obtain ⟨av, nv, cv, rfl⟩ : ∃ a n c, u5 = .slice a n c := by
        obtain ⟨a, c, hv, _⟩ := HF.out.row lenM
        exact ⟨a, _, c, hv⟩
      clear hO
      go_wp2
      go_ret
      exact ⟨av, nv, cv, rfl, HF.out, hbw⟩

end Go.Proofs.Ytikmnaegalmfeaa
