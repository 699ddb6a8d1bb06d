/- LocksGo, walked: called at whatever log, deed, kind and key it answers true and leaves all older memory as it was. -/
import Derived.Test.YtcklpbmeelalcacLockA
import Derived.Test.YtcklpbmeelalcacFresh
namespace Go.Proofs.Ytcklpbmeelalcac
open Go.RowKit
attribute [local go_sem ↓] Go.wp_at_zero Go.wp_at_succ

set_option maxRecDepth 20000 in
set_option maxHeartbeats 4000000 in
theorem locksGo_any (a : Option Addr) (X : List XL) (cap n : Nat) (deed kind key : Int) (w : World) (hn : n = X.length) (hl : X.length ≤ 9223372036854775807) (hm : ∀ x ∈ X, x.2.2.2.length ≤ 9223372036854775807) (hp : RecsAt w a X) :
    Calls Try.prog 7 #[.slice a n cap, .int .i64 deed, .int .i64 kind, .int .i64 key] w fun e w' => e = .returned (.bool true) ∧ Below w.heap.size w w' := by
  have HN : Hid (n = X.length ∧ X.length ≤ 9223372036854775807 ∧ (∀ x ∈ X, x.2.2.2.length ≤ 9223372036854775807) ∧ RecsAt w a X) := ⟨hn, hl, hm, hp⟩
  clear hn hl hm hp
  go_enter Try.func7, Try.ntmps7
  go_wp2_with fail
  refine (aliveK_any w).mono ?_
  rintro e w0 ⟨rfl, hb0⟩
  go_wp2_with fail
  refine (rightLog_any a X cap n w0 HN.out.1 HN.out.2.1 HN.out.2.2.1 (HN.out.2.2.2.below hb0)).mono ?_
  rintro e w1 ⟨rfl, hb1'⟩
  have hb1 : Below w.heap.size w w1 := hb0.trans (hb1'.mono hb0.size)
  clear hb0 hb1'
  cases hz1 : rightLog (X.map stripL)
  · go_wp2
    go_ret
    exact ⟨rfl, hb1⟩
  obtain ⟨hok, h60⟩ := rightLog_ok hz1
  rw [List.length_map] at h60
  have HOK : Hid (OkL (X.map stripL) ∧ X.length ≤ 60) := ⟨hok, h60⟩
  clear hz1 hok h60
  by_cases hkind : ¬ (kind = 2 ∨ kind = 3)
  · have k2 : (kind != 2) = true := by simp; omega
    have k3 : (kind != 3) = true := by simp; omega
    clear hkind
    go_wp2
    go_ret
    exact ⟨rfl, hb1⟩
  have HKI : kind = 2 ∨ kind = 3 := by omega
  clear hkind
  have HC := refHouse_any a X cap n w1 HN.out.1 (CalcL.of HOK.out.1 (by rw [List.length_map]; have := HOK.out.2; omega)) (HN.out.2.2.2.below hb1)
  have HGO := fun key => goB_true (houseB (X.map stripL)) (k := kind) (d := deed) (l := []) HKI key
  have hkk : (kind != 2) = false ∨ ((kind != 2) = true ∧ (kind != 3) = false) := by
    rcases HKI with h | h
    · exact Or.inl (by simp [h])
    · exact Or.inr (by simp [h])
  clear HKI
  rcases hkk with k2 | ⟨k2, k3⟩
  all_goals
    go_wp2_with fail
    refine HC.mono ?_
    rintro e w2 ⟨v, rfl, hh2, hb2⟩
    have hbw2 : Below w.heap.size w w2 := hb1.trans (hb2.mono hb1.size)
    obtain ⟨la, nl, lc, ra, nr, rc, XR, da, nd, dc, rfl, hr2⟩ := hh2.open (houseB_inv HOK.out.1) (by rw [List.length_map]; have := HOK.out.2; omega)
    generalize hhb : houseB (X.map stripL) = h at *
    have HHB : Hid (houseB (X.map stripL) = h) := hhb
    obtain ⟨⟨s0, s1, s2, s3⟩, D, dn⟩ := h
    simp only at hr2 ⊢
    have HGO2 : Hid _ := HGO
    clear hh2 hb1 hb2 HC hhb HGO
    have hb3 := below1 w2 (.cells #[.slice la nl lc, .int .i64 s0, .int .i64 s1, .int .i64 s2, .int .i64 s3, .slice ra nr rc, .slice da nd dc] 32)
    have hh3 : Blk (w2.alloc (.cells #[.slice la nl lc, .int .i64 s0, .int .i64 s1, .int .i64 s2, .int .i64 s3, .slice ra nr rc, .slice da nd dc] 32)) w2.heap.size #[.slice la nl lc, .int .i64 s0, .int .i64 s1, .int .i64 s2, .int .i64 s3, .slice ra nr rc, .slice da nd dc] 32 := Blk.new _ _ _
    have HR : Hid (RdyAt (w2.alloc (.cells #[.slice la nl lc, .int .i64 s0, .int .i64 s1, .int .i64 s2, .int .i64 s3, .slice ra nr rc, .slice da nd dc] 32)) ra nr XR D ∧ Below w.heap.size w (w2.alloc (.cells #[.slice la nl lc, .int .i64 s0, .int .i64 s1, .int .i64 s2, .int .i64 s3, .slice ra nr rc, .slice da nd dc] 32))) := ⟨hr2.below hb3, hbw2.trans (hb3.mono hbw2.size)⟩
    have hs3 : w2.heap.size + 1 = (w2.alloc (.cells #[.slice la nl lc, .int .i64 s0, .int .i64 s1, .int .i64 s2, .int .i64 s3, .slice ra nr rc, .slice da nd dc] 32)).heap.size := by simp
    clear hr2 hbw2 hb3
    go_upto_region 6 with fail
    generalize w2.alloc (.cells #[.slice la nl lc, .int .i64 s0, .int .i64 s1, .int .i64 s2, .int .i64 s3, .slice ra nr rc, .slice da nd dc] 32) = V at *
    have hnE := below1 V (.cells #[] 25)
    go_wp2_with (
      at_builtin
      first
      | (refine wpList_append_fresh lenL oneL Try.underlying22 infoRec rfl (by decide) _ rfl _ _ rfl V.heap.size _ X rfl (HF4.out.below (below1 w4 _)) (some ⟨w4.heap.size, 0, none⟩) 1 1 [(kind, deed, (none, 0), [])] rfl rfl (RowAt.one (Blk.new w4 _ _) rfl) (by unfold maxLen; simp; omega) (by simp; omega) (Nat.le_trans hnE.size (Nat.le_trans hb4.size (below1 w4 _).size)) ?_; intro a5 n5 c5 w5 hf5 hn5 hb5; have HF5 : Hid (FreshL 25 3 encL w5 V.heap.size (.slice a5 n5 c5) (X ++ [(kind, deed, (none, 0), [])]) ∧ n5 = X.length + 1) := ⟨hf5, hn5⟩; clear hf5 hn5)
      | (refine wpList_append_fresh lenL oneL Try.underlying22 infoRec rfl (by decide) _ rfl _ _ rfl V.heap.size _ [] rfl (FreshL.made (Blk.new V _ _) _) a n cap X rfl HN.out.1 ((HN.out.2.2.2.below HR.out.2).below hnE).1 (by unfold maxLen; have := HOK.out.2; simp; omega) (by have := HOK.out.2; simp; omega) (by simp) ?_; intro a4 n4 c4 w4 hf4 hn4 hb4; have HF4 : Hid (FreshL 25 3 encL w4 V.heap.size (.slice a4 n4 c4) X) := (by rw [List.nil_append] at hf4; exact hf4); clear hf4 hn4; have h60 := HOK.out.2))
    have hV4 : Below V.heap.size V w4 := hnE.trans hb4
    have hV5 : Below V.heap.size V w5 := (hV4.trans ((below1 w4 _).mono hV4.size)).trans hb5
    have hBw5 : Below w.heap.size w w5 := HR.out.2.trans (hV5.mono HR.out.2.size)
    have hrow5 := (HF5.out.1.at lenL).1
    have hx5 : RecsAt w5 a5 (X ++ [(kind, deed, (none, 0), [])]) := ⟨hrow5, fun x hx => by
      rcases List.mem_append.1 hx with hx | hx
      · exact (HN.out.2.2.2.2 x hx).below hBw5
      · rw [List.mem_singleton.1 hx]; exact Or.inl rfl⟩
    have hmap : (X ++ [((kind, deed, (none, 0), []) : XL)]).map stripL = X.map stripL ++ [(kind, deed, [])] := by rw [List.map_append]; rfl
    have hok5 : OkL (X.map stripL ++ [(kind, deed, [])]) := fun r hr => by
      rcases List.mem_append.1 hr with hr | hr
      · exact HOK.out.1 r hr
      · rw [List.mem_singleton.1 hr]; exact okP_nil
    have HC5 := refHouse_any a5 (X ++ [(kind, deed, (none, 0), [])]) c5 n5 w5 (by rw [HF5.out.2, List.length_append]; rfl) (by rw [hmap]; exact CalcL.of hok5 (by simp; omega)) hx5
    have hinv5 := houseB_inv hok5
    rw [hmap] at HC5
    rw [houseB_snoc, HHB.out] at HC5 hinv5
    refine HC5.mono ?_
    rintro e w6 ⟨v, rfl, hh6, hb6⟩
    have hV6 : Below V.heap.size V w6 := hV5.trans (hb6.mono hV5.size)
    have hG := HGO2.out key
    generalize hstep ((s0, s1, s2, s3), D, dn) (kind, deed, []) = hx at *
    obtain ⟨⟨t0, t1, t2, t3⟩, D6, dn6⟩ := hx
    obtain ⟨lb, ml, ld, rb, mr, rd, XS, db, md, dd, rfl, hr6⟩ := hh6.open hinv5 (by simp; omega)
    simp only at hr6 hG ⊢
    have HR6 : Hid (RdyAt w6 rb mr XS D6 ∧ Below V.heap.size V w6) := ⟨hr6, hV6⟩
    have HGG : Hid (goB (whoB D key) (whoB D6 key) deed = true) := hG
    have hh6' := hh3.below hV6 hh3.lt
    clear HC5 hinv5 hok5 hmap hx5 hrow5 hb6 hV6 hh6 hV4 hV5 hb4 hb5 HF4 HF5 hnE hr6 hG HGO2 hBw5
    go_upto_region 7 with fail
    have hb7 := below1 w6 (.cells #[.slice lb ml ld, .int .i64 t0, .int .i64 t1, .int .i64 t2, .int .i64 t3, .slice rb mr rd, .slice db md dd] 32)
    have hhx : Blk (w6.alloc (.cells #[.slice lb ml ld, .int .i64 t0, .int .i64 t1, .int .i64 t2, .int .i64 t3, .slice rb mr rd, .slice db md dd] 32)) w6.heap.size #[.slice lb ml ld, .int .i64 t0, .int .i64 t1, .int .i64 t2, .int .i64 t3, .slice rb mr rd, .slice db md dd] 32 := Blk.new _ _ _
    have hhh := hh6'.below hb7 hh6'.lt
    have HU : Hid (RdyAt (w6.alloc (.cells #[.slice lb ml ld, .int .i64 t0, .int .i64 t1, .int .i64 t2, .int .i64 t3, .slice rb mr rd, .slice db md dd] 32)) rb mr XS D6 ∧ RdyAt (w6.alloc (.cells #[.slice lb ml ld, .int .i64 t0, .int .i64 t1, .int .i64 t2, .int .i64 t3, .slice rb mr rd, .slice db md dd] 32)) ra nr XR D ∧ Below w.heap.size w (w6.alloc (.cells #[.slice lb ml ld, .int .i64 t0, .int .i64 t1, .int .i64 t2, .int .i64 t3, .slice rb mr rd, .slice db md dd] 32))) := ⟨HR6.out.1.below hb7, (HR.out.1.below HR6.out.2).below hb7, (HR.out.2.trans (HR6.out.2.mono HR.out.2.size)).trans (hb7.mono (Nat.le_trans HR.out.2.size HR6.out.2.size))⟩
    generalize w6.alloc (.cells #[.slice lb ml ld, .int .i64 t0, .int .i64 t1, .int .i64 t2, .int .i64 t3, .slice rb mr rd, .slice db md dd] 32) = U at *
    have HK : Hid (∀ w', Below U.heap.size U w' → ((w'.cell? ⟨w2.heap.size, 0, none⟩ = some (.slice la nl lc) ∧ w'.cell? ⟨w2.heap.size, 1, none⟩ = some (.int .i64 s0) ∧ w'.cell? ⟨w2.heap.size, 2, none⟩ = some (.int .i64 s1) ∧ w'.cell? ⟨w2.heap.size, 3, none⟩ = some (.int .i64 s2) ∧ w'.cell? ⟨w2.heap.size, 4, none⟩ = some (.int .i64 s3) ∧ w'.cell? ⟨w2.heap.size, 5, none⟩ = some (.slice ra nr rc) ∧ w'.cell? ⟨w2.heap.size, 6, none⟩ = some (.slice da nd dc)) ∧ (w'.cell? ⟨w6.heap.size, 0, none⟩ = some (.slice lb ml ld) ∧ w'.cell? ⟨w6.heap.size, 1, none⟩ = some (.int .i64 t0) ∧ w'.cell? ⟨w6.heap.size, 2, none⟩ = some (.int .i64 t1) ∧ w'.cell? ⟨w6.heap.size, 3, none⟩ = some (.int .i64 t2) ∧ w'.cell? ⟨w6.heap.size, 4, none⟩ = some (.int .i64 t3) ∧ w'.cell? ⟨w6.heap.size, 5, none⟩ = some (.slice rb mr rd) ∧ w'.cell? ⟨w6.heap.size, 6, none⟩ = some (.slice db md dd)))) := fun w' hb => by
      have h1 := hhh.below hb hhh.lt
      have h2 := hhx.below hb hhx.lt
      exact ⟨⟨h1.cell 0, h1.cell 1, h1.cell 2, h1.cell 3, h1.cell 4, h1.cell 5, h1.cell 6⟩, h2.cell 0, h2.cell 1, h2.cell 2, h2.cell 3, h2.cell 4, h2.cell 5, h2.cell 6⟩
    have hX0 : Below U.heap.size U U.drew := (Below.refl _ _).drew
    have hl1 := hhh.lt
    have hl2 := hhx.lt
    clear hhh hhx hb7 hh6' HR6 HR hh3 hs3
    have HC1 := fun (W : World) (hW : RdyAt W ra nr XR D) => whoR_any la ra da nl lc nr rc nd dc s0 s1 s2 s3 key XR D W hW
    have HC2 := fun (W : World) (hW : RdyAt W rb mr XS D6) => whoR_any lb rb db ml ld mr rd md dd t0 t1 t2 t3 key XS D6 W hW
    generalize whoB D key = z1 at *
    generalize whoB D6 key = z2 at *
    go_region_held3 (fun w' => ((w'.cell? ⟨w2.heap.size, 0, none⟩ = some (.slice la nl lc) ∧ w'.cell? ⟨w2.heap.size, 1, none⟩ = some (.int .i64 s0) ∧ w'.cell? ⟨w2.heap.size, 2, none⟩ = some (.int .i64 s1) ∧ w'.cell? ⟨w2.heap.size, 3, none⟩ = some (.int .i64 s2) ∧ w'.cell? ⟨w2.heap.size, 4, none⟩ = some (.int .i64 s3) ∧ w'.cell? ⟨w2.heap.size, 5, none⟩ = some (.slice ra nr rc) ∧ w'.cell? ⟨w2.heap.size, 6, none⟩ = some (.slice da nd dc)) ∧ (w'.cell? ⟨w6.heap.size, 0, none⟩ = some (.slice lb ml ld) ∧ w'.cell? ⟨w6.heap.size, 1, none⟩ = some (.int .i64 t0) ∧ w'.cell? ⟨w6.heap.size, 2, none⟩ = some (.int .i64 t1) ∧ w'.cell? ⟨w6.heap.size, 3, none⟩ = some (.int .i64 t2) ∧ w'.cell? ⟨w6.heap.size, 4, none⟩ = some (.int .i64 t3) ∧ w'.cell? ⟨w6.heap.size, 5, none⟩ = some (.slice rb mr rd) ∧ w'.cell? ⟨w6.heap.size, 6, none⟩ = some (.slice db md dd)))) (
      first
      | exact HK.out _ (Below.refl _ _)
      | exact HK.out _ hX0
      | exact HK.out _ hB8
      | exact HK.out _ hB9) (
      first
      | (have hB8' := hB8; go_at_call 15; clear hB8'; refine (HC2 _ (by exact HU.out.1.below hB8)).mono ?_; rintro e w9 ⟨rfl, hb9⟩; have hB9 : Below U.heap.size U w9 := hB8.trans (hb9.mono hB8.size))
      | (go_at_call 15; refine (HC1 _ (by exact HU.out.2.1.below hX0)).mono ?_; rintro e w8 ⟨rfl, hb8⟩; have hB8 : Below U.heap.size U w8 := hX0.trans (hb8.mono hX0.size)))
    have hBf : Below w.heap.size w w9 := HU.out.2.2.trans (hB9.mono HU.out.2.2.size)
    clear HC1 HC2 HK hb8 hb9 hB8 hB9 hX0 HU
    go_wp2
    all_goals
      go_ret
      refine ⟨ret_bool ?_, hBf⟩
      have := HGG.out
      simp_all [goB]

end Go.Proofs.Ytcklpbmeelalcac
