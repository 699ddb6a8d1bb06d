/- What the document's note does. -/
import Derived.Test.YtikmnaegalmfeaaKHear1
import Derived.Test.YtikmnaegalmfeaaKRelR
import Derived.Deep.RegionHeld3
namespace Go.Proofs.Ytikmnaegalmfeaa
open Go.RowKit
attribute [local go_sem ↓] Go.wp_at_zero Go.wp_at_succ

theorem FreshL.outR {α : Type} {e : TypeId} {size : Nat} {enc : α → List Value} {w : World} {B : Nat} {a : Option Addr} {n cap : Nat} {xs : List α} (h : FreshL e size enc w B (.slice a n cap) xs) {R : Nat → Prop} (hR : ∀ b, R b → b < B) : Out R a xs.length := by
  rcases h with h | ⟨h0, _⟩
  · exact h.outR hR _
  · exact Or.inl (by rw [h0]; rfl)
theorem FreshL.mono {α : Type} {e : TypeId} {size : Nat} {enc : α → List Value} {w : World} {B : Nat} {v : Value} {xs : List α} (h : FreshL e size enc w B v xs) {B' : Nat} (hB : B' ≤ B) : FreshL e size enc w B' v xs := by
  rcases h with h | h
  · exact Or.inl (OwnL.mono h hB)
  · exact Or.inr h
/-- R, and one block more. -/
theorem more_R (R : Nat → Prop) {N M : Nat} (hR : ∀ b, R b → b < N) (hM : N ≤ M) : ∃ R' : Nat → Prop, (∀ b, R b → R' b) ∧ R' M ∧ (∀ b, R' b → R b ∨ N ≤ b) ∧ (∀ b, R' b → b < M + 1) ∧ (∀ b, R' b → R b ∨ b = M) :=
  ⟨fun b => R b ∨ b = M, fun b h => Or.inl h, Or.inr rfl, fun b h => by rcases h with h | h; exact Or.inl h; exact Or.inr (by omega), fun b h => by rcases h with h | h; have := hR b h; omega; omega, fun b h => h⟩

theorem heap3a (w : World) (o o' o'' : Obj) {cs : Array Value} {t : TypeId} (h : o'' = .cells cs t) : Blk (((w.alloc o).alloc o').alloc o'') (w.heap.size + 1 + 1) cs t := by
  subst h
  have := Blk.new ((w.alloc o).alloc o') cs t
  simpa using this
theorem below3 (w : World) (o o' o'' : Obj) : Below w.heap.size w (((w.alloc o).alloc o').alloc o'') := (below2 w o o').alloc (by simp; omega) _

set_option maxRecDepth 20000 in
set_option maxHeartbeats 4000000 in
theorem refNote_any (R : Nat → Prop) (la ra da : Option Addr) (nl lc nr rc nd dc : Nat) (s0 s1 s2 s3 : Int) (Y : List XL) (kd dd : Int) (ax : Option Addr) (nx cx : Nat) (l : List P3) (w : World) (hR : ∀ b, R b → b < w.heap.size) (hn : nl = Y.length) (hnx : nx = l.length) (hc : CalcL (Y.map stripL ++ [(kd, dd, l)]))
    (hrow : RowAt 3 encL w la Y) (hp0 : ∀ y ∈ Y, PartsR R w y.2.2.1.1 y.2.2.2) (hq0 : PartsR R w ax l) :
    Calls Try.prog 37 #[.agg #[.slice la nl lc, .int .i64 s0, .int .i64 s1, .int .i64 s2, .int .i64 s3, .slice ra nr rc, .slice da nd dc], .agg #[.int .i64 kd, .int .i64 dd, .slice ax nx cx]] w fun e w' => ∃ v, e = .returned v ∧ HouseV R w' v (Y.map stripL ++ [(kd, dd, l)]) (houseB (Y.map stripL ++ [(kd, dd, l)])) ∧ Below w.heap.size w w' := by
  obtain ⟨R', g1, g2, g3, g4, -⟩ := more_R R hR (M := w.heap.size + 1 + 1) (by omega)
  have hsz : (Y.length + 1) * 40 ≤ 140737488355328 := by have := hc.size; simpa using this
  have hmap : (Y ++ [((kd, dd, (ax, cx), l) : XL)]).map stripL = Y.map stripL ++ [(kd, dd, l)] := by rw [List.map_append]; rfl
  have hpx : ∀ y ∈ Y ++ [((kd, dd, (ax, cx), l) : XL)], PartsR R' w y.2.2.1.1 y.2.2.2 := fun y hy => by
    rcases List.mem_append.1 hy with hy | hy
    · exact (hp0 y hy).wide g3
    · rw [List.mem_singleton.1 hy]; exact hq0.wide g3
  have HCH0 := fun (a' : Option Addr) (n' c' : Nat) (w' : World) (h1 : n' = (Y ++ [((kd, dd, (ax, cx), l) : XL)]).length) (h2 : RowAt 3 encL w' a' (Y ++ [(kd, dd, (ax, cx), l)])) (h3 : Out R' a' (Y ++ [((kd, dd, (ax, cx), l) : XL)]).length) (h4 : Below w.heap.size w w') (h5 : w.heap.size + 1 + 1 + 1 ≤ w'.heap.size) =>
    refHouse_R R' a' (Y ++ [(kd, dd, (ax, cx), l)]) c' n' w' (fun b hb => by have := g4 b hb; omega) h1 (by rw [hmap]; exact hc) h2 h3 (fun y hy => (hpx y hy).below h4)
  rw [hmap] at HCH0
  generalize hhb : houseB (Y.map stripL ++ [(kd, dd, l)]) = hx at *
  obtain ⟨⟨t0, t1, t2, t3⟩, D, dn⟩ := hx
  have HCH : ∀ (a' : Option Addr) (n' c' : Nat) (w' : World), n' = (Y ++ [((kd, dd, (ax, cx), l) : XL)]).length → RowAt 3 encL w' a' (Y ++ [(kd, dd, (ax, cx), l)]) → Out R' a' (Y ++ [((kd, dd, (ax, cx), l) : XL)]).length → Below w.heap.size w w' → w.heap.size + 1 + 1 + 1 ≤ w'.heap.size →
      Calls Try.prog 8 #[.slice a' n' c'] w' fun e w'' => ∃ (ra' : Option Addr) (nr' rc' : Nat) (XR' : List XD) (da' : Option Addr) (nd' dc' : Nat), e = .returned (.agg #[.slice a' n' c', .int .i64 t0, .int .i64 t1, .int .i64 t2, .int .i64 t3, .slice ra' nr' rc', .slice da' nd' dc']) ∧ Hid (HouseF R' w'' a' n' (Y ++ [(kd, dd, (ax, cx), l)]) ra' nr' XR' da' nd' (Y.map stripL ++ [(kd, dd, l)]) ((t0, t1, t2, t3), D, dn)) ∧ Below w'.heap.size w' w'' := by
    intro a' n' c' w' h1 h2 h3 h4 h5
    refine (HCH0 a' n' c' w' h1 h2 h3 h4 h5).mono ?_
    rintro e w'' ⟨h, ra', nr', rc', XR', da', nd', dc', rfl, rfl, hF, hb⟩
    exact ⟨ra', nr', rc', XR', da', nd', dc', rfl, hF, hb⟩
  clear HCH0
  have HN : Hid (nl = Y.length ∧ l.length = nx ∧ RowAt 3 encL w la Y ∧ (∀ b, R' b → b < w.heap.size + 1 + 1 + 1) ∧ R' (w.heap.size + 1 + 1) ∧ (∀ b, R b → R' b)) := ⟨hn, hnx.symm, hrow, g4, g2, g1⟩
  clear hn hnx hc hrow hp0 hq0 hmap hpx hhb g1 g2 g3 g4 hR
  go_enter Try.func37, Try.ntmps37
  go_wp2_with fail
  have hbX := below3 w (.cells #[.slice la nl lc, .int .i64 s0, .int .i64 s1, .int .i64 s2, .int .i64 s3, .slice ra nr rc, .slice da nd dc] 31) (.cells #[.int .i64 kd, .int .i64 dd, .slice ax nx cx] 67) (.cells #[.slice none 0 0, .int .i64 0, .int .i64 0, .int .i64 0, .int .i64 0, .slice none 0 0, .slice none 0 0] 31)
  have hh : Blk (((w.alloc (.cells #[.slice la nl lc, .int .i64 s0, .int .i64 s1, .int .i64 s2, .int .i64 s3, .slice ra nr rc, .slice da nd dc] 31)).alloc (.cells #[.int .i64 kd, .int .i64 dd, .slice ax nx cx] 67)).alloc (.cells #[.slice none 0 0, .int .i64 0, .int .i64 0, .int .i64 0, .int .i64 0, .slice none 0 0, .slice none 0 0] 31)) w.heap.size #[.slice la nl lc, .int .i64 s0, .int .i64 s1, .int .i64 s2, .int .i64 s3, .slice ra nr rc, .slice da nd dc] 31 := ((Blk.new w _ _).alloc _).alloc _
  have hr : Blk (((w.alloc (.cells #[.slice la nl lc, .int .i64 s0, .int .i64 s1, .int .i64 s2, .int .i64 s3, .slice ra nr rc, .slice da nd dc] 31)).alloc (.cells #[.int .i64 kd, .int .i64 dd, .slice ax nx cx] 67)).alloc (.cells #[.slice none 0 0, .int .i64 0, .int .i64 0, .int .i64 0, .int .i64 0, .slice none 0 0, .slice none 0 0] 31)) (w.heap.size + 1) #[.int .i64 kd, .int .i64 dd, .slice ax nx cx] 67 := Blk.alloc (heap2 _ _ _) _
  have hz : Blk (((w.alloc (.cells #[.slice la nl lc, .int .i64 s0, .int .i64 s1, .int .i64 s2, .int .i64 s3, .slice ra nr rc, .slice da nd dc] 31)).alloc (.cells #[.int .i64 kd, .int .i64 dd, .slice ax nx cx] 67)).alloc (.cells #[.slice none 0 0, .int .i64 0, .int .i64 0, .int .i64 0, .int .i64 0, .slice none 0 0, .slice none 0 0] 31)) (w.heap.size + 1 + 1) #[.slice none 0 0, .int .i64 0, .int .i64 0, .int .i64 0, .int .i64 0, .slice none 0 0, .slice none 0 0] 31 := heap3a _ _ _ _ rfl
  have hWs : (((w.alloc (.cells #[.slice la nl lc, .int .i64 s0, .int .i64 s1, .int .i64 s2, .int .i64 s3, .slice ra nr rc, .slice da nd dc] 31)).alloc (.cells #[.int .i64 kd, .int .i64 dd, .slice ax nx cx] 67)).alloc (.cells #[.slice none 0 0, .int .i64 0, .int .i64 0, .int .i64 0, .int .i64 0, .slice none 0 0, .slice none 0 0] 31)).heap.size = w.heap.size + 1 + 1 + 1 := by simp
  generalize (((w.alloc (.cells #[.slice la nl lc, .int .i64 s0, .int .i64 s1, .int .i64 s2, .int .i64 s3, .slice ra nr rc, .slice da nd dc] 31)).alloc (.cells #[.int .i64 kd, .int .i64 dd, .slice ax nx cx] 67)).alloc (.cells #[.slice none 0 0, .int .i64 0, .int .i64 0, .int .i64 0, .int .i64 0, .slice none 0 0, .slice none 0 0] 31)) = W at *
  have HB : Hid (Below w.heap.size w W ∧ W.heap.size = w.heap.size + 1 + 1 + 1) := ⟨hbX, hWs⟩
  have HK : Hid (∀ w', Below W.heap.size W w' → (w'.cell? ⟨w.heap.size, 0, none⟩ = some (.slice la nl lc) ∧ w'.cell? ⟨w.heap.size + 1, 0, none⟩ = some (.int .i64 kd) ∧ w'.cell? ⟨w.heap.size + 1, 1, none⟩ = some (.int .i64 dd) ∧ w'.cell? ⟨w.heap.size + 1, 2, none⟩ = some (.slice ax nx cx))) := fun w' hb =>
    ⟨(hh.below hb hh.lt).cell 0, (hr.below hb hr.lt).cell 0, (hr.below hb hr.lt).cell 1, (hr.below hb hr.lt).cell 2⟩
  have HK2 : Hid (∀ w', Below (w.heap.size + 1 + 1) W w' → (w'.cell? ⟨w.heap.size, 0, none⟩ = some (.slice la nl lc) ∧ w'.cell? ⟨w.heap.size + 1, 0, none⟩ = some (.int .i64 kd) ∧ w'.cell? ⟨w.heap.size + 1, 1, none⟩ = some (.int .i64 dd) ∧ w'.cell? ⟨w.heap.size + 1, 2, none⟩ = some (.slice ax nx cx))) := fun w' hb =>
    ⟨(hh.below hb (by omega)).cell 0, (hr.below hb (by omega)).cell 0, (hr.below hb (by omega)).cell 1, (hr.below hb (by omega)).cell 2⟩
  have HZ : Hid (∀ w', Below W.heap.size W w' → Blk w' (w.heap.size + 1 + 1) #[.slice none 0 0, .int .i64 0, .int .i64 0, .int .i64 0, .int .i64 0, .slice none 0 0, .slice none 0 0] 31) := fun w' hb => hz.below hb hz.lt
  have HR : Hid (∀ w', Below W.heap.size W w' → RowAt 3 encL w' la Y ∧ Below w.heap.size w w' ∧ w.heap.size + 1 + 1 + 1 ≤ w'.heap.size) := fun w' hb => ⟨(HN.out.2.2.1.below hbX).below hb, hbX.trans (hb.mono hbX.size), by have := hb.size; omega⟩
  have hX0 : Below W.heap.size W W.drew := (Below.refl _ _).drew
  have hlw := hz.lt
  clear hh hr hz hbX hWs
  go_region_held3 (fun w' => (w'.cell? ⟨w.heap.size, 0, none⟩ = some (.slice la nl lc) ∧ w'.cell? ⟨w.heap.size + 1, 0, none⟩ = some (.int .i64 kd) ∧ w'.cell? ⟨w.heap.size + 1, 1, none⟩ = some (.int .i64 dd) ∧ w'.cell? ⟨w.heap.size + 1, 2, none⟩ = some (.slice ax nx cx))) (
    first
    | (with_reducible exact HK.out _ hH)
    | (with_reducible exact HK2.out _ hS7)
    | exact HK.out _ h33
    | exact HK.out _ h30
    | exact HK.out _ (h30.alloc h30.size _)
    | exact HK.out _ hX0
    | exact HK.out _ (hX0.alloc hX0.size _)
    | exact HK.out _ ((hX0.alloc hX0.size _).alloc (by first | omega | (simp; omega) | simp) _)
    | exact HK.out _ (Below.refl _ _)) (
    first
    | (have hh33 := h33; go_at_call 8; clear hh33; refine (HCH a33 n33 c33 _ HO33.out.2.1 HO33.out.1 HO33.out.2.2 (HR.out _ h33).2.1 (HR.out _ h33).2.2).mono ?_; rintro e wH ⟨ra', nr', rc', XR', da', nd', dc', rfl, HHH, hbH⟩; have hH : Below W.heap.size W wH := h33.trans (hbH.mono h33.size); have hS7 : Below (w.heap.size + 1 + 1) W (((((((wH.setCell ⟨w.heap.size + 1 + 1, 0, none⟩ (.slice a33 n33 c33)).setCell ⟨w.heap.size + 1 + 1, 1, none⟩ (.int .i64 t0)).setCell ⟨w.heap.size + 1 + 1, 2, none⟩ (.int .i64 t1)).setCell ⟨w.heap.size + 1 + 1, 3, none⟩ (.int .i64 t2)).setCell ⟨w.heap.size + 1 + 1, 4, none⟩ (.int .i64 t3)).setCell ⟨w.heap.size + 1 + 1, 5, none⟩ (.slice ra' nr' rc')).setCell ⟨w.heap.size + 1 + 1, 6, none⟩ (.slice da' nd' dc')) := (((((((hH.mono (Nat.le_of_lt hlw)).setCell (Nat.le_refl _) _).setCell (Nat.le_refl _) _).setCell (Nat.le_refl _) _).setCell (Nat.le_refl _) _).setCell (Nat.le_refl _) _).setCell (Nat.le_refl _) _).setCell (Nat.le_refl _) _; have hzH := HZ.out _ hH; have j0 := hzH.cell 0; have j1 := hzH.cell 1; have j2 := hzH.cell 2; have j3 := hzH.cell 3; have j4 := hzH.cell 4; have j5 := hzH.cell 5; have j6 := hzH.cell 6; have i0 := hzH.free 0; have i1 := hzH.free 1; have i2 := hzH.free 2; have i3 := hzH.free 3; have i4 := hzH.free 4; have i5 := hzH.free 5; have i6 := hzH.free 6; have hzl := hzH.lt; (simp at j0 j1 j2 j3 j4 j5 j6); clear hzH)
    | (refine step_append_fresh lenL oneL Try.underlying22 infoRec rfl (by decide) _ (by first | rfl | simp [Region.wanted, yielded]) (.tmp 8) (.tmp 10) rfl W.heap.size (.slice a30 n30 c30) Y rfl (by first | exact HO30.out | exact HO30.out.below (below1 w30 _)) _ 1 1 [(kd, dd, (ax, cx), l)] rfl rfl (by first | exact RowAt.one (Blk.new _ _ _) (by simp [encL, HN.out.2.1]) | exact RowAt.one (Blk.below (Blk.new _ _ _) hb30 (by first | omega | (simp; omega) | simp)) (by simp [encL, HN.out.2.1]) | exact RowAt.one (Blk.below ((Blk.new _ _ _).alloc _) hb30 (by first | omega | (simp; omega) | simp)) (by simp [encL, HN.out.2.1]) | exact RowAt.one (Blk.below (heap2 _ _ _) hb30 (by first | omega | (simp; omega) | simp)) (by simp [encL, HN.out.2.1]) | exact RowAt.one (Blk.below (Blk.drew ((Blk.new _ _ _).alloc _)) hb30 (by first | omega | (simp; omega) | simp)) (by simp [encL, HN.out.2.1]) | exact RowAt.one (Blk.below (Blk.drew (heap2 _ _ _)) hb30 (by first | omega | (simp; omega) | simp)) (by simp [encL, HN.out.2.1])) (by unfold maxLen; simp; omega) (by simp; omega) (by first | omega | (simp; omega) | simp) ?_; intro a33 n33 c33 w33 hf33 hn33 hb33; have h33 : Below W.heap.size W w33 := (by first | exact h30.trans hb33 | exact (h30.alloc h30.size _).trans hb33); have HO33 : Hid (RowAt 3 encL w33 a33 (Y ++ [(kd, dd, (ax, cx), l)]) ∧ n33 = (Y ++ [((kd, dd, (ax, cx), l) : XL)]).length ∧ Out R' a33 (Y ++ [((kd, dd, (ax, cx), l) : XL)]).length) := ⟨(hf33.at lenL).1, (hf33.at lenL).2.1, hf33.outR (fun b hb => by rw [HB.out.2]; exact HN.out.2.2.2.1 b hb)⟩; clear hf33 hn33 hb33)
    | (refine step_append_fresh lenL oneL Try.underlying22 infoRec rfl (by decide) _ (by first | rfl | simp [Region.wanted, yielded]) (.tmp 5) (.tmp 7) rfl _ _ [] rfl (by first | exact FreshL.made (Blk.new _ _ _) _ | exact FreshL.made ((Blk.new _ _ _).alloc _) _ | exact FreshL.made (heap2 _ _ _) _) la nl lc Y rfl HN.out.1 (HR.out _ (by first | exact hX0.alloc hX0.size _ | exact (hX0.alloc hX0.size _).alloc (by first | omega | (simp; omega) | simp) _)).1 (by unfold maxLen; simp; omega) (by simp; omega) (Nat.le_refl _) ?_; intro a30 n30 c30 w30 hf30 hn30 hb30; have h30 : Below W.heap.size W w30 := (by first | exact (hX0.alloc hX0.size _).trans (hb30.mono (by first | omega | (simp; omega) | simp)) | exact ((hX0.alloc hX0.size _).alloc (by first | omega | (simp; omega) | simp) _).trans (hb30.mono (by first | omega | (simp; omega) | simp))); have h30s := h30.size; have h30b := hb30.size; (try simp at h30b); have HO30 : Hid (FreshL 67 3 encL w30 W.heap.size (.slice a30 n30 c30) Y) := hf30.mono (by first | omega | (simp; omega) | simp); clear hf30 hn30))
  all_goals
    obtain ⟨hW, -⟩ := fill7 (HZ.out _ hH) (.slice a33 n33 c33) (.int .i64 t0) (.int .i64 t1) (.int .i64 t2) (.int .i64 t3) (.slice ra' nr' rc') (.slice da' nd' dc')
    have hBW : Below w.heap.size w (((((((wH.setCell ⟨w.heap.size + 1 + 1, 0, none⟩ (.slice a33 n33 c33)).setCell ⟨w.heap.size + 1 + 1, 1, none⟩ (.int .i64 t0)).setCell ⟨w.heap.size + 1 + 1, 2, none⟩ (.int .i64 t1)).setCell ⟨w.heap.size + 1 + 1, 3, none⟩ (.int .i64 t2)).setCell ⟨w.heap.size + 1 + 1, 4, none⟩ (.int .i64 t3)).setCell ⟨w.heap.size + 1 + 1, 5, none⟩ (.slice ra' nr' rc')).setCell ⟨w.heap.size + 1 + 1, 6, none⟩ (.slice da' nd' dc')) := HB.out.1.trans (hS7.mono (by omega))
    have hK7 : Keep R' wH (((((((wH.setCell ⟨w.heap.size + 1 + 1, 0, none⟩ (.slice a33 n33 c33)).setCell ⟨w.heap.size + 1 + 1, 1, none⟩ (.int .i64 t0)).setCell ⟨w.heap.size + 1 + 1, 2, none⟩ (.int .i64 t1)).setCell ⟨w.heap.size + 1 + 1, 3, none⟩ (.int .i64 t2)).setCell ⟨w.heap.size + 1 + 1, 4, none⟩ (.int .i64 t3)).setCell ⟨w.heap.size + 1 + 1, 5, none⟩ (.slice ra' nr' rc')).setCell ⟨w.heap.size + 1 + 1, 6, none⟩ (.slice da' nd' dc')) := (((((((Keep.refl R' wH).setCell HN.out.2.2.2.2.1 _).setCell HN.out.2.2.2.2.1 _).setCell HN.out.2.2.2.2.1 _).setCell HN.out.2.2.2.2.1 _).setCell HN.out.2.2.2.2.1 _).setCell HN.out.2.2.2.2.1 _).setCell HN.out.2.2.2.2.1 _
    have HF : Hid (HouseV R (((((((wH.setCell ⟨w.heap.size + 1 + 1, 0, none⟩ (.slice a33 n33 c33)).setCell ⟨w.heap.size + 1 + 1, 1, none⟩ (.int .i64 t0)).setCell ⟨w.heap.size + 1 + 1, 2, none⟩ (.int .i64 t1)).setCell ⟨w.heap.size + 1 + 1, 3, none⟩ (.int .i64 t2)).setCell ⟨w.heap.size + 1 + 1, 4, none⟩ (.int .i64 t3)).setCell ⟨w.heap.size + 1 + 1, 5, none⟩ (.slice ra' nr' rc')).setCell ⟨w.heap.size + 1 + 1, 6, none⟩ (.slice da' nd' dc')) (.agg #[.slice a33 n33 c33, .int .i64 t0, .int .i64 t1, .int .i64 t2, .int .i64 t3, .slice ra' nr' rc', .slice da' nd' dc']) (Y.map stripL ++ [(kd, dd, l)]) ((t0, t1, t2, t3), D, dn) ∧ Below w.heap.size w (((((((wH.setCell ⟨w.heap.size + 1 + 1, 0, none⟩ (.slice a33 n33 c33)).setCell ⟨w.heap.size + 1 + 1, 1, none⟩ (.int .i64 t0)).setCell ⟨w.heap.size + 1 + 1, 2, none⟩ (.int .i64 t1)).setCell ⟨w.heap.size + 1 + 1, 3, none⟩ (.int .i64 t2)).setCell ⟨w.heap.size + 1 + 1, 4, none⟩ (.int .i64 t3)).setCell ⟨w.heap.size + 1 + 1, 5, none⟩ (.slice ra' nr' rc')).setCell ⟨w.heap.size + 1 + 1, 6, none⟩ (.slice da' nd' dc'))) := ⟨⟨_, _, _, _, _, _, _, _, _, _, _, rfl, (HHH.out.keep hK7).wide (fun b hb => Or.inl (HN.out.2.2.2.2.2 b hb))⟩, hBW⟩
    have e0 := hW.cell 0
    have e1 := hW.cell 1
    have e2 := hW.cell 2
    have e3 := hW.cell 3
    have e4 := hW.cell 4
    have e5 := hW.cell 5
    have e6 := hW.cell 6
    simp only [List.getElem?_toArray, List.getElem?_cons_zero, List.getElem?_cons_succ] at e0 e1 e2 e3 e4 e5 e6
    clear i0 i1 i2 i3 i4 i5 i6 j0 j1 j2 j3 j4 j5 j6 hW hBW hK7 hS7 HK HK2 HZ HR HCH
    generalize (((((((wH.setCell ⟨w.heap.size + 1 + 1, 0, none⟩ (.slice a33 n33 c33)).setCell ⟨w.heap.size + 1 + 1, 1, none⟩ (.int .i64 t0)).setCell ⟨w.heap.size + 1 + 1, 2, none⟩ (.int .i64 t1)).setCell ⟨w.heap.size + 1 + 1, 3, none⟩ (.int .i64 t2)).setCell ⟨w.heap.size + 1 + 1, 4, none⟩ (.int .i64 t3)).setCell ⟨w.heap.size + 1 + 1, 5, none⟩ (.slice ra' nr' rc')).setCell ⟨w.heap.size + 1 + 1, 6, none⟩ (.slice da' nd' dc')) = Z at *
    go_wp2_with fail
    refine bodyPost_ret (v := .agg #[.slice a33 n33 c33, .int .i64 t0, .int .i64 t1, .int .i64 t2, .int .i64 t3, .slice ra' nr' rc', .slice da' nd' dc']) ?_ rfl ⟨_, rfl, HF.out.1, HF.out.2⟩
    simp [results, Try.results37, go_sem, e0, e1, e2, e3, e4, e5, e6]

end Go.Proofs.Ytikmnaegalmfeaa
