import Derived.Test.YtpcnlifmkhagkaaKAJ06
set_option maxRecDepth 20000
set_option maxHeartbeats 20000000
namespace Go.Proofs.Ytpcnlifmkhagkaa
open Go.RowKit
open Go.Value renaming slice → G, int → E
open Go.IntKind renaming i64 → J
open _root_.Option renaming none → U
open Go.Obj renaming cells → T
open Go.RowKit renaming Hid → Q, Below → Z
open Go.World renaming setCell → r
open _root_.Nat renaming le_refl → kaa
attribute [local go_sem ↓] Go.wp_at_zero Go.wp_at_succ
theorem zak.outR {α : Type} {e : TypeId} {size : Nat} {enc : α → List Value} {w : World} {B : Nat} {a : Option Addr} {n cap : Nat} {xs : List α} (h : zak e size enc w B (G a n cap) xs) {R : Nat → Prop} (hR : ∀ b, R b → b < B) : Out R a xs.length := by
 rcases h with h | ⟨h0, _⟩
 ·exact h.outR hR _
 ·exact Or.inl (by rw [h0]; rfl)
theorem zak.mono {α : Type} {e : TypeId} {size : Nat} {enc : α → List Value} {w : World} {B : Nat} {v : Value} {xs : List α} (h : zak e size enc w B v xs) {B' : Nat} (hB : B' ≤ B) : zak e size enc w B' v xs := by
 rcases h with h | h
 ·exact Or.inl (zd.mono h hB)
 ·exact Or.inr h
theorem zfr (R : Nat → Prop) {N M : Nat} (hR : ∀ b, R b → b < N) (hM : N ≤ M) : ∃ R' : Nat → Prop, (∀ b, R b → R' b) ∧ R' M ∧ (∀ b, R' b → R b ∨ N ≤ b) ∧ (∀ b, R' b → b < M + 1) ∧ (∀ b, R' b → R b ∨ b = M) :=
 ⟨fun b => R b ∨ b = M, fun b h => Or.inl h, Or.inr rfl, fun b h => by rcases h with h | h; exact Or.inl h; exact Or.inr (by omega), fun b h => by rcases h with h | h; have := hR b h; omega; omega, fun b h => h⟩
theorem zhs (w : World) (o o' o'' : Obj) {cs : Array Value} {t : TypeId} (h : o'' = T cs t) : Blk (((w.alloc o).alloc o').alloc o'') (w.heap.size + 1 + 1) cs t := by
 subst h;have := Blk.new ((w.alloc o).alloc o') cs t
 simpa using this
theorem zho (w : World) (o o' o'' : Obj) : Z w.heap.size w (((w.alloc o).alloc o').alloc o'') := (za2 w o o').alloc (by simp; omega) _
theorem zi7 (R : Nat → Prop) (la ra da : Option Addr) (nl lc nr rc nd dc : Nat) (s0 s1 s2 s3 : Int) (Y : List XL) (kd dd : Int) (ax : Option Addr) (nx cx : Nat) (l : List P3) (w : World) (hR : ∀ b, R b → b < w.heap.size) (hn : nl = Y.length) (hnx : nx = l.length) (hc : zc9 (Y.map zf ++ [(kd, dd, l)]))
  (jX : zk 3 zaj w la Y) (hp0 : ∀ y ∈ Y, zae R w y.2.2.1.1 y.2.2.2) (hq0 : zae R w ax l) :
  Calls Try.prog 73 #[.agg #[G la nl lc, E J s0, E J s1, E J s2, E J s3, G ra nr rc, G da nd dc], .agg #[E J kd, E J dd, G ax nx cx]] w fun e w' => ∃ v, e = .returned v ∧ zbc R w' v (Y.map zf ++ [(kd, dd, l)]) (ze (Y.map zf ++ [(kd, dd, l)])) ∧ Z w.heap.size w w' := by
 obtain ⟨R', g1, g2, g3, g4, -⟩ := zfr R hR (M := w.heap.size + 1 + 1) (by omega);have hsz : (Y.length + 1) * 40 ≤ 140737488355328 := by have := hc.size; simpa using this
 have hmap : (Y ++ [((kd, dd, (ax, cx), l) : XL)]).map zf = Y.map zf ++ [(kd, dd, l)] := by rw [List.map_append]; rfl
 have hpx : ∀ y ∈ Y ++ [((kd, dd, (ax, cx), l) : XL)], zae R' w y.2.2.1.1 y.2.2.2 := fun y hy => by
  rcases List.mem_append.1 hy with hy | hy
  ·exact (hp0 y hy).wide g3
  ·rw [List.mem_singleton.1 hy]; exact hq0.wide g3
 have HCH0 := fun (a' : Option Addr) (n' c' : Nat) (w' : World) (h1 : n' = (Y ++ [((kd, dd, (ax, cx), l) : XL)]).length) (h2 : zk 3 zaj w' a' (Y ++ [(kd, dd, (ax, cx), l)])) (h3 : Out R' a' (Y ++ [((kd, dd, (ax, cx), l) : XL)]).length) (h4 : Z w.heap.size w w') (h5 : w.heap.size + 1 + 1 + 1 ≤ w'.heap.size) =>
  znw R' a' (Y ++ [(kd, dd, (ax, cx), l)]) c' n' w' (fun b hb => by have := g4 b hb; omega) h1 (by rw [hmap]; exact hc) h2 h3 (fun y hy => (hpx y hy).below h4)
 rw [hmap] at HCH0;generalize hhb : ze (Y.map zf ++ [(kd, dd, l)]) = hx at *;obtain ⟨⟨t0, t1, t2, t3⟩, D, dn⟩ := hx
 have HCH : ∀ (a' : Option Addr) (n' c' : Nat) (w' : World), n' = (Y ++ [((kd, dd, (ax, cx), l) : XL)]).length → zk 3 zaj w' a' (Y ++ [(kd, dd, (ax, cx), l)]) → Out R' a' (Y ++ [((kd, dd, (ax, cx), l) : XL)]).length → Z w.heap.size w w' → w.heap.size + 1 + 1 + 1 ≤ w'.heap.size →
   Calls Try.prog 82 #[G a' n' c'] w' fun e w'' => ∃ (ra' : Option Addr) (nr' rc' : Nat) (XR' : List XD) (da' : Option Addr) (nd' dc' : Nat), e = .returned (.agg #[G a' n' c', E J t0, E J t1, E J t2, E J t3, G ra' nr' rc', G da' nd' dc']) ∧ Q (zdm R' w'' a' n' (Y ++ [(kd, dd, (ax, cx), l)]) ra' nr' XR' da' nd' (Y.map zf ++ [(kd, dd, l)]) ((t0, t1, t2, t3), D, dn)) ∧ Z w'.heap.size w' w'' := by
  intro a' n' c' w' h1 h2 h3 h4 h5;refine (HCH0 a' n' c' w' h1 h2 h3 h4 h5).mono ?_;rintro e w'' ⟨h, ra', nr', rc', XR', da', nd', dc', rfl, rfl, hF, hb⟩;exact ⟨ra', nr', rc', XR', da', nd', dc', rfl, hF, hb⟩
 clear HCH0;have HN := zF hn hnx.symm jX g4 g2 g1;clear hn hnx hc jX hp0 hq0 hmap hpx hhb g1 g2 g3 g4 hR;go_enter Try.func73, Try.ntmps73
 go_wp2_with fail
 have hbX := zho w (T #[G la nl lc, E J s0, E J s1, E J s2, E J s3, G ra nr rc, G da nd dc] 100) (T #[E J kd, E J dd, G ax nx cx] 68) (T #[G U 0 0, E J 0, E J 0, E J 0, E J 0, G U 0 0, G U 0 0] 100);have hh : Blk (((w.alloc (T #[G la nl lc, E J s0, E J s1, E J s2, E J s3, G ra nr rc, G da nd dc] 100)).alloc (T #[E J kd, E J dd, G ax nx cx] 68)).alloc (T #[G U 0 0, E J 0, E J 0, E J 0, E J 0, G U 0 0, G U 0 0] 100)) w.heap.size #[G la nl lc, E J s0, E J s1, E J s2, E J s3, G ra nr rc, G da nd dc] 100 := ((Blk.new w _ _).alloc _).alloc _;have hr : Blk (((w.alloc (T #[G la nl lc, E J s0, E J s1, E J s2, E J s3, G ra nr rc, G da nd dc] 100)).alloc (T #[E J kd, E J dd, G ax nx cx] 68)).alloc (T #[G U 0 0, E J 0, E J 0, E J 0, E J 0, G U 0 0, G U 0 0] 100)) (w.heap.size + 1) #[E J kd, E J dd, G ax nx cx] 68 := Blk.alloc (zaq _ _ _) _;have hz : Blk (((w.alloc (T #[G la nl lc, E J s0, E J s1, E J s2, E J s3, G ra nr rc, G da nd dc] 100)).alloc (T #[E J kd, E J dd, G ax nx cx] 68)).alloc (T #[G U 0 0, E J 0, E J 0, E J 0, E J 0, G U 0 0, G U 0 0] 100)) (w.heap.size + 1 + 1) #[G U 0 0, E J 0, E J 0, E J 0, E J 0, G U 0 0, G U 0 0] 100 := zhs _ _ _ _ rfl;have hWs : (((w.alloc (T #[G la nl lc, E J s0, E J s1, E J s2, E J s3, G ra nr rc, G da nd dc] 100)).alloc (T #[E J kd, E J dd, G ax nx cx] 68)).alloc (T #[G U 0 0, E J 0, E J 0, E J 0, E J 0, G U 0 0, G U 0 0] 100)).heap.size = w.heap.size + 1 + 1 + 1 := by simp
 generalize (((w.alloc (T #[G la nl lc, E J s0, E J s1, E J s2, E J s3, G ra nr rc, G da nd dc] 100)).alloc (T #[E J kd, E J dd, G ax nx cx] 68)).alloc (T #[G U 0 0, E J 0, E J 0, E J 0, E J 0, G U 0 0, G U 0 0] 100)) = W at *;have HB := zB hbX hWs
 have HK : Q (∀ w', Z W.heap.size W w' → (w'.cell? ⟨w.heap.size, 0, U⟩ = some (G la nl lc) ∧ w'.cell? ⟨w.heap.size + 1, 0, U⟩ = some (E J kd) ∧ w'.cell? ⟨w.heap.size + 1, 1, U⟩ = some (E J dd) ∧ w'.cell? ⟨w.heap.size + 1, 2, U⟩ = some (G ax nx cx))) := fun w' hb =>
  ⟨(hh.below hb hh.lt).cell 0, (hr.below hb hr.lt).cell 0, (hr.below hb hr.lt).cell 1, (hr.below hb hr.lt).cell 2⟩
 have HK2 : Q (∀ w', Z (w.heap.size + 1 + 1) W w' → (w'.cell? ⟨w.heap.size, 0, U⟩ = some (G la nl lc) ∧ w'.cell? ⟨w.heap.size + 1, 0, U⟩ = some (E J kd) ∧ w'.cell? ⟨w.heap.size + 1, 1, U⟩ = some (E J dd) ∧ w'.cell? ⟨w.heap.size + 1, 2, U⟩ = some (G ax nx cx))) := fun w' hb =>
  ⟨(hh.below hb (by omega)).cell 0, (hr.below hb (by omega)).cell 0, (hr.below hb (by omega)).cell 1, (hr.below hb (by omega)).cell 2⟩
 have HZ : Q (∀ w', Z W.heap.size W w' → Blk w' (w.heap.size + 1 + 1) #[G U 0 0, E J 0, E J 0, E J 0, E J 0, G U 0 0, G U 0 0] 100) := fun w' hb => hz.below hb hz.lt
 have HR : Q (∀ w', Z W.heap.size W w' → zk 3 zaj w' la Y ∧ Z w.heap.size w w' ∧ w.heap.size + 1 + 1 + 1 ≤ w'.heap.size) := fun w' hb => ⟨(HN.out.2.2.1.below hbX).below hb, hbX.trans (hb.mono hbX.size), by have := hb.size; omega⟩
 have hX0 : Z W.heap.size W W.drew := (Below.refl _ _).drew;have hlw := hz.lt;clear hh hr hz hbX hWs
 go_region_held3 (fun w' => (w'.cell? ⟨w.heap.size, 0, U⟩ = some (G la nl lc) ∧ w'.cell? ⟨w.heap.size + 1, 0, U⟩ = some (E J kd) ∧ w'.cell? ⟨w.heap.size + 1, 1, U⟩ = some (E J dd) ∧ w'.cell? ⟨w.heap.size + 1, 2, U⟩ = some (G ax nx cx))) (
  first
  | (with_reducible exact HK.out _ hH)
  | (with_reducible exact HK2.out _ hS7)
  | exact HK.out _ h33
  | exact HK.out _ h30
  | exact HK.out _ (h30.alloc h30.size _)
  | exact HK.out _ hX0
  | exact HK.out _ (hX0.alloc hX0.size _)
  | exact HK.out _ ((hX0.alloc hX0.size _).alloc (by first | omega | (simp; omega) | simp) _)
  | exact HK.out _ (Below.refl _ _)) (
  first
  | (have hh33 := h33; go_at_call 82; clear hh33; refine (HCH a33 n33 c33 _ HO33.out.2.1 HO33.out.1 HO33.out.2.2 (HR.out _ h33).2.1 (HR.out _ h33).2.2).mono ?_; rintro e wH ⟨ra', nr', rc', XR', da', nd', dc', rfl, HHH, hbH⟩; have hH : Z W.heap.size W wH := h33.trans (hbH.mono h33.size); have hS7 : Z (w.heap.size + 1 + 1) W (((((((wH.setCell ⟨w.heap.size + 1 + 1, 0, U⟩ (G a33 n33 c33)).setCell ⟨w.heap.size + 1 + 1, 1, U⟩ (E J t0)).setCell ⟨w.heap.size + 1 + 1, 2, U⟩ (E J t1)).setCell ⟨w.heap.size + 1 + 1, 3, U⟩ (E J t2)).setCell ⟨w.heap.size + 1 + 1, 4, U⟩ (E J t3)).setCell ⟨w.heap.size + 1 + 1, 5, U⟩ (G ra' nr' rc')).setCell ⟨w.heap.size + 1 + 1, 6, U⟩ (G da' nd' dc')) := (((((((hH.mono (Nat.le_of_lt hlw)).setCell (kaa _) _).setCell (kaa _) _).setCell (kaa _) _).setCell (kaa _) _).setCell (kaa _) _).setCell (kaa _) _).setCell (kaa _) _; have hzH := HZ.out _ hH; have j0 := hzH.cell 0; have j1 := hzH.cell 1; have j2 := hzH.cell 2; have j3 := hzH.cell 3; have j4 := hzH.cell 4; have j5 := hzH.cell 5; have j6 := hzH.cell 6; have i0 := hzH.free 0; have i1 := hzH.free 1; have i2 := hzH.free 2; have i3 := hzH.free 3; have i4 := hzH.free 4; have i5 := hzH.free 5; have i6 := hzH.free 6; have hzl := hzH.lt; (simp at j0 j1 j2 j3 j4 j5 j6); clear hzH)
  | (refine zb3 za4 zcr Try.underlying26 zcl rfl (by decide) _ (by first | rfl | simp [Region.wanted, yielded]) (.tmp 8) (.tmp 10) rfl W.heap.size (G a30 n30 c30) Y rfl (by first | exact HO30.out | exact HO30.out.below (zi w30 _)) _ 1 1 [(kd, dd, (ax, cx), l)] rfl rfl (by first | exact zk.one (Blk.new _ _ _) (by simp [zaj, HN.out.2.1]) | exact zk.one (Blk.below (Blk.new _ _ _) jY (by first | omega | (simp; omega) | simp)) (by simp [zaj, HN.out.2.1]) | exact zk.one (Blk.below ((Blk.new _ _ _).alloc _) jY (by first | omega | (simp; omega) | simp)) (by simp [zaj, HN.out.2.1]) | exact zk.one (Blk.below (zaq _ _ _) jY (by first | omega | (simp; omega) | simp)) (by simp [zaj, HN.out.2.1]) | exact zk.one (Blk.below (Blk.drew ((Blk.new _ _ _).alloc _)) jY (by first | omega | (simp; omega) | simp)) (by simp [zaj, HN.out.2.1]) | exact zk.one (Blk.below (Blk.drew (zaq _ _ _)) jY (by first | omega | (simp; omega) | simp)) (by simp [zaj, HN.out.2.1])) (by unfold maxLen; simp; omega) (by simp; omega) (by first | omega | (simp; omega) | simp) ?_; intro a33 n33 c33 w33 qw hn33 qk; have h33 : Z W.heap.size W w33 := (by first | exact h30.trans qk | exact (h30.alloc h30.size _).trans qk); have HO33 : Q (zk 3 zaj w33 a33 (Y ++ [(kd, dd, (ax, cx), l)]) ∧ n33 = (Y ++ [((kd, dd, (ax, cx), l) : XL)]).length ∧ Out R' a33 (Y ++ [((kd, dd, (ax, cx), l) : XL)]).length) := ⟨(qw.at za4).1, (qw.at za4).2.1, qw.outR (fun b hb => by rw [HB.out.2]; exact HN.out.2.2.2.1 b hb)⟩; clear qw hn33 qk)
  | (refine zb3 za4 zcr Try.underlying26 zcl rfl (by decide) _ (by first | rfl | simp [Region.wanted, yielded]) (.tmp 5) (.tmp 7) rfl _ _ [] rfl (by first | exact zak.made (Blk.new _ _ _) _ | exact zak.made ((Blk.new _ _ _).alloc _) _ | exact zak.made (zaq _ _ _) _) la nl lc Y rfl HN.out.1 (HR.out _ (by first | exact hX0.alloc hX0.size _ | exact (hX0.alloc hX0.size _).alloc (by first | omega | (simp; omega) | simp) _)).1 (by unfold maxLen; simp; omega) (by simp; omega) (kaa _) ?_; intro a30 n30 c30 w30 qQ hn30 jY; have h30 : Z W.heap.size W w30 := (by first | exact (hX0.alloc hX0.size _).trans (jY.mono (by first | omega | (simp; omega) | simp)) | exact ((hX0.alloc hX0.size _).alloc (by first | omega | (simp; omega) | simp) _).trans (jY.mono (by first | omega | (simp; omega) | simp))); have h30s := h30.size; have h30b := jY.size; (try simp at h30b); have HO30 : Q (zak 68 3 zaj w30 W.heap.size (G a30 n30 c30) Y) := qQ.mono (by first | omega | (simp; omega) | simp); clear qQ hn30))
 all_goals
  obtain ⟨hW, -⟩ := fill7 (HZ.out _ hH) (G a33 n33 c33) (E J t0) (E J t1) (E J t2) (E J t3) (G ra' nr' rc') (G da' nd' dc');have hBW := HB.out.1.trans (hS7.mono (by omega));have hK7 : zg R' wH (((((((wH.setCell ⟨w.heap.size + 1 + 1, 0, U⟩ (G a33 n33 c33)).setCell ⟨w.heap.size + 1 + 1, 1, U⟩ (E J t0)).setCell ⟨w.heap.size + 1 + 1, 2, U⟩ (E J t1)).setCell ⟨w.heap.size + 1 + 1, 3, U⟩ (E J t2)).setCell ⟨w.heap.size + 1 + 1, 4, U⟩ (E J t3)).setCell ⟨w.heap.size + 1 + 1, 5, U⟩ (G ra' nr' rc')).setCell ⟨w.heap.size + 1 + 1, 6, U⟩ (G da' nd' dc')) := (((((((zg.refl R' wH).setCell HN.out.2.2.2.2.1 _).setCell HN.out.2.2.2.2.1 _).setCell HN.out.2.2.2.2.1 _).setCell HN.out.2.2.2.2.1 _).setCell HN.out.2.2.2.2.1 _).setCell HN.out.2.2.2.2.1 _).setCell HN.out.2.2.2.2.1 _;have HF : Q (zbc R (((((((wH.setCell ⟨w.heap.size + 1 + 1, 0, U⟩ (G a33 n33 c33)).setCell ⟨w.heap.size + 1 + 1, 1, U⟩ (E J t0)).setCell ⟨w.heap.size + 1 + 1, 2, U⟩ (E J t1)).setCell ⟨w.heap.size + 1 + 1, 3, U⟩ (E J t2)).setCell ⟨w.heap.size + 1 + 1, 4, U⟩ (E J t3)).setCell ⟨w.heap.size + 1 + 1, 5, U⟩ (G ra' nr' rc')).setCell ⟨w.heap.size + 1 + 1, 6, U⟩ (G da' nd' dc')) (.agg #[G a33 n33 c33, E J t0, E J t1, E J t2, E J t3, G ra' nr' rc', G da' nd' dc']) (Y.map zf ++ [(kd, dd, l)]) ((t0, t1, t2, t3), D, dn) ∧ Z w.heap.size w (((((((wH.setCell ⟨w.heap.size + 1 + 1, 0, U⟩ (G a33 n33 c33)).setCell ⟨w.heap.size + 1 + 1, 1, U⟩ (E J t0)).setCell ⟨w.heap.size + 1 + 1, 2, U⟩ (E J t1)).setCell ⟨w.heap.size + 1 + 1, 3, U⟩ (E J t2)).setCell ⟨w.heap.size + 1 + 1, 4, U⟩ (E J t3)).setCell ⟨w.heap.size + 1 + 1, 5, U⟩ (G ra' nr' rc')).setCell ⟨w.heap.size + 1 + 1, 6, U⟩ (G da' nd' dc'))) := ⟨⟨_, _, _, _, _, _, _, _, _, _, _, rfl, (HHH.out.keep hK7).wide (fun b hb => Or.inl (HN.out.2.2.2.2.2 b hb))⟩, hBW⟩
  have e0 := hW.cell 0;have e1 := hW.cell 1;have e2 := hW.cell 2;have e3 := hW.cell 3;have e4 := hW.cell 4;have e5 := hW.cell 5;have e6 := hW.cell 6;simp only [List.getElem?_toArray, List.getElem?_cons_zero, List.getElem?_cons_succ] at e0 e1 e2 e3 e4 e5 e6
  clear i0 i1 i2 i3 i4 i5 i6 j0 j1 j2 j3 j4 j5 j6 hW hBW hK7 hS7 HK HK2 HZ HR HCH;generalize (((((((wH.setCell ⟨w.heap.size + 1 + 1, 0, U⟩ (G a33 n33 c33)).setCell ⟨w.heap.size + 1 + 1, 1, U⟩ (E J t0)).setCell ⟨w.heap.size + 1 + 1, 2, U⟩ (E J t1)).setCell ⟨w.heap.size + 1 + 1, 3, U⟩ (E J t2)).setCell ⟨w.heap.size + 1 + 1, 4, U⟩ (E J t3)).setCell ⟨w.heap.size + 1 + 1, 5, U⟩ (G ra' nr' rc')).setCell ⟨w.heap.size + 1 + 1, 6, U⟩ (G da' nd' dc')) = jz at *;go_wp2_with fail
  refine bodyPost_ret (v := .agg #[G a33 n33 c33, E J t0, E J t1, E J t2, E J t3, G ra' nr' rc', G da' nd' dc']) ?_ rfl ⟨_, rfl, HF.out.1, HF.out.2⟩;simp [results, Try.results73, go_sem, e0, e1, e2, e3, e4, e5, e6]
abbrev XM := Int × Int × Int × Hd × List P3
def zb4 (x : XM) : List Value := [E J x.1, E J x.2.1, E J x.2.2.1, G x.2.2.2.1.1 x.2.2.2.2.length x.2.2.2.1.2]
theorem zbw (x : XM) : (zb4 x).length = 4 := rfl
theorem oneM (x : XM) : ∀ u ∈ zb4 x, u.oneCell' = true := by intro u hu; simp [zb4] at hu; rcases hu with rfl | rfl | rfl | rfl <;> rfl
def zc6 (x : XM) : Q4 := (x.1, x.2.1, x.2.2.1, x.2.2.2.2)
structure zes (R : Nat → Prop) (w : World) (a : Option Addr) (n : Nat) (X : List XM) (ms : List Q4) : Prop where
 n : n = X.length
 row : zk 4 zb4 w a X
 out : Out R a X.length
 says : X.map zc6 = ms
 parts : ∀ x ∈ X, zae R w x.2.2.2.1.1 x.2.2.2.2
theorem zes.keep {R : Nat → Prop} {w w' : World} {a : Option Addr} {n : Nat} {X : List XM} {ms : List Q4} (H : zes R w a n X ms) (hk : zg R w w') : zes R w' a n X ms :=
 ⟨H.n, H.row.keepR H.out hk, H.out, H.says, fun x hx => (H.parts x hx).keep hk⟩
theorem zes.below {R : Nat → Prop} {w w' : World} {a : Option Addr} {n : Nat} {X : List XM} {ms : List Q4} (H : zes R w a n X ms) (hb : Z w.heap.size w w') : zes R w' a n X ms := H.keep (zdg hb)
theorem zes.wide {R R' : Nat → Prop} {w : World} {a : Option Addr} {n : Nat} {X : List XM} {ms : List Q4} (H : zes R w a n X ms) (hR : ∀ b, R' b → R b ∨ w.heap.size ≤ b) : zes R' w a n X ms :=
 ⟨H.n, H.row, H.row.out H.out hR, H.says, fun x hx => (H.parts x hx).wide hR⟩
def zat (R : Nat → Prop) (w : World) (v : Value) (ms : List Q4) : Prop := ∃ a n c X, v = G a n c ∧ zes R w a n X ms
theorem zat.nil (R : Nat → Prop) (w : World) : zat R w (G U 0 0) [] := ⟨none, 0, 0, [], rfl, rfl, Or.inl rfl, Or.inl rfl, rfl, (fun x hx => by cases hx)⟩
theorem zat.one {R : Nat → Prop} {w : World} {B : Nat} (k d h : Int) (hb : Blk w B #[E J k, E J d, E J h, G U 0 0] 43) (hR : ¬ R B) (c : Nat) : zat R w (G (some ⟨B, 0, U⟩) 1 c) [(k, d, h, [])] :=
 ⟨_, _, _, [(k, d, h, (none, 0), [])], rfl, rfl, zk.one hb rfl, Or.inr (fun ad had hr => by cases had; exact hR hr), rfl, fun x hx => by rw [List.mem_singleton.1 hx]; exact zae.nil _ _ _⟩
structure zd5 (R : Nat → Prop) (w wx : World) (N : Nat) (k d hs : Int) (mv : Value) (la : Option Addr) (nl lc : Nat) (Y : List XL) (ra : Option Addr) (nr rc : Nat) (XR : List XD) (da : Option Addr) (nd dc : Nat) (L : List R3) (s0 s1 s2 s3 : Int) (D : List D2) (dn : List Int) : Prop where
 hb : Blk wx N #[G la nl lc, E J s0, E J s1, E J s2, E J s3, G ra nr rc, G da nd dc] 100
 mb : Blk wx (N + 1) #[E J k, E J d, E J hs, mv] 43
 zb : Blk wx (N + 1 + 1) #[G U 0 0, E J 0, E J 0, E J 0, E J 0, G U 0 0, G U 0 0] 100
 F : zdm R wx la nl Y ra nr XR da nd L ((s0, s1, s2, s3), D, dn)
 bel : Z w.heap.size w wx
theorem zd5.below {R : Nat → Prop} {w wx wy : World} {N : Nat} {k d hs : Int} {mv : Value} {la : Option Addr} {nl lc : Nat} {Y : List XL} {ra : Option Addr} {nr rc : Nat} {XR : List XD} {da : Option Addr} {nd dc : Nat} {L : List R3} {s0 s1 s2 s3 : Int} {D : List D2} {dn : List Int}
  (H : zd5 R w wx N k d hs mv la nl lc Y ra nr rc XR da nd dc L s0 s1 s2 s3 D dn) (hb : Z wx.heap.size wx wy) : zd5 R w wy N k d hs mv la nl lc Y ra nr rc XR da nd dc L s0 s1 s2 s3 D dn :=
 ⟨H.hb.below hb H.hb.lt, H.mb.below hb H.mb.lt, H.zb.below hb H.zb.lt, H.F.below hb, H.bel.trans (hb.mono H.bel.size)⟩
theorem fill7K {w : World} {N : Nat} {zV : TypeId} {c0 c1 c2 c3 c4 c5 c6 : Value} (hb : Blk w N #[c0, c1, c2, c3, c4, c5, c6] zV) (u0 u1 u2 u3 u4 u5 u6 : Value) :
  Blk (r (r (r (r (r (r (r w ⟨N, 0, U⟩ u0) ⟨N, 1, U⟩ u1) ⟨N, 2, U⟩ u2) ⟨N, 3, U⟩ u3) ⟨N, 4, U⟩ u4) ⟨N, 5, U⟩ u5) ⟨N, 6, U⟩ u6) N #[u0, u1, u2, u3, u4, u5, u6] zV ∧ zg (fun b => b = N) w (r (r (r (r (r (r (r w ⟨N, 0, U⟩ u0) ⟨N, 1, U⟩ u1) ⟨N, 2, U⟩ u2) ⟨N, 3, U⟩ u3) ⟨N, 4, U⟩ u4) ⟨N, 5, U⟩ u5) ⟨N, 6, U⟩ u6) := by
 refine ⟨(fill7 hb u0 u1 u2 u3 u4 u5 u6).1, ?_⟩;have k0 := (zg.refl (fun b => b = N) w).setCell (p := ⟨N, 0, U⟩) rfl u0;have k1 := k0.setCell (p := ⟨N, 1, U⟩) rfl u1;have k2 := k1.setCell (p := ⟨N, 2, U⟩) rfl u2;have k3 := k2.setCell (p := ⟨N, 3, U⟩) rfl u3;have k4 := k3.setCell (p := ⟨N, 4, U⟩) rfl u4;have k5 := k4.setCell (p := ⟨N, 5, U⟩) rfl u5;exact k5.setCell (p := ⟨N, 6, U⟩) rfl u6
theorem zd5.fin {R : Nat → Prop} {w wx : World} {N : Nat} {k d hs : Int} {mv : Value} {la : Option Addr} {nl lc : Nat} {Y : List XL} {ra : Option Addr} {nr rc : Nat} {XR : List XD} {da : Option Addr} {nd dc : Nat} {L : List R3} {s0 s1 s2 s3 : Int} {D : List D2} {dn : List Int} (H : zd5 R w wx N k d hs mv la nl lc Y ra nr rc XR da nd dc L s0 s1 s2 s3 D dn) {R0 : Nat → Prop} (hR0 : ∀ b, R0 b → R b) (hR : R (N + 1 + 1)) (hN : w.heap.size ≤ N) :
  zbc R0 (((((((wx.setCell ⟨N + 1 + 1, 0, U⟩ (G la nl lc)).setCell ⟨N + 1 + 1, 1, U⟩ (E J s0)).setCell ⟨N + 1 + 1, 2, U⟩ (E J s1)).setCell ⟨N + 1 + 1, 3, U⟩ (E J s2)).setCell ⟨N + 1 + 1, 4, U⟩ (E J s3)).setCell ⟨N + 1 + 1, 5, U⟩ (G ra nr rc)).setCell ⟨N + 1 + 1, 6, U⟩ (G da nd dc)) (.agg #[G la nl lc, E J s0, E J s1, E J s2, E J s3, G ra nr rc, G da nd dc]) L ((s0, s1, s2, s3), D, dn) ∧ Z w.heap.size w (((((((wx.setCell ⟨N + 1 + 1, 0, U⟩ (G la nl lc)).setCell ⟨N + 1 + 1, 1, U⟩ (E J s0)).setCell ⟨N + 1 + 1, 2, U⟩ (E J s1)).setCell ⟨N + 1 + 1, 3, U⟩ (E J s2)).setCell ⟨N + 1 + 1, 4, U⟩ (E J s3)).setCell ⟨N + 1 + 1, 5, U⟩ (G ra nr rc)).setCell ⟨N + 1 + 1, 6, U⟩ (G da nd dc)) ∧
  Blk (((((((wx.setCell ⟨N + 1 + 1, 0, U⟩ (G la nl lc)).setCell ⟨N + 1 + 1, 1, U⟩ (E J s0)).setCell ⟨N + 1 + 1, 2, U⟩ (E J s1)).setCell ⟨N + 1 + 1, 3, U⟩ (E J s2)).setCell ⟨N + 1 + 1, 4, U⟩ (E J s3)).setCell ⟨N + 1 + 1, 5, U⟩ (G ra nr rc)).setCell ⟨N + 1 + 1, 6, U⟩ (G da nd dc)) (N + 1 + 1) #[G la nl lc, E J s0, E J s1, E J s2, E J s3, G ra nr rc, G da nd dc] 100 ∧ zg (fun b => b = N + 1 + 1) wx (((((((wx.setCell ⟨N + 1 + 1, 0, U⟩ (G la nl lc)).setCell ⟨N + 1 + 1, 1, U⟩ (E J s0)).setCell ⟨N + 1 + 1, 2, U⟩ (E J s1)).setCell ⟨N + 1 + 1, 3, U⟩ (E J s2)).setCell ⟨N + 1 + 1, 4, U⟩ (E J s3)).setCell ⟨N + 1 + 1, 5, U⟩ (G ra nr rc)).setCell ⟨N + 1 + 1, 6, U⟩ (G da nd dc)) := by
 obtain ⟨h1, h2⟩ := fill7K H.zb (G la nl lc) (E J s0) (E J s1) (E J s2) (E J s3) (G ra nr rc) (G da nd dc);have hk := h2.mono (fun b _ hb => by subst hb; exact hR);exact ⟨⟨_, _, _, _, _, _, _, _, _, _, _, rfl, (H.F.keep hk).wide (fun b hb => Or.inl (hR0 b hb))⟩, H.bel.trans (h2.below H.bel.size (fun b hb => by omega)), h1, h2⟩
theorem zd5.put {R : Nat → Prop} {w wx : World} {N : Nat} {k d hs : Int} {mv : Value} {la : Option Addr} {nl lc : Nat} {Y : List XL} {ra : Option Addr} {nr rc : Nat} {XR : List XD} {da : Option Addr} {nd dc : Nat} {L : List R3} {s0 s1 s2 s3 : Int} {D : List D2} {dn : List Int} (H : zd5 R w wx N k d hs mv la nl lc Y ra nr rc XR da nd dc L s0 s1 s2 s3 D dn) {la2 : Option Addr} {nl2 lc2 : Nat} {Y2 : List XL} {ra2 : Option Addr} {nr2 rc2 : Nat} {XR2 : List XD} {da2 : Option Addr} {nd2 dc2 : Nat} {L2 : List R3} {t0 t1 t2 t3 : Int} {D2 : List D2} {dn2 : List Int}
  (hF : zdm R wx la2 nl2 Y2 ra2 nr2 XR2 da2 nd2 L2 ((t0, t1, t2, t3), D2, dn2)) (hR : R N) (hN : w.heap.size ≤ N) :
  zd5 R w (((((((wx.setCell ⟨N, 0, U⟩ (G la2 nl2 lc2)).setCell ⟨N, 1, U⟩ (E J t0)).setCell ⟨N, 2, U⟩ (E J t1)).setCell ⟨N, 3, U⟩ (E J t2)).setCell ⟨N, 4, U⟩ (E J t3)).setCell ⟨N, 5, U⟩ (G ra2 nr2 rc2)).setCell ⟨N, 6, U⟩ (G da2 nd2 dc2)) N k d hs mv la2 nl2 lc2 Y2 ra2 nr2 rc2 XR2 da2 nd2 dc2 L2 t0 t1 t2 t3 D2 dn2 := by
 obtain ⟨h1, h2⟩ := fill7K H.hb (G la2 nl2 lc2) (E J t0) (E J t1) (E J t2) (E J t3) (G ra2 nr2 rc2) (G da2 nd2 dc2);have hk := h2.mono (fun b _ hb => by subst hb; exact hR);exact ⟨h1, H.mb.keep h2 (by omega), H.zb.keep h2 (by omega), hF.keep hk, H.bel.trans (h2.below H.bel.size (fun b hb => by omega))⟩
theorem zd5.cells {R : Nat → Prop} {w wx : World} {N : Nat} {k d hs : Int} {mv : Value} {la : Option Addr} {nl lc : Nat} {Y : List XL} {ra : Option Addr} {nr rc : Nat} {XR : List XD} {da : Option Addr} {nd dc : Nat} {L : List R3} {s0 s1 s2 s3 : Int} {D : List D2} {dn : List Int} (H : zd5 R w wx N k d hs mv la nl lc Y ra nr rc XR da nd dc L s0 s1 s2 s3 D dn) :
  (wx.cell? ⟨N, 0, U⟩ = some (G la nl lc) ∧ wx.cell? ⟨N, 1, U⟩ = some (E J s0) ∧ wx.cell? ⟨N, 2, U⟩ = some (E J s1) ∧ wx.cell? ⟨N, 3, U⟩ = some (E J s2) ∧ wx.cell? ⟨N, 4, U⟩ = some (E J s3) ∧ wx.cell? ⟨N, 5, U⟩ = some (G ra nr rc) ∧ wx.cell? ⟨N, 6, U⟩ = some (G da nd dc)) ∧
  (wx.cell? ⟨N + 1, 0, U⟩ = some (E J k) ∧ wx.cell? ⟨N + 1, 1, U⟩ = some (E J d) ∧ wx.cell? ⟨N + 1, 3, U⟩ = some mv) ∧ N + 1 + 1 < wx.heap.size :=
 ⟨⟨H.hb.cell 0, H.hb.cell 1, H.hb.cell 2, H.hb.cell 3, H.hb.cell 4, H.hb.cell 5, H.hb.cell 6⟩, ⟨H.mb.cell 0, H.mb.cell 1, H.mb.cell 3⟩, H.zb.lt⟩
theorem zdk {w : World} {N : Nat} {zV : TypeId} {c0 c1 c2 c3 c4 c5 c6 : Value} (H : Blk w N #[c0, c1, c2, c3, c4, c5, c6] zV) :
  (w.cell? ⟨N, 0, U⟩ = some c0 ∧ w.cell? ⟨N, 1, U⟩ = some c1 ∧ w.cell? ⟨N, 2, U⟩ = some c2 ∧ w.cell? ⟨N, 3, U⟩ = some c3 ∧ w.cell? ⟨N, 4, U⟩ = some c4 ∧ w.cell? ⟨N, 5, U⟩ = some c5 ∧ w.cell? ⟨N, 6, U⟩ = some c6) ∧
  (w.frozen? ⟨N, 0, U⟩ = false ∧ w.frozen? ⟨N, 1, U⟩ = false ∧ w.frozen? ⟨N, 2, U⟩ = false ∧ w.frozen? ⟨N, 3, U⟩ = false ∧ w.frozen? ⟨N, 4, U⟩ = false ∧ w.frozen? ⟨N, 5, U⟩ = false ∧ w.frozen? ⟨N, 6, U⟩ = false) :=
 ⟨⟨H.cell 0, H.cell 1, H.cell 2, H.cell 3, H.cell 4, H.cell 5, H.cell 6⟩, ⟨H.free 0, H.free 1, H.free 2, H.free 3, H.free 4, H.free 5, H.free 6⟩⟩
theorem zpy (a : Option Addr) (l : List Int) (cap n : Nat) (w : World) (hn : n = l.length) (hl : l.length ≤ 3518437208883) (hp : zk 1 zv w a l) :
  Calls Try.prog 32 #[G a n cap] w fun e w' => ∃ a' c', e = .returned (G a' n c') ∧ zd 3 1 zv w' w.heap.size (G a' n c') l ∧ Z w.heap.size w w' := by
 have q : ∀ (w : World) (a : Option Addr) (n c n' c' : Nat), (binOp .eql 36 (G a n c) (G U n' c')).run Try.prog w = .ok (.bool a.isNone) w := fun w a n c n' c' => Lib.run_eql_slice_nil w _ _ a n c n' c' Try.underlying36
 cases a with
 | none =>
  have h0 : l = [] := by
   rcases hp with h | ⟨b, o, h, _⟩
   ·exact h
   ·cases h
  subst h0;subst hn;clear hp;go_enter Try.func32, Try.ntmps32
  go_wp2;go_ret;exact ⟨_, _, rfl, zd.nil _ _, Below.refl _ _⟩
 | some ad =>
  have HP := zA hp;have HN := zA hn;clear hp hn;go_enter Try.func32, Try.ntmps32
  go_wp2_with (at_builtin; refine zbj zai zcx Try.underlying36 zcn rfl (by decide) _ rfl _ _ rfl w.heap.size _ [] rfl (World.ownsRow_made w #[] 0 (kaa _) (Nat.zero_le _) (by simp)) (some ad) n cap l rfl HN.out (HP.out.below (zi w _)) (by unfold maxLen; simp; omega) (by simp; omega) (by simp) ?_; intro a' n' c' w1 jx hn' j9 hat)
  have HO : Q (zd 3 1 zv w1 w.heap.size (G a' n' c') l ∧ n' = n) := ⟨by rw [List.nil_append] at jx; exact jx, by rw [hn', HN.out]; simp⟩;clear jx hn' hat;go_wp2;go_ret;refine ⟨a', c', by rw [← HN.out] at *; exact rfl, by rw [← HO.out.2]; exact HO.out.1, ?_⟩;exact ((Below.refl _ w).alloc (kaa _) _).grown j9 (by simp) (by intro k hk; cases hk; exact kaa _)
theorem zfm : (Try.prog.info? 43).map (fun i => (i.zero, i.size, i.bytes)) = some (some (.agg #[E J 0, E J 0, E J 0, G U 0 0]), 4, 48) := by kernel_rfl
def zf0 (w : World) (v : Value) (L : List R3) (h : H3) : Prop :=
 ∃ (la : Option Addr) (nl lc : Nat) (Y : List XL) (ra : Option Addr) (nr rc : Nat) (XR : List XD) (da : Option Addr) (nd dc : Nat),
  v = .agg #[G la nl lc, E J h.1.1, E J h.1.2.1, E J h.1.2.2.1, E J h.1.2.2.2, G ra nr rc, G da nd dc] ∧
  (nl = L.length ∧ Y.map zf = L ∧ zcc w la Y) ∧ (nr = XR.length ∧ XR.map zba = h.2.1 ∧ ze7 w ra XR) ∧ (nd = h.2.2.length ∧ zk 1 zv w da h.2.2)
theorem zez.u {w : World} {v : Value} {L : List R3} {h : H3} (hh : zez w v L h) : zf0 w v L h := by
 obtain ⟨la, nl, lc, Y, ra, nr, rc, XR, da, nd, dc, hv, h1, h2, h3, -, -, h4⟩ := hh;exact ⟨la, nl, lc, Y, ra, nr, rc, XR, da, nd, dc, hv, h1, h2, h3, h4⟩
theorem zck.u {base : Nat} {w : World} {v : Value} {L : List R3} {h : H3} (hh : zck base w v L h) : zf0 w v L h := hh.at.u
theorem zf0.below {w w' : World} {v : Value} {L : List R3} {h : H3} (hh : zf0 w v L h) (hb : Z w.heap.size w w') : zf0 w' v L h := by
 obtain ⟨la, nl, lc, Y, ra, nr, rc, XR, da, nd, dc, hv, ⟨h1, h2, h3⟩, ⟨h4, h5, h6⟩, h7, h10⟩ := hh;exact ⟨la, nl, lc, Y, ra, nr, rc, XR, da, nd, dc, hv, ⟨h1, h2, h3.below hb⟩, ⟨h4, h5, h6.below hb⟩, h7, h10.below hb⟩
theorem zbc.u {R : Nat → Prop} {w : World} {v : Value} {L : List R3} {h : H3} (H : zbc R w v L h) : zf0 w v L h := by
 obtain ⟨la, nl, lc, Y, ra, nr, rc, XR, da, nd, dc, hv, F⟩ := H;exact ⟨la, nl, lc, Y, ra, nr, rc, XR, da, nd, dc, hv, ⟨by rw [F.ln, ← F.says, List.length_map], F.says, F.log, fun y hy => (F.parts y hy).1⟩, ⟨F.rn, F.rsays, F.rdy, fun x hx => (F.rparts x hx).1⟩, F.dn, F.done⟩
theorem zg6 (a : Option Addr) (n : Nat) : Out (fun _ => False) a n := Or.inr (fun _ _ h => h)
theorem zf0.v {w : World} {v : Value} {L : List R3} {h : H3} (H : zf0 w v L h) : zbc (fun _ => False) w v L h := by
 obtain ⟨la, nl, lc, Y, ra, nr, rc, XR, da, nd, dc, hv, ⟨h1, h2, h3⟩, ⟨h4, h5, h6⟩, h7, h8⟩ := H;exact ⟨la, nl, lc, Y, ra, nr, rc, XR, da, nd, dc, hv, ⟨by rw [h1, ← h2, List.length_map], h3.1, zg6 _ _, h2, fun y hy => ⟨h3.2 y hy, zg6 _ _⟩, h4, h6.1, zg6 _ _, h5, fun x hx => ⟨h6.2 x hx, zg6 _ _⟩, h7, h8, zg6 _ _⟩⟩
theorem zck.v {base : Nat} {w : World} {v : Value} {L : List R3} {h : H3} (H : zck base w v L h) {R : Nat → Prop} (hR : ∀ b, R b → b < base) : zbc R w v L h := by
 obtain ⟨la, nl, lc, Y, ra, nr, rc, XR, da, nd, dc, hv, ⟨h1, h2⟩, ⟨h3, h4, h5⟩, h6⟩ := H;have k1 := h2.1.at za4;have k2 := h4.at zdz;have k3 := h6.at zai
 have hp : ∀ (a : Option Addr) (l : List P3), zam base w a l → zae R w a l := fun a l h => by
  refine ⟨h.at, ?_⟩;rcases h with rfl | ⟨b, o, cs, rfl, hb, -, -⟩
  ·exact Or.inl rfl
  ·refine Or.inr (fun ad had hr => ?_)
   cases had;have h' : b < base := hR _ hr;omega
 exact ⟨la, nl, lc, Y, ra, nr, rc, XR, da, nd, dc, hv, ⟨k1.2.1, k1.1, h2.1.outR hR _, h1, fun y hy => hp _ _ (h2.2 y hy), k2.2.1, k2.1, h4.outR hR _, h3, fun x hx => hp _ _ (h5 x hx), k3.2.1, k3.1, h6.outR hR _⟩⟩
end Go.Proofs.Ytpcnlifmkhagkaa
