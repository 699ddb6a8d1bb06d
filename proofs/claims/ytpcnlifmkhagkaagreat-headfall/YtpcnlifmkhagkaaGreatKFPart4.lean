import Derived.Test.YtpcnlifmkhagkaaGreatKFJ00
set_option maxRecDepth 20000
set_option maxHeartbeats 20000000
namespace Go.Proofs.YtpcnlifmkhagkaaGreat
open Go.RowKit
open Go.Value renaming slice → G, int → E
open Go.IntKind renaming i64 → J
open _root_.Option renaming none → U
open Go.RowKit renaming Hid → Q, Below → Z
open Go.World renaming setCell → r
attribute [local go_sem ↓] Go.wp_at_zero Go.wp_at_succ
theorem sz_int (w : World) : (sizeOf 3).run Tryz.prog w = .ok 1 w := by kernel_rfl
theorem part4_0 (v0 v1 v2 v3 : Value) (w : World) : (part 3 #[v0, v1, v2, v3] 0).run Tryz.prog w = .ok v0 w := by kernel_rfl
theorem part4_1 (v0 v1 v2 v3 : Value) (w : World) : (part 3 #[v0, v1, v2, v3] 1).run Tryz.prog w = .ok v1 w := by kernel_rfl
theorem part4_2 (v0 v1 v2 v3 : Value) (w : World) : (part 3 #[v0, v1, v2, v3] 2).run Tryz.prog w = .ok v2 w := by kernel_rfl
theorem part4_3 (v0 v1 v2 v3 : Value) (w : World) : (part 3 #[v0, v1, v2, v3] 3).run Tryz.prog w = .ok v3 w := by kernel_rfl
theorem eq4d (d : Nat) (a0 a1 a2 a3 b0 b1 b2 b3 : Int) (w : World) : (Op.equalIn (d + 2) 75 (.agg #[E J a0, E J a1, E J a2, E J a3]) (.agg #[E J b0, E J b1, E J b2, E J b3])).run Tryz.prog w = .ok (a0 == b0 && a1 == b1 && a2 == b2 && a3 == b3) w := by
 rw [Op.equalIn];simp only [Sem.run_bind, run_underlying Tryz.underlying75, Result.andThen_ok, sz_int, Std.Legacy.Range.forIn_eq_forIn_range', Std.Legacy.Range.size]
 rw [show List.range' 0 ((4 - 0 + 1 - 1) / 1) 1 = [0, 1, 2, 3] from rfl];simp only [List.forIn_cons, List.forIn_nil, Sem.run_bind, Nat.mul_one, part4_0, Result.andThen_ok, run_equalIn_int _ _ _ _ _ _ _ Tryz.underlying3, Sem.run_ite]
 cases h0 : a0 == b0 <;> cases h1 : a1 == b1 <;> cases h2 : a2 == b2 <;> cases h3 : a3 == b3 <;> simp [part4_1, part4_2, part4_3, run_equalIn_int _ _ _ _ _ _ _ Tryz.underlying3, h1, h2, h3]
theorem eq4 (a0 a1 a2 a3 b0 b1 b2 b3 : Int) (w : World) : (Op.equalIn 10000 75 (.agg #[E J a0, E J a1, E J a2, E J a3]) (.agg #[E J b0, E J b1, E J b2, E J b3])).run Tryz.prog w = .ok (a0 == b0 && a1 == b1 && a2 == b2 && a3 == b3) w := eq4d 9998 a0 a1 a2 a3 b0 b1 b2 b3 w
def zbn (w : World) (b : Nat) (t0 t1 t2 t3 : Int) : Prop :=
 (w.cell? ⟨b, 0, U⟩ = some (E J t0) ∧ w.cell? ⟨b, 1, U⟩ = some (E J t1) ∧ w.cell? ⟨b, 2, U⟩ = some (E J t2) ∧ w.cell? ⟨b, 3, U⟩ = some (E J t3)) ∧
 (w.frozen? ⟨b, 0, U⟩ = false ∧ w.frozen? ⟨b, 1, U⟩ = false ∧ w.frozen? ⟨b, 2, U⟩ = false ∧ w.frozen? ⟨b, 3, U⟩ = false)
theorem zbn.below {w w' : World} {B b : Nat} {t0 t1 t2 t3 : Int} (h : zbn w b t0 t1 t2 t3) (hb : Z B w w') (hlt : b < B) : zbn w' b t0 t1 t2 t3 := by
 obtain ⟨⟨c0, c1, c2, c3⟩, ⟨f0, f1, f2, f3⟩⟩ := h;refine ⟨⟨?_, ?_, ?_, ?_⟩, ⟨?_, ?_, ?_, ?_⟩⟩
 ·rw [hb.cell (p := ⟨b, 0, U⟩) hlt]; exact c0
 ·rw [hb.cell (p := ⟨b, 1, U⟩) hlt]; exact c1
 ·rw [hb.cell (p := ⟨b, 2, U⟩) hlt]; exact c2
 ·rw [hb.cell (p := ⟨b, 3, U⟩) hlt]; exact c3
 ·rw [hb.frozen (p := ⟨b, 0, U⟩) hlt]; exact f0
 ·rw [hb.frozen (p := ⟨b, 1, U⟩) hlt]; exact f1
 ·rw [hb.frozen (p := ⟨b, 2, U⟩) hlt]; exact f2
 ·rw [hb.frozen (p := ⟨b, 3, U⟩) hlt]; exact f3
theorem zio {w : World} {a : Addr} {u : Value} (v : Value) (h : w.cell? a = some u) : (r w a v).cell? a = some v := World.cell?_setCell_same' w a v (by rw [h]; rfl)
theorem zeu {w : World} {a b : Addr} (v : Value) (h : a ≠ b) : (r w a v).cell? b = w.cell? b := by apply World.cell?_setCell_other; exact h
theorem zbn.far {w : World} {b c j : Nat} {t0 t1 t2 t3 : Int} (h : zbn w b t0 t1 t2 t3) (hc : c ≠ b) (v : Value) : zbn (r w ⟨c, j, U⟩ v) b t0 t1 t2 t3 := by
 obtain ⟨⟨c0, c1, c2, c3⟩, ⟨f0, f1, f2, f3⟩⟩ := h;refine ⟨⟨?_, ?_, ?_, ?_⟩, ⟨by simpa using f0, by simpa using f1, by simpa using f2, by simpa using f3⟩⟩
 all_goals (rw [zeu _ (fun h => hc (congrArg Addr.block h))]; assumption)
theorem zbn.put0 {w : World} {b : Nat} {t0 t1 t2 t3 : Int} (h : zbn w b t0 t1 t2 t3) (x : Int) : zbn (r w ⟨b, 0, U⟩ (E J x)) b x t1 t2 t3 := by
 obtain ⟨⟨c0, c1, c2, c3⟩, ⟨f0, f1, f2, f3⟩⟩ := h;exact ⟨⟨zio _ c0, by rw [zeu _ (by simp)]; exact c1, by rw [zeu _ (by simp)]; exact c2, by rw [zeu _ (by simp)]; exact c3⟩, ⟨by simpa using f0, by simpa using f1, by simpa using f2, by simpa using f3⟩⟩
theorem zbn.put1 {w : World} {b : Nat} {t0 t1 t2 t3 : Int} (h : zbn w b t0 t1 t2 t3) (x : Int) : zbn (r w ⟨b, 1, U⟩ (E J x)) b t0 x t2 t3 := by
 obtain ⟨⟨c0, c1, c2, c3⟩, ⟨f0, f1, f2, f3⟩⟩ := h;exact ⟨⟨by rw [zeu _ (by simp)]; exact c0, zio _ c1, by rw [zeu _ (by simp)]; exact c2, by rw [zeu _ (by simp)]; exact c3⟩, ⟨by simpa using f0, by simpa using f1, by simpa using f2, by simpa using f3⟩⟩
theorem zbn.put2 {w : World} {b : Nat} {t0 t1 t2 t3 : Int} (h : zbn w b t0 t1 t2 t3) (x : Int) : zbn (r w ⟨b, 2, U⟩ (E J x)) b t0 t1 x t3 := by
 obtain ⟨⟨c0, c1, c2, c3⟩, ⟨f0, f1, f2, f3⟩⟩ := h;exact ⟨⟨by rw [zeu _ (by simp)]; exact c0, by rw [zeu _ (by simp)]; exact c1, zio _ c2, by rw [zeu _ (by simp)]; exact c3⟩, ⟨by simpa using f0, by simpa using f1, by simpa using f2, by simpa using f3⟩⟩
theorem zbn.put3 {w : World} {b : Nat} {t0 t1 t2 t3 : Int} (h : zbn w b t0 t1 t2 t3) (x : Int) : zbn (r w ⟨b, 3, U⟩ (E J x)) b t0 t1 t2 x := by
 obtain ⟨⟨c0, c1, c2, c3⟩, ⟨f0, f1, f2, f3⟩⟩ := h;exact ⟨⟨by rw [zeu _ (by simp)]; exact c0, by rw [zeu _ (by simp)]; exact c1, by rw [zeu _ (by simp)]; exact c2, zio _ c3⟩, ⟨by simpa using f0, by simpa using f1, by simpa using f2, by simpa using f3⟩⟩
theorem zbn.drew {w : World} {b : Nat} {t0 t1 t2 t3 : Int} (h : zbn w b t0 t1 t2 t3) : zbn w.drew b t0 t1 t2 t3 := h
end Go.Proofs.YtpcnlifmkhagkaaGreat
