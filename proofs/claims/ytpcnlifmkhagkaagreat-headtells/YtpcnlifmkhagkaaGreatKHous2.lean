import Derived.Test.YtpcnlifmkhagkaaGreatKJ09
set_option maxRecDepth 20000
set_option maxHeartbeats 20000000
namespace Go.Proofs.YtpcnlifmkhagkaaGreat
open Go.RowKit
open Value renaming slice → G, int → E
open Option renaming none → U
open Go renaming Hid → Q, Below → Z
attribute [local go_sem ↓] Go.wp_at_zero Go.wp_at_succ
theorem zn7 (a : Option Addr) (l : List Int) (cap n : Nat) (w : World) (hn : n = l.length) (hl : l.length ≤ 3518437208883) (hp : zi 1 zn w a l) :
  Calls Tryz.prog 46 #[G a n cap] w fun e w' => ∃ a' c', e = .returned (G a' n c') ∧ za 3 1 zn w' w.heap.size (G a' n c') l ∧ Z w.heap.size w w' := by
 have q : ∀ (w : World) (a : Option Addr) (n c n' c' : Nat), (binOp .eql 56 (G a n c) (G U n' c')).run Tryz.prog w = .ok (.bool a.isNone) w := fun w a n c n' c' => Lib.run_eql_slice_nil w _ _ a n c n' c' Tryz.underlying56
 cases a with
 | none =>
  have h0 : l = [] := by
   rcases hp with h | ⟨b, o, h, _⟩
   · exact h
   · cases h
  subst h0;subst hn;clear hp;go_enter Tryz.func46, Tryz.ntmps46
  go_wp2;go_ret;exact ⟨_, _, rfl, za.nil _ _, Below.refl _ _⟩
 | some ad =>
  have HP := zA hp;have HN := zA hn;clear hp hn;go_enter Tryz.func46, Tryz.ntmps46
  go_wp2_with (at_builtin; refine zbi zah zcw Tryz.underlying56 zcl rfl (by decide) _ rfl _ _ rfl w.heap.size _ [] rfl (World.ownsRow_made w #[] 0 (Nat.le_refl _) (Nat.zero_le _) (by simp)) (some ad) n cap l rfl HN.out (HP.out.below (zh w _)) (by unfold maxLen; simp; omega) (by simp; omega) (by simp) ?_; intro a' n' c' w1 hown hn' hgrow hat)
  have HO : Q (za 3 1 zn w1 w.heap.size (G a' n' c') l ∧ n' = n) := ⟨by rw [List.nil_append] at hown; exact hown, by rw [hn', HN.out]; simp⟩;clear hown hn' hat;go_wp2;go_ret;refine ⟨a', c', by rw [← HN.out] at *; exact rfl, by rw [← HO.out.2]; exact HO.out.1, ?_⟩;exact ((Below.refl _ w).alloc (Nat.le_refl _) _).grown hgrow (by simp) (by intro k hk; cases hk; exact Nat.le_refl _)
end Go.Proofs.YtpcnlifmkhagkaaGreat
