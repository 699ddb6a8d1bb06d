import Derived.Test.YtpcnlifmkhagkaaKAJ00
import Derived.Laws.OwnMore
import Derived.Deep.Onto
import Derived.OneCell
set_option maxRecDepth 20000
set_option maxHeartbeats 20000000
namespace Go.Proofs.Ytpcnlifmkhagkaa
open Go.RowKit
open Go.Value renaming slice → G, int → E
open Go.IntKind renaming i64 → J
open _root_.Option renaming none → U
open Go.RowKit renaming Hid → Q, Below → Z
open Go.World renaming setCell → r
open Go.Value renaming ownBlock → kaa
section
variable {α : Type}
def zx (enc : α → List Value) (xs : List α) : List Value := xs.flatMap enc
theorem zfg (enc : α → List Value) (xs ys : List α) : zx enc (xs ++ ys) = zx enc xs ++ zx enc ys := by simp [zx]
theorem zde {enc : α → List Value} {size : Nat} (he : ∀ x, (enc x).length = size) (xs : List α) : (zx enc xs).length = xs.length * size := by
 induction xs with
 | nil => simp [zx]
 | cons p t ih =>
  have e : zx enc (p :: t) = enc p ++ zx enc t := by simp [zx]
  rw [e, List.length_append, ih, he, List.length_cons, Nat.add_mul, Nat.one_mul, Nat.add_comm]
theorem zhd {enc : α → List Value} {size : Nat} (he : ∀ x, (enc x).length = size) : ∀ (xs : List α) (i : Nat) (h : i < xs.length) (j : Nat), j < size → (zx enc xs)[i * size + j]? = (enc xs[i])[j]?
 | p :: t, 0, _, j, hj => by
  have e : zx enc (p :: t) = enc p ++ zx enc t := by simp [zx]
  rw [e, Nat.zero_mul, Nat.zero_add, List.getElem?_append_left (by rw [he]; exact hj)]; rfl
 | p :: t, i + 1, h, j, hj => by
  have ih := zhd he t i (by simpa using h) j hj;have e : zx enc (p :: t) = enc p ++ zx enc t := by simp [zx]
  rw [e, List.getElem?_append_right (by rw [he, Nat.add_mul]; omega), he];rw [show (i + 1) * size + j - size = i * size + j by rw [Nat.add_mul]; omega, ih];rfl
theorem zhr {enc : α → List Value} (h1 : ∀ x, ∀ u ∈ enc x, u.oneCell' = true) (xs : List α) : ∀ u ∈ zx enc xs, u.oneCell' = true := by
 intro u hu;simp only [zx, List.mem_flatMap] at hu
 obtain ⟨p, _, hp⟩ := hu;exact h1 p u hp
theorem zl8 {enc : α → List Value} (he : ∀ x, (enc x).length = 2) : ∀ (xs : List α) (i : Nat) (_ : i < xs.length) (x : α) (u0 u1 : Value), enc x = [u0, u1] → ((zx enc xs).set (i * 2) u0).set (i * 2 + 1) u1 = zx enc (xs.set i x)
 | p :: t, 0, _, x, u0, u1, hx => by
  have h2 := he p
  match hp : enc p, h2 with
  | [a, b], _ => simp [zx, hp, hx]
 | p :: t, i + 1, h, x, u0, u1, hx => by
  have ih := zl8 he t i (by simpa using h) x u0 u1 hx;have h2 := he p
  match hp : enc p, h2 with
  | [a, b], _ =>
   have e : ∀ S : List α, zx enc (p :: S) = a :: b :: zx enc S := by intro S; simp [zx, hp]
   rw [List.set_cons_succ, e, e, show (i + 1) * 2 = i * 2 + 1 + 1 by omega];simp only [List.set_cons_succ]
   rw [ih]
theorem zlw {enc : α → List Value} (he : ∀ x, (enc x).length = 4) : ∀ (xs : List α) (i : Nat) (_ : i < xs.length) (x : α) (u0 u1 u2 u3 : Value), enc x = [u0, u1, u2, u3] → ((((zx enc xs).set (i * 4) u0).set (i * 4 + 1) u1).set (i * 4 + 2) u2).set (i * 4 + 3) u3 = zx enc (xs.set i x)
 | p :: t, 0, _, x, u0, u1, u2, u3, hx => by
  have h2 := he p
  match hp : enc p, h2 with
  | [a, b, c, d], _ => simp [zx, hp, hx]
 | p :: t, i + 1, h, x, u0, u1, u2, u3, hx => by
  have ih := zlw he t i (by simpa using h) x u0 u1 u2 u3 hx;have h2 := he p
  match hp : enc p, h2 with
  | [a, b, c, d], _ =>
   have e : ∀ S : List α, zx enc (p :: S) = a :: b :: c :: d :: zx enc S := by intro S; simp [zx, hp]
   rw [List.set_cons_succ, e, e, show (i + 1) * 4 = i * 4 + 1 + 1 + 1 + 1 by omega];simp only [List.set_cons_succ]
   rw [ih]
def zk (size : Nat) (enc : α → List Value) (w : World) (a : Option Addr) (xs : List α) : Prop :=
 xs = [] ∨ ∃ b o, a = some ⟨b, o, U⟩ ∧ b < w.heap.size ∧ ∀ i (h : i < xs.length) j u, (enc xs[i])[j]? = some u → w.cell? ⟨b, o + i * size + j, U⟩ = some u
theorem zk.below {size : Nat} {enc : α → List Value} {w w' : World} {a : Option Addr} {xs : List α} (h : zk size enc w a xs) (hb : Z w.heap.size w w') : zk size enc w' a xs := by
 rcases h with rfl | ⟨b, o, rfl, hlt, hc⟩
 ·exact Or.inl rfl
 ·refine Or.inr ⟨b, o, rfl, Nat.lt_of_lt_of_le hlt hb.size, fun i hi j u hu => ?_⟩
  obtain ⟨hcc, _⟩ := zcz hb;exact (hcc _ _ hlt).trans (hc i hi j u hu)
theorem zk.take {size : Nat} {enc : α → List Value} {w : World} {a : Option Addr} {xs : List α} (h : zk size enc w a xs) (k : Nat) : zk size enc w a (xs.take k) := by
 rcases h with rfl | ⟨b, o, rfl, hlt, hc⟩
 ·exact Or.inl (by simp)
 ·refine Or.inr ⟨b, o, rfl, hlt, fun i hi j u hu => ?_⟩
  have hi' : i < xs.length := by simp at hi; omega
  exact hc i hi' j u (by simpa using hu)
theorem zk.src {size : Nat} {enc : α → List Value} (he : ∀ x, (enc x).length = size) (h0 : 0 < size) {w : World} {a : Option Addr} {xs : List α} (h : zk size enc w a xs) : SrcAt w a xs.length size (zx enc xs) := by
 refine ⟨zde he xs, ?_⟩;rcases h with rfl | ⟨b, o, rfl, hlt, hc⟩
 ·exact Or.inl rfl
 ·refine Or.inr ⟨_, rfl, fun j u hj => ?_⟩
  have hadd : (⟨b, o, U⟩ : Addr).add j = ⟨b, o + j, U⟩ := by unfold Addr.add; split <;> simp_all
  rw [hadd]
  have hlt : j < xs.length * size := by
   rcases Nat.lt_or_ge j (xs.length * size) with h' | h'
   ·exact h'
   ·rw [List.getElem?_eq_none (by rw [zde he]; exact h')] at hj; cases hj
  have hi := Nat.div_lt_of_lt_mul (by rw [Nat.mul_comm]; exact hlt);have hm : j = j / size * size + j % size := by rw [Nat.mul_comm]; exact (Nat.div_add_mod j size).symm
  have hms : j % size < size := Nat.mod_lt _ h0;rw [hm, zhd he xs _ hi _ hms] at hj;have := hc _ hi _ u hj;rw [Nat.add_assoc, ← hm] at this;exact this
theorem zk.one {size : Nat} {enc : α → List Value} {w : World} {B : Nat} {x : α} {cs : Array Value} {t : TypeId} (h : Blk w B cs t) (hx : cs.toList = enc x) : zk size enc w (some ⟨B, 0, U⟩) [x] := by
 refine Or.inr ⟨B, 0, rfl, h.lt, fun i hi j u hu => ?_⟩;have h0 : i = 0 := by simpa using hi
 subst h0;simp only [Nat.zero_mul, Nat.zero_add]
 rw [h.cell, ← Array.getElem?_toList, hx];exact hu
def zd (e : TypeId) (size : Nat) (enc : α → List Value) (w : World) (base : Nat) (v : Value) (xs : List α) : Prop := w.ownsRow base e size v xs.length (zx enc xs)
section
variable {e : TypeId} {size : Nat} {enc : α → List Value} {w w' : World} {base : Nat} {v : Value} {xs : List α}
theorem zd.below (h : zd e size enc w base v xs) {B : Nat} (hb : Z B w w') (hB : w.heap.size ≤ B) : zd e size enc w' base v xs := zhf h hb hB
theorem zd.nil (w : World) (base : Nat) : zd e size enc w base (G U 0 0) [] := World.ownsRow_nil _ _ _ _
theorem zd.row (he : ∀ x, (enc x).length = size) (h : zd e size enc w base v xs) : ∃ a cap, v = G a xs.length cap ∧ zk size enc w a xs ∧ xs.length ≤ cap ∧ cap ≤ maxLen := by
 rcases h.2 with ⟨hv, h0⟩ | ⟨g, cap, cur, hv, hg, hh, jZ, hmx, hsz, qJ⟩
 ·exact ⟨U, 0, by rw [hv, h0], Or.inl (List.eq_nil_of_length_eq_zero h0), by omega, Nat.zero_le _⟩
 ·have hh' := h
  unfold zd at hh'
  rw [hv] at hh';refine ⟨_, cap, hv, Or.inr ⟨g, 0, rfl, ?_, fun i hi j u hu => ?_⟩, jZ, hmx⟩
  ·rcases Nat.lt_or_ge g w.heap.size with h' | h'
   ·exact h'
   ·rw [Array.getElem?_eq_none h'] at hh; cases hh
  ·have hj : j < size := by
    rcases Nat.lt_or_ge j size with h' | h'
    ·exact h'
    ·rw [List.getElem?_eq_none (by rw [he]; exact h')] at hu; cases hu
   rw [Nat.zero_add, hh'.cellAt _ ?_, zhd he xs i hi j hj, hu];have h3 : (i + 1) * size ≤ xs.length * size := Nat.mul_le_mul_right _ hi;rw [Nat.add_mul] at h3;omega
theorem zd.blk (h : zd e size enc w base v xs) {g : Nat} (hg : v.ownBlock = some g) : base ≤ g ∧ ∃ cs, Blk w g cs e := by
 rcases h.2 with ⟨hv, h0⟩ | ⟨g', cap, cur, hv, hg', hh, _⟩
 ·rw [hv] at hg; cases hg
 ·rw [hv] at hg; cases hg; exact ⟨hg', cur, hh⟩
theorem zd.kept (h : zd e size enc w base v xs) {row : Option Nat} (hg : w.grownBy w' row) (hne : v.ownBlock = U ∨ v.ownBlock ≠ row) : zd e size enc w' base v xs := World.ownsRow.kept h hg hne
theorem zd.keptT (h : zd e size enc w base v xs) {row : Option Nat} (hg : w.grownBy w' row) (hne : ∀ k, row = some k → ∃ cs t, Blk w k cs t ∧ t ≠ e) : zd e size enc w' base v xs := by
 refine h.kept hg ?_
 cases hv : v.ownBlock with
 | none => exact Or.inl rfl
 | some g =>
  refine Or.inr fun hr => ?_
  obtain ⟨cs, t, hb, hte⟩ := hne g hr.symm;obtain ⟨_, cs', hb'⟩ := h.blk hv;unfold Blk at hb hb'
  rw [hb] at hb';injection hb' with hb'
  injection hb' with _ q _
  exact hte q
theorem zd.setOther (h : zd e size enc w base v xs) {a : Addr} {cs : Array Value} {t : TypeId} (hb : Blk w a.block cs t) (ht : t ≠ e) (u : Value) : zd e size enc (r w a u) base v xs := by
 refine ownsRow_setCell_other h (fun hv => ?_) u;obtain ⟨_, cs', hb'⟩ := h.blk hv;unfold Blk at hb hb'
 rw [hb] at hb';injection hb' with hb'
 injection hb' with _ q _
 exact ht q
theorem zd.mono (h : zd e size enc w base v xs) {base' : Nat} (hb : base' ≤ base) : zd e size enc w base' v xs := World.ownsRow.mono h hb
theorem zd.cut {g cap n : Nat} {ys : List α} (he : ∀ x, (enc x).length = size) (h : zd e size enc w base (G (some ⟨g, 0, U⟩) n cap) (xs ++ ys)) {m : Nat} (hm : m = xs.length) : zd e size enc w base (G (some ⟨g, 0, U⟩) m cap) xs := by
 subst hm;rcases h.2 with ⟨hv, h0⟩ | ⟨g', cap', cur, hv, hg, hh, jZ, hmx, hsz, qJ⟩
 ·cases hv
 ·cases hv
  refine ⟨zde he xs, Or.inr ⟨g, cap, cur, rfl, hg, hh, by rw [List.length_append] at jZ; omega, hmx, hsz, ?_⟩⟩;have h3 : (cur.toList.take ((xs ++ ys).length * size)).take (xs.length * size) = (zx enc (xs ++ ys)).take (xs.length * size) := by rw [qJ]
  rw [List.take_take, Nat.min_eq_left (Nat.mul_le_mul_right _ (by simp))] at h3;rw [h3, zfg, ← zde he xs];exact List.take_left
theorem zd.setFar {g cap n j : Nat} (he : ∀ x, (enc x).length = size) (h : zd e size enc w base (G (some ⟨g, 0, U⟩) n cap) xs) (hn : n = xs.length) (hj : xs.length * size ≤ j) (u : Value) : zd e size enc (r w ⟨g, j, U⟩ u) base (G (some ⟨g, 0, U⟩) n cap) xs := by
 subst hn;have := (World.ownsRow.stored h j u).1;rw [List.set_eq_of_length_le (by rw [zde he]; exact hj)] at this;exact this
theorem zd.setCells {g cap n : Nat} (he : ∀ x, (enc x).length = size) (hn : n = xs.length) : ∀ (vs : List Value) (j : Nat) (w : World), zd e size enc w base (G (some ⟨g, 0, U⟩) n cap) xs → xs.length * size ≤ j → zd e size enc (w.setCells g j vs) base (G (some ⟨g, 0, U⟩) n cap) xs
 | [], _, _, h, _ => h
 | u :: jj, j, w, h, hj => by
  rw [World.setCells];exact zd.setCells he hn jj (j + 1) _ (h.setFar he hn hj u) (by omega)
theorem zd.put2 {g cap n i : Nat} (he : ∀ x, (enc x).length = 2) (h : zd e 2 enc w base (G (some ⟨g, 0, U⟩) n cap) xs) (hn : n = xs.length) (hi : i < xs.length) {x : α} {u0 u1 : Value} (hx : enc x = [u0, u1]) :
  zd e 2 enc (r (r w ⟨g, i * 2, U⟩ u0) ⟨g, i * 2 + 1, U⟩ u1) base (G (some ⟨g, 0, U⟩) n cap) (xs.set i x) := by
 subst hn;have h1 := (World.ownsRow.stored h (i * 2) u0).1;have h2 := (World.ownsRow.stored h1 (i * 2 + 1) u1).1;unfold zd
 rw [zl8 he xs i hi x u0 u1 hx] at h2
 simpa using h2
theorem zd.put4 {g cap n i : Nat} (he : ∀ x, (enc x).length = 4) (h : zd e 4 enc w base (G (some ⟨g, 0, U⟩) n cap) xs) (hn : n = xs.length) (hi : i < xs.length) {x : α} {u0 u1 u2 u3 : Value} (hx : enc x = [u0, u1, u2, u3]) :
  zd e 4 enc (r (r (r (r w ⟨g, i * 4, U⟩ u0) ⟨g, i * 4 + 1, U⟩ u1) ⟨g, i * 4 + 2, U⟩ u2) ⟨g, i * 4 + 3, U⟩ u3) base (G (some ⟨g, 0, U⟩) n cap) (xs.set i x) := by
 subst hn;have h1 := (World.ownsRow.stored h (i * 4) u0).1;have h2 := (World.ownsRow.stored h1 (i * 4 + 1) u1).1;have h3 := (World.ownsRow.stored h2 (i * 4 + 2) u2).1;have h4 := (World.ownsRow.stored h3 (i * 4 + 3) u3).1;unfold zd
 rw [zlw he xs i hi x u0 u1 u2 u3 hx] at h4
 simpa using h4
end
theorem zbj {enc : α → List Value} {size bytes : Nat} {e t : TypeId} {z : Value} (he : ∀ x, (enc x).length = size) (h1 : ∀ x, ∀ u ∈ enc x, u.oneCell' = true) (ht : Try.prog.underlying t = some (.slice e))
  (hinfo : (Try.prog.info? e).map (fun i => (i.zero, i.size, i.bytes)) = some (some z, size, bytes)) (hzs : z.cells.size = size) (h0 : 0 < size)
  {ops : Array Oper} {rest : List Oper} {o : Oper} {a : Act} {zZ : Exit → Act → World → Prop} (w : World) (hgd : o.guard = U) (s x : Operand)
  (ho : o.op = .call { callee := .builtin .append, args := #[s, x], argTypes := #[t, t] })
  (base : Nat) (v : Value) (xs : List α) (hs : a.eval s = v) (jx : zd e size enc w base v xs) (ad : Option Addr) (m c : Nat) (ys : List α) (hx : a.eval x = G ad m c) (hm : m = ys.length) (hsrc : zk size enc w ad ys)
  (hml : xs.length + ys.length ≤ maxLen) (hl : (xs.length + ys.length) * bytes ≤ 140737488355328) (hbase : base ≤ w.heap.size)
  (h : ∀ a' n' c' w', zd e size enc w' base (G a' n' c') (xs ++ ys) → n' = xs.length + ys.length → w.grownBy w' v.ownBlock → (kaa (G a' n' c') = v.ownBlock ∨ kaa (G a' n' c') = some w.heap.size) → wpList Try.prog ops zZ rest (a.put o.dst (G a' n' c')) w') : wpList Try.prog ops zZ (o :: rest) a w := by
 subst hm;obtain ⟨i0, hi, hz0, hz1, hz2⟩ := info_parts hinfo;refine zpu w hgd s x t ho base e i0 _ size bytes ht hi hz0 hz1 hz2 hzs h0 v xs.length (zx enc xs) hs jx ad ys.length c (zx enc ys) hx (hsrc.src he h0) (zhr h1 ys) hml hl hbase ?_;intro v' w' g1 g2 g3
 have hO : zd e size enc w' base v' (xs ++ ys) := by
  unfold zd
  rw [zfg, List.length_append];exact g1
 obtain ⟨a', c', hv, _⟩ := hO.row he;rw [List.length_append] at hv;subst hv;exact h a' _ c' w' hO rfl g2 g3
theorem zhe {enc : α → List Value} {size bytes : Nat} {e t : TypeId} {z : Value} (he : ∀ x, (enc x).length = size) (h1 : ∀ x, ∀ u ∈ enc x, u.oneCell' = true) (ht : Try.prog.underlying t = some (.slice e))
  (hinfo : (Try.prog.info? e).map (fun i => (i.zero, i.size, i.bytes)) = some (some z, size, bytes)) (hzs : z.cells.size = size) (h0 : 0 < size) (hby : bytes ≤ 1000)
  {ops : Array Oper} {rest : List Oper} {o : Oper} {a : Act} {zZ : Exit → Act → World → Prop} (w : World) (hgd : o.guard = U) (s x : Operand)
  (ho : o.op = .call { callee := .builtin .append, args := #[s, x], argTypes := #[t, t] })
  (base : Nat) (v : Value) (xs : List α) (hs : a.eval s = v) (jx : zd e size enc w base v xs) (ad : Option Addr) (m c : Nat) (ys : List α) (hx : a.eval x = G ad m c) (hm : m = ys.length) (hsrc : zk size enc w ad ys)
  (hl : xs.length + ys.length ≤ 1000000) (hbase : base ≤ w.heap.size)
  (h : ∀ a' n' c' w', zd e size enc w' base (G a' n' c') (xs ++ ys) → n' = xs.length + ys.length → w.grownBy w' v.ownBlock → (kaa (G a' n' c') = v.ownBlock ∨ kaa (G a' n' c') = some w.heap.size) → wpList Try.prog ops zZ rest (a.put o.dst (G a' n' c')) w') : wpList Try.prog ops zZ (o :: rest) a w := by
 exact zbj he h1 ht hinfo hzs h0 w hgd s x ho base v xs hs jx ad m c ys hx hm hsrc (by unfold maxLen; omega) (Nat.le_trans (Nat.mul_le_mul hl hby) (by decide)) hbase h
theorem znm {enc : α → List Value} {size bytes : Nat} {e t : TypeId} {z : Value} (he : ∀ x, (enc x).length = size) (h1 : ∀ x, ∀ u ∈ enc x, u.oneCell' = true) (ht : Try.prog.underlying t = some (.slice e))
  (hinfo : (Try.prog.info? e).map (fun i => (i.zero, i.size, i.bytes)) = some (some z, size, bytes)) (hzs : z.cells.size = size) (h0 : 0 < size)
  {ops : Array Oper} {o : Oper} {a : Act} {K : Act → World → Prop} {zZ : Exit → Act → World → Prop} {zQ : Prop} (w : World) (hw : Region.wanted o (yielded ops a.tmps) = true) (s x : Operand)
  (ho : o.op = .call { callee := .builtin .append, args := #[s, x], argTypes := #[t, t] })
  (base : Nat) (v : Value) (xs : List α) (hs : a.eval s = v) (jx : zd e size enc w base v xs) (ad : Option Addr) (m c : Nat) (ys : List α) (hx : a.eval x = G ad m c) (hm : m = ys.length) (hsrc : zk size enc w ad ys)
  (hml : xs.length + ys.length ≤ maxLen) (hl : (xs.length + ys.length) * bytes ≤ 140737488355328) (hbase : base ≤ w.heap.size)
  (h : ∀ a' n' c' w', zd e size enc w' base (G a' n' c') (xs ++ ys) → n' = xs.length + ys.length → w.grownBy w' v.ownBlock → (kaa (G a' n' c') = v.ownBlock ∨ kaa (G a' n' c') = some w.heap.size) → K (a.put o.dst (G a' n' c')) w') : if Region.wanted o (yielded ops a.tmps) = true then Oper.wp Try.prog o a w K zZ else zQ := by
 subst hm;obtain ⟨i0, hi, hz0, hz1, hz2⟩ := info_parts hinfo;rw [if_pos hw];obtain ⟨v', w', hr, g1, g2, g3⟩ := ziw (P := Try.prog) w base t o.type e i0 _ size bytes ht hi hz0 hz1 hz2 hzs h0 v xs.length (zx enc xs) jx ad ys.length c (zx enc ys) (hsrc.src he h0) (zhr h1 ys) hml hl hbase
 have hO : zd e size enc w' base v' (xs ++ ys) := by
  unfold zd
  rw [zfg, List.length_append];exact g1
 obtain ⟨a', c', hv, _⟩ := hO.row he;rw [List.length_append] at hv;subst hv;unfold Oper.wp execOp
 simp only [ho, resolve, invoke, builtin, Sem.run_bind, Sem.run_pure, Result.andThen_ok, List.map_toArray, List.map_cons, List.map_nil, hs, hx, hr]
 exact h a' _ c' w' hO rfl g2 g3
theorem zeu {enc : α → List Value} {size bytes : Nat} {e t : TypeId} {z : Value} (he : ∀ x, (enc x).length = size) (h1 : ∀ x, ∀ u ∈ enc x, u.oneCell' = true) (ht : Try.prog.underlying t = some (.slice e))
  (hinfo : (Try.prog.info? e).map (fun i => (i.zero, i.size, i.bytes)) = some (some z, size, bytes)) (hzs : z.cells.size = size) (h0 : 0 < size)
  {ops : Array Oper} {o : Oper} {a : Act} {K : Act → World → Prop} {zZ : Exit → Act → World → Prop} {zQ : Prop} (w : World) (hgd : o.guard = U) (s x : Operand)
  (ho : o.op = .call { callee := .builtin .append, args := #[s, x], argTypes := #[t, t] })
  (base : Nat) (v : Value) (xs : List α) (hs : a.eval s = v) (jx : zd e size enc w base v xs) (ad : Option Addr) (m c : Nat) (ys : List α) (hx : a.eval x = G ad m c) (hm : m = ys.length) (hsrc : zk size enc w ad ys)
  (hml : xs.length + ys.length ≤ maxLen) (hl : (xs.length + ys.length) * bytes ≤ 140737488355328) (hbase : base ≤ w.heap.size)
  (h : ∀ a' n' c' w', zd e size enc w' base (G a' n' c') (xs ++ ys) → n' = xs.length + ys.length → w.grownBy w' v.ownBlock → (kaa (G a' n' c') = v.ownBlock ∨ kaa (G a' n' c') = some w.heap.size) → K (a.put o.dst (G a' n' c')) w') : if Region.wanted o (yielded ops a.tmps) = true then Oper.wp Try.prog o a w K zZ else zQ := by
 exact znm he h1 ht hinfo hzs h0 w (by simp [Region.wanted, hgd]) s x ho base v xs hs jx ad m c ys hx hm hsrc hml hl hbase h
end
def zj (t : TypeId) (w w' : World) : Prop := ∀ b cs, Blk w b cs t → Blk w' b cs t
theorem zj.refl (t : TypeId) (w : World) : zj t w w := fun _ _ h => h
theorem zj.trans {t : TypeId} {a b c : World} (h : zj t a b) (k : zj t b c) : zj t a c := fun _ _ x => k _ _ (h _ _ x)
theorem zj.below {t : TypeId} {w w' : World} {B : Nat} (h : Z B w w') (hB : w.heap.size ≤ B) : zj t w w' := fun _ _ x => x.below h (Nat.lt_of_lt_of_le x.lt hB)
theorem zj.alloc (t : TypeId) (w : World) (o : Obj) : zj t w (w.alloc o) := fun _ _ x => x.alloc o
theorem zj.setCell {t t' : TypeId} {w : World} {a : Addr} {cs : Array Value} (hb : Blk w a.block cs t') (ht : t' ≠ t) (u : Value) : zj t w (r w a u) := fun b cs' x => x.setOther (fun e => by
 subst e;unfold Blk at hb x
 rw [hb] at x;injection x with x
 injection x with _ q _
 exact ht q) u
theorem zj.grown {t : TypeId} {w w' : World} {row : Option Nat} (hg : w.grownBy w' row) (hr : ∀ k, row = some k → ∃ cs t', Blk w k cs t' ∧ t' ≠ t) : zj t w w' := fun b cs x => by
 unfold Blk
 rw [hg.block b x.lt (fun e => ?_)]
 ·exact x
 ·obtain ⟨cs', t', hb, hne⟩ := hr b e.symm
  unfold Blk at hb x
  rw [hb] at x;injection x with x
  injection x with _ q _
  exact hne q
theorem zd.grownT {α : Type} {e t : TypeId} {size : Nat} {enc : α → List Value} {w : World} {base : Nat} {v : Value} {xs : List α} (h : zd e size enc w base v xs) (hne : e ≠ t) : ∀ k, v.ownBlock = some k → ∃ cs t', Blk w k cs t' ∧ t' ≠ t := fun k hk => by
 obtain ⟨_, cs, hb⟩ := h.blk hk;exact ⟨cs, e, hb, hne⟩
def zam (base : Nat) (w : World) (a : Option Addr) (l : List P3) : Prop :=
 l = [] ∨ ∃ b o cs, a = some ⟨b, o, U⟩ ∧ base ≤ b ∧ Blk w b cs 49 ∧ ∀ i (h : i < l.length), cs[o + i * 3]? = some (E J l[i].1) ∧ cs[o + i * 3 + 1]? = some (E J l[i].2.1) ∧ cs[o + i * 3 + 2]? = some (E J l[i].2.2)
theorem zam.mono {base base' : Nat} {w : World} {a : Option Addr} {l : List P3} (h : zam base w a l) (hb : base' ≤ base) : zam base' w a l := by
 rcases h with h | ⟨b, o, cs, ha, hB, hb', hx⟩
 ·exact Or.inl h
 ·exact Or.inr ⟨b, o, cs, ha, Nat.le_trans hb hB, hb', hx⟩
theorem zam.calm {base : Nat} {w w' : World} {a : Option Addr} {l : List P3} (h : zam base w a l) (hc : zj 49 w w') : zam base w' a l := by
 rcases h with h | ⟨b, o, cs, ha, hB, hb, hx⟩
 ·exact Or.inl h
 ·exact Or.inr ⟨b, o, cs, ha, hB, hc _ _ hb, hx⟩
theorem zam.at {base : Nat} {w : World} {a : Option Addr} {l : List P3} (h : zam base w a l) : zal w a l := by
 rcases h with h | ⟨b, o, cs, ha, hB, hb, hx⟩
 ·exact Or.inl h
 ·refine Or.inr ⟨b, o, ha, hb.lt, fun i hi => ?_⟩
  obtain ⟨h0, h1, h2⟩ := hx i hi;exact ⟨(hb.cell _).trans h0, (hb.cell _).trans h1, (hb.cell _).trans h2⟩
theorem zbz.typed {w : World} {base : Nat} {v : Value} {l : List P3} (h : zbz w base v l) : ∃ a cap, v = G a l.length cap ∧ zam base w a l ∧ l.length ≤ cap ∧ cap ≤ maxLen := by
 rcases h.2 with ⟨hv, h0⟩ | ⟨g, cap, cur, hv, hg, hh, jZ, hmx, hsz, qJ⟩
 ·exact ⟨U, 0, by rw [hv, h0], Or.inl (List.eq_nil_of_length_eq_zero h0), by omega, Nat.zero_le _⟩
 ·refine ⟨_, cap, hv, Or.inr ⟨g, 0, cur, rfl, hg, hh, fun i hi => ?_⟩, jZ, hmx⟩
  have key : ∀ (j : Nat) (u : Value), (zeb l)[j]? = some u → cur[j]? = some u := by
   intro j u hj;rw [← qJ] at hj
   have hlt : j < l.length * 3 := by
    rcases Nat.lt_or_ge j (l.length * 3) with h' | h'
    ·exact h'
    ·rw [List.getElem?_eq_none (by simp; omega)] at hj; cases hj
   rw [List.getElem?_take_of_lt hlt] at hj
   simpa using hj
  obtain ⟨e0, e1, e2⟩ := zjl l i hi;rw [Nat.zero_add];exact ⟨key _ _ e0, key _ _ e1, key _ _ e2⟩
theorem Blk.keptNe {w w' : World} {b : Nat} {cs : Array Value} {t : TypeId} {row : Option Nat} (hg : w.grownBy w' row) (h : Blk w b cs t) (hne : row ≠ some b) : Blk w' b cs t := by
 unfold Blk
 rw [hg.block b h.lt (fun e => hne e.symm)];exact h
theorem zd.made0 {α : Type} {e : TypeId} {size : Nat} {enc : α → List Value} {w : World} {b base : Nat} (h : Blk w b #[] e) (hb : base ≤ b) : zd e size enc w base (G (some ⟨b, 0, U⟩) 0 0) [] :=
 ⟨by simp [zx], Or.inr ⟨b, 0, #[], rfl, hb, h, Nat.le_refl _, Nat.zero_le _, by simp, by simp [zx]⟩⟩
theorem zh2 (w : World) (t e ty : TypeId) (z : Value) (ht : Try.prog.underlying t = some (.slice e)) (hv : ∀ w, (zeroValue e).run Try.prog w = .ok z w) (h1 : ∀ u ∈ z.cells, u.oneCell' = true) (b o n c : Nat) (hn : 0 < n)
  (hc : ∀ j, j < n * z.cells.size → (w.cell? ⟨b, o + j, U⟩).isSome = true) (hf : ∀ j, j < n * z.cells.size → w.frozen? ⟨b, o + j, U⟩ = false) :
  ∃ vs, (Builtin.clear_ #[t] ty #[G (some ⟨b, o, U⟩) n c]).run Try.prog w = .ok (.tuple #[]) (w.setCells b o vs) := by
 have hzl : (Builtin.zeroCells z.cells n).toList.length = n * z.cells.size := by simp [Builtin.zeroCells]
 have hst := run_storeCells_cells (P := Try.prog) b o (Builtin.zeroCells z.cells n).toList 0 w (by rw [hzl]; simpa using hc) (by rw [hzl]; simpa using hf) (by
  intro v hv';simp only [Builtin.zeroCells, Array.toList_map, List.mem_map] at hv'
  obtain ⟨i, hi, rfl⟩ := hv'
  have hpos : 0 < z.cells.size := by
   rcases Nat.eq_zero_or_pos z.cells.size with h | h
   ·rw [h] at hi; simp at hi
   ·exact h
  have hlt := Nat.mod_lt i hpos;have e : z.cells[i % z.cells.size]! = z.cells[i % z.cells.size] := getElem!_pos z.cells (i % z.cells.size) hlt;rw [e]
  exact h1 _ (Array.getElem_mem hlt))
 simp only [Nat.add_zero] at hst
 obtain ⟨m, rfl⟩ : ∃ m, n = m + 1 := ⟨n - 1, by omega⟩;exact ⟨(Builtin.zeroCells z.cells (m + 1)).toList, by simp [Builtin.clear_, run_underlying ht, hv, hst]⟩
end Go.Proofs.Ytpcnlifmkhagkaa
