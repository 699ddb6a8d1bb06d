/- What wire.message does: the message that stands in bytes, and what is wrong with how it is written. -/
import Derived.Test.YtmjekpdgmdpndaaKJ24
namespace Go.Proofs.Ytmjekpdgmdpndaa
open Go.RowKit
attribute [local go_sem ↓] Go.wp_at_zero Go.wp_at_succ

theorem ownsRow_keep {w w' : World} {base : Nat} {e : TypeId} {size : Nat} {v : Value} {n : Nat} {xs : List Value} (h : w.ownsRow base e size v n xs) {R : Nat → Prop} (hk : Keep R w w') (hR : ∀ j, base ≤ j → v.ownBlock = some j → ¬ R j) : w'.ownsRow base e size v n xs := by
  refine ⟨h.1, ?_⟩
  rcases h.2 with h0 | ⟨g, cap, cur, hv, hg, hh, r⟩
  · exact Or.inl h0
  · refine Or.inr ⟨g, cap, cur, hv, hg, ?_, r⟩
    have hlt : g < w.heap.size := by
      rcases Nat.lt_or_ge g w.heap.size with h' | h'
      · exact h'
      · rw [Array.getElem?_eq_none h'] at hh; cases hh
    rw [hk.block hlt (hR g hg (by rw [hv]; rfl))]; exact hh
theorem OwnP.keep {w w' : World} {base : Nat} {v : Value} {l : List P3} (h : OwnP w base v l) {R : Nat → Prop} (hk : Keep R w w') (hR : ∀ j, base ≤ j → v.ownBlock = some j → ¬ R j) : OwnP w' base v l := ownsRow_keep h hk hR
theorem OwnP.block {w : World} {base : Nat} {v : Value} {l : List P3} (h : OwnP w base v l) {j : Nat} (hj : v.ownBlock = some j) : base ≤ j ∧ j < w.heap.size := by
  rcases h.2 with ⟨hv, _⟩ | ⟨g, cap, cur, hv, hg, hh, _⟩
  · rw [hv] at hj; cases hj
  · rw [hv] at hj; cases hj
    rcases Nat.lt_or_ge g w.heap.size with h' | h'
    · exact ⟨hg, h'⟩
    · rw [Array.getElem?_eq_none h'] at hh; cases hh
theorem OwnP.base {w : World} {base base' : Nat} {v : Value} {l : List P3} (h : OwnP w base v l) (hb : base' ≤ base) : OwnP w base' v l := by
  refine ⟨h.1, ?_⟩
  rcases h.2 with h0 | ⟨g, cap, cur, hv, hg, r⟩
  · exact Or.inl h0
  · exact Or.inr ⟨g, cap, cur, hv, by omega, r⟩

theorem StAt.keep {w w' : World} {N : Nat} {st : List Nat × Int} (h : StAt w N st) {R : Nat → Prop} (hk : Keep R w w') (hR : ∀ j, R j → N ≤ j ∧ j ≠ N + 1 ∧ j ≠ N + 2) : StAt w' N st := by
  obtain ⟨b, o, cap, hr, he, hbN, hcap, hmax, hbyt, hc⟩ := h
  refine ⟨b, o, cap, hr.keep hk fun x => (hR _ x).2.1 rfl, he.keep hk fun x => (hR _ x).2.2 rfl, hbN, hcap, hmax, hbyt, fun i hi => ?_⟩
  rw [hk.cell (by have := hr.lt; omega) fun x => by have := (hR _ x).1; omega]
  exact hc i hi
theorem StAt.size {w : World} {N : Nat} {st : List Nat × Int} (h : StAt w N st) : N + 2 < w.heap.size := by
  obtain ⟨b, o, cap, hr, he, _⟩ := h
  exact he.lt

theorem st_err {w : World} {N : Nat} {st : List Nat × Int} (h : StAt w N st) : w.cell? ⟨N + 2, 0, none⟩ = some (.int .i64 st.2) := by
  obtain ⟨b, o, cap, hr, he, _⟩ := h
  have := he.cell 0
  simpa using this

/-- What message has made till now: the closure's blocks, the message in block N + 3, the answer in block N. -/
def MsgAt (w w' : World) (N : Nat) (st : List Nat × Int) (k d h : Int) (v : Value) : Prop :=
  StAt w' N st ∧ Blk w' (N + 3) #[.int .i64 k, .int .i64 d, .int .i64 h, v] 43 ∧ Blk w' N #[.int .i64 0, .int .i64 0, .int .i64 0, .slice none 0 0] 43 ∧ Below N w w'
theorem MsgAt.keep {w w' w'' : World} {N : Nat} {st : List Nat × Int} {k d h : Int} {v : Value} (hm : MsgAt w w' N st k d h v) {R : Nat → Prop} (hk : Keep R w' w'') (hR : ∀ j, R j → N + 4 ≤ j) : MsgAt w w'' N st k d h v := by
  have hs := hm.1.size
  exact ⟨hm.1.keep hk fun j hj => by have := hR j hj; omega, hm.2.1.keep hk fun x => by have := hR _ x; omega, hm.2.2.1.keep hk fun x => by have := hR _ x; omega, hm.2.2.2.trans (hk.below (by omega) fun j hj => by have := hR j hj; omega)⟩
theorem MsgAt.take {w w' w'' : World} {N : Nat} {st st' : List Nat × Int} {k d h : Int} {v : Value} (hm : MsgAt w w' N st k d h v) (hs : StAt w'' N st') (hk : Keep (Two N) w' w'') : MsgAt w w'' N st' k d h v := by
  have h2 := hm.1.size
  exact ⟨hs, hm.2.1.keep hk (by unfold Two; omega), hm.2.2.1.keep hk (by unfold Two; omega), hm.2.2.2.trans (hk.below (by omega) fun j hj => by unfold Two at hj; omega)⟩
theorem MsgAt.put {w w' : World} {N : Nat} {st : List Nat × Int} {k d h k' d' h' : Int} {v v' : Value} (hm : MsgAt w w' N st k d h v) (i : Nat) (u : Value) (e : (#[.int .i64 k, .int .i64 d, .int .i64 h, v] : Array Value).setIfInBounds i u = #[.int .i64 k', .int .i64 d', .int .i64 h', v']) : MsgAt w (w'.setCell ⟨N + 3, i, none⟩ u) N st k' d' h' v' := by
  have hk : Keep (fun j => j = N + 3) w' (w'.setCell ⟨N + 3, i, none⟩ u) := (Keep.refl (fun j => j = N + 3) w').setCell rfl _
  have h2 := hm.1.size
  refine ⟨hm.1.keep hk fun j hj => by omega, ?_, hm.2.2.1.keep hk (by omega), hm.2.2.2.trans (hk.below (by omega) fun j hj => by omega)⟩
  have := hm.2.1.set i u
  rw [e] at this
  exact this
theorem MsgAt.err {w w' : World} {N : Nat} {st : List Nat × Int} {k d h : Int} {v : Value} (hm : MsgAt w w' N st k d h v) (y : Int) : MsgAt w (w'.setCell ⟨N + 2, 0, none⟩ (.int .i64 y)) N (st.1, y) k d h v := by
  have hk : Keep (fun j => j = N + 2) w' (w'.setCell ⟨N + 2, 0, none⟩ (.int .i64 y)) := (Keep.refl (fun j => j = N + 2) w').setCell rfl _
  have h2 := hm.1.size
  obtain ⟨⟨b, o, cap, hr, he, hbN, hcap, hmax, hbyt, hc⟩, hm2, hm3, hm4⟩ := hm
  refine ⟨⟨b, o, cap, hr.keep hk (by omega), he.set 0 _, hbN, hcap, hmax, hbyt, fun i hi => ?_⟩, hm2.keep hk (by omega), hm3.keep hk (by omega), hm4.trans (hk.below (by omega) fun j hj => by omega)⟩
  rw [hk.cell (by have := hr.lt; omega) (by omega)]
  exact hc i hi

theorem fin_blk {w W : World} {N : Nat} {st : List Nat × Int} {k d h : Int} {v : Value} {acc : List P3} (hm : MsgAt w W N st k d h v) (ho : OwnP W (N + 4) v acc) :
    (((((W.setCell ⟨N, 0, none⟩ (.int .i64 k)).setCell ⟨N, 1, none⟩ (.int .i64 d)).setCell ⟨N, 2, none⟩ (.int .i64 h)).setCell ⟨N, 3, none⟩ v).drew.cell? ⟨N, 0, none⟩ = some (.int .i64 k)) ∧
    (((((W.setCell ⟨N, 0, none⟩ (.int .i64 k)).setCell ⟨N, 1, none⟩ (.int .i64 d)).setCell ⟨N, 2, none⟩ (.int .i64 h)).setCell ⟨N, 3, none⟩ v).drew.cell? ⟨N, 1, none⟩ = some (.int .i64 d)) ∧
    (((((W.setCell ⟨N, 0, none⟩ (.int .i64 k)).setCell ⟨N, 1, none⟩ (.int .i64 d)).setCell ⟨N, 2, none⟩ (.int .i64 h)).setCell ⟨N, 3, none⟩ v).drew.cell? ⟨N, 2, none⟩ = some (.int .i64 h)) ∧
    (((((W.setCell ⟨N, 0, none⟩ (.int .i64 k)).setCell ⟨N, 1, none⟩ (.int .i64 d)).setCell ⟨N, 2, none⟩ (.int .i64 h)).setCell ⟨N, 3, none⟩ v).drew.cell? ⟨N, 3, none⟩ = some v) ∧
    OwnP ((((W.setCell ⟨N, 0, none⟩ (.int .i64 k)).setCell ⟨N, 1, none⟩ (.int .i64 d)).setCell ⟨N, 2, none⟩ (.int .i64 h)).setCell ⟨N, 3, none⟩ v).drew N v acc ∧
    Below N w ((((W.setCell ⟨N, 0, none⟩ (.int .i64 k)).setCell ⟨N, 1, none⟩ (.int .i64 d)).setCell ⟨N, 2, none⟩ (.int .i64 h)).setCell ⟨N, 3, none⟩ v).drew := by
  have hb : Blk ((((W.setCell ⟨N, 0, none⟩ (.int .i64 k)).setCell ⟨N, 1, none⟩ (.int .i64 d)).setCell ⟨N, 2, none⟩ (.int .i64 h)).setCell ⟨N, 3, none⟩ v).drew N #[.int .i64 k, .int .i64 d, .int .i64 h, v] 43 := (((hm.2.2.1.set 0 _).set 1 _).set 2 _).set 3 _
  have hk : Keep (fun q => q = N) W ((((W.setCell ⟨N, 0, none⟩ (.int .i64 k)).setCell ⟨N, 1, none⟩ (.int .i64 d)).setCell ⟨N, 2, none⟩ (.int .i64 h)).setCell ⟨N, 3, none⟩ v).drew :=
    (((((Keep.refl (fun q => q = N) W).setCell rfl _).setCell rfl _).setCell rfl _).setCell rfl _).drew
  have hs := hm.1.size
  exact ⟨hb.cell 0, hb.cell 1, hb.cell 2, hb.cell 3, (ho.keep hk fun q hq _ e => by have e : q = N := e; omega).base (by omega), hm.2.2.2.trans (hk.below (by omega) fun q e => by omega)⟩

/-- Parts, with those that are still to come. -/
theorem partsGo_go (h : Int) (m : Nat) (st : List Nat × Int) (h0 : st.2 = 0) : partsGo h (m + 1) st = ((h, (stepB st).1, (stepB (stepB st).2).1) :: (partsGo h m (stepB (stepB st).2).2).1, (partsGo h m (stepB (stepB st).2).2).2) := by simp [partsGo, h0]
theorem partsGo_stop (h : Int) (m : Nat) (st : List Nat × Int) (h0 : ¬ st.2 = 0) : partsGo h m st = ([], st) := by cases m <;> simp [partsGo, h0]

theorem four_blks (w : World) (c0 c1 c2 c3 : Array Value) (t0 t1 t2 t3 : TypeId) :
    Blk ((((w.alloc (.cells c0 t0)).alloc (.cells c1 t1)).alloc (.cells c2 t2)).alloc (.cells c3 t3)) w.heap.size c0 t0 ∧
    Blk ((((w.alloc (.cells c0 t0)).alloc (.cells c1 t1)).alloc (.cells c2 t2)).alloc (.cells c3 t3)) (w.heap.size + 1) c1 t1 ∧
    Blk ((((w.alloc (.cells c0 t0)).alloc (.cells c1 t1)).alloc (.cells c2 t2)).alloc (.cells c3 t3)) (w.heap.size + 2) c2 t2 ∧
    Blk ((((w.alloc (.cells c0 t0)).alloc (.cells c1 t1)).alloc (.cells c2 t2)).alloc (.cells c3 t3)) (w.heap.size + 3) c3 t3 ∧
    Below w.heap.size w ((((w.alloc (.cells c0 t0)).alloc (.cells c1 t1)).alloc (.cells c2 t2)).alloc (.cells c3 t3)) := by
  have b1 := Blk.new (w.alloc (.cells c0 t0)) c1 t1
  have b2 := Blk.new ((w.alloc (.cells c0 t0)).alloc (.cells c1 t1)) c2 t2
  have b3 := Blk.new (((w.alloc (.cells c0 t0)).alloc (.cells c1 t1)).alloc (.cells c2 t2)) c3 t3
  simp only [World.size_alloc] at b1 b2 b3
  refine ⟨(((Blk.new w c0 t0).alloc _).alloc _).alloc _, (b1.alloc _).alloc _, b2.alloc _, b3, ?_⟩
  exact (below2 _ _ _).trans (((below2 _ _ _).mono (by simp; omega)))

set_option maxRecDepth 20000 in
set_option maxHeartbeats 2000000 in
theorem message_any (a : Option Addr) (l : List Nat) (cap n : Nat) (w : World) (hn : n = l.length) (h1 : 1 ≤ l.length) (hcap : l.length < cap) (hmax : cap ≤ 9223372036854775807) (hb : Byt l) (hp : BytesAt w a l) :
    Calls Try.prog 67 #[.slice a n cap] w fun e w' => ∃ v, e = .returned (.tuple #[.agg #[.int .i64 (messageB l).1.1, .int .i64 (messageB l).1.2.1, .int .i64 (messageB l).1.2.2.1, v], .int .i64 (messageB l).2]) ∧
      OwnP w' w.heap.size v (messageB l).1.2.2.2 ∧ Below w.heap.size w w' := by
  subst hn
  rcases hp with rfl | ⟨b, o, rfl, hlt, hc⟩
  · simp at h1
  have d0 := hc 0 (by omega)
  obtain ⟨c, t, rfl⟩ : ∃ c t, l = c :: t := by
    cases l with
    | nil => simp at h1
    | cons c t => exact ⟨c, t, rfl⟩
  have hc256 : c < 256 := hb c (by simp)
  simp at d0
  have HT : Hid (∀ i (h : i < t.length), w.cell? ⟨b, o + 1 + i, none⟩ = some (.int .u8 (t[i] : Nat))) := by
    show ∀ i, _
    intro i hi
    have := hc (i + 1) (by simp; omega)
    rw [Nat.add_assoc, Nat.add_comm 1 i]
    simpa using this
  have HBT : Hid (Byt t) := fun x hx => hb x (by simp [hx])
  simp only [List.length_cons] at hcap
  have dA : ∀ o1 o2 o3, (((w.alloc o1).alloc o2).alloc o3).cell? ⟨b, o, none⟩ = some (.int .u8 (c : Nat)) := by
    intro o1 o2 o3
    rw [Below.cell (below1 _ _) (by simp; omega), Below.cell (below2 _ _ _) (by simpa using hlt)]
    exact d0
  have hcap2 : 1 < cap := by omega
  clear hc hb h1 d0
  go_enter Try.func67, Try.ntmps67
  go_wp2_with fail
  have hm : MsgAt w ((((w.alloc (.cells #[.int .i64 0, .int .i64 0, .int .i64 0, .slice none 0 0] 43)).alloc (.cells #[.slice (some ⟨b, o + 1, none⟩) t.length (cap - 1)] 57)).alloc (.cells #[.int .i64 0] 32)).alloc (.cells #[.int .i64 (c : Nat), .int .i64 0, .int .i64 0, .slice none 0 0] 43)) w.heap.size (t, 0) c 0 0 (.slice none 0 0) := by
    obtain ⟨k0, k1, k2, k3, k4⟩ := four_blks w #[.int .i64 0, .int .i64 0, .int .i64 0, .slice none 0 0] #[.slice (some ⟨b, o + 1, none⟩) t.length (cap - 1)] #[.int .i64 0] #[.int .i64 (c : Nat), .int .i64 0, .int .i64 0, .slice none 0 0] 43 57 32 43
    refine ⟨⟨b, o + 1, cap - 1, k1, k2, hlt, by simp; omega, by omega, HBT.out, fun i hi => ?_⟩, k3, k0, k4⟩
    rw [k4.cell (p := ⟨b, o + 1 + i, none⟩) hlt]
    exact HT.out i hi
  have hs0 : ((((w.alloc (.cells #[.int .i64 0, .int .i64 0, .int .i64 0, .slice none 0 0] 43)).alloc (.cells #[.slice (some ⟨b, o + 1, none⟩) t.length (cap - 1)] 57)).alloc (.cells #[.int .i64 0] 32)).alloc (.cells #[.int .i64 (c : Nat), .int .i64 0, .int .i64 0, .slice none 0 0] 43)).heap.size = w.heap.size + 4 := by simp
  generalize ((((w.alloc (.cells #[.int .i64 0, .int .i64 0, .int .i64 0, .slice none 0 0] 43)).alloc (.cells #[.slice (some ⟨b, o + 1, none⟩) t.length (cap - 1)] 57)).alloc (.cells #[.int .i64 0] 32)).alloc (.cells #[.int .i64 (c : Nat), .int .i64 0, .int .i64 0, .slice none 0 0] 43)) = W0 at *
  clear dA HT HBT
  rw [show w.heap.size + 1 + 1 + 1 = w.heap.size + 3 from rfl, show w.heap.size + 1 + 1 = w.heap.size + 2 from rfl]
  refine (take_any _ _ _ W0 hm.1).mono ?_
  rintro e w1 ⟨rfl, hst1, hk1⟩
  have hm1 := hm.take hst1 hk1
  have hs1 := hk1.size
  obtain ⟨⟨n1, st1⟩, HS1⟩ : ∃ x, Hid (stepB (t, 0) = x) := ⟨_, rfl⟩
  rw [HS1.out] at hm1
  rw [HS1.out]
  have f1 := hm1.2.1.free 1
  have g1 := hm1.2.1.cell 1
  simp at g1
  clear hst1 hk1 hm
  go_wp2_with fail
  have hm1' := hm1.put 1 (.int .i64 n1) rfl
  clear hm1 f1 g1
  refine (take_any _ _ _ _ hm1'.1).mono ?_
  rintro e w2 ⟨rfl, hst2, hk2⟩
  have hm2 := hm1'.take hst2 hk2
  have hs2 : w1.heap.size ≤ w2.heap.size := by have := hk2.size; simpa [World.setCell] using this
  obtain ⟨⟨n2, st2⟩, HS2⟩ : ∃ x, Hid (stepB st1 = x) := ⟨_, rfl⟩
  rw [HS2.out] at hm2
  rw [HS2.out]
  have f1 := hm2.2.1.free 2
  have g1 := hm2.2.1.cell 2
  simp at g1
  clear hst2 hk2 hm1'
  go_wp2_with fail
  have hm2' := hm2.put 2 (.int .i64 n2) rfl
  clear hm2 f1 g1
  refine (take_any _ _ _ _ hm2'.1).mono ?_
  rintro e w3 ⟨rfl, hst3, hk3⟩
  have hm3 := hm2'.take hst3 hk3
  have hs3 : w2.heap.size ≤ w3.heap.size := by have := hk3.size; simpa [World.setCell] using this
  obtain ⟨⟨n3, r3, e3⟩, HS3⟩ : ∃ x, Hid (stepB st2 = x) := ⟨_, rfl⟩
  rw [HS3.out] at hm3
  rw [HS3.out]
  clear hst3 hk3 hm2'
  have HM : Hid (messageB (c :: t) = ((((c : Nat) : Int), n1, n2, (partsGo n2 n3.toNat (r3, many5 (n3, r3, e3))).1), left2 (partsGo n2 n3.toNat (r3, many5 (n3, r3, e3))).2)) := by
    show _ = _
    simp only [messageB, List.drop_one, List.tail_cons, HS1.out, HS2.out, HS3.out]
    rfl
  clear HS1 HS2 HS3
  have g5 : w3.cell? ⟨w.heap.size + 2, 0, none⟩ = some (.int .i64 e3) := by
    obtain ⟨⟨b', o', cap', hr, he, _⟩, _⟩ := hm3
    have := he.cell 0
    simpa using this
  have f5 : w3.frozen? ⟨w.heap.size + 2, 0, none⟩ = false := by
    obtain ⟨⟨b', o', cap', hr, he, _⟩, _⟩ := hm3
    exact he.free 0
  by_cases hbad : e3 = 0 ∧ (n3 < 0 ∨ 4 < n3)
  · have HF : Hid (messageB (c :: t) = ((((c : Nat) : Int), n1, n2, []), 5)) := by
      show _ = _
      rw [HM.out]
      have e5 : many5 (n3, r3, e3) = 5 := by unfold many5; exact if_pos hbad
      rw [e5, partsGo_stop _ _ _ (by show ¬ (5 : Int) = 0; omega)]
      rfl
    obtain ⟨he3, hn3⟩ := hbad
    subst he3
    clear HM
    rcases hn3 with hn3 | hn3
    · have hn0 : ¬ (0 : Int) < n3 := by omega
      go_wp2
      go_loopw [9] (fun i w' => i = .int .i64 0 ∧ w' = w3.setCell ⟨w.heap.size + 2, 0, none⟩ (.int .i64 5)) (fun _ _ => 0)
      case atStart => exact ⟨rfl, rfl⟩
      case round =>
        obtain ⟨rfl, rfl⟩ := hrel
        have hmW := hm3.err 5
        have g5 := st_err hmW.1
        simp only at g5
        have hoW : OwnP (w3.setCell ⟨w.heap.size + 2, 0, none⟩ (.int .i64 5)) (w.heap.size + 4) (.slice none 0 0) [] := World.ownsRow_nil _ _ _ _
        generalize w3.setCell ⟨w.heap.size + 2, 0, none⟩ (.int .i64 5) = W at *
        clear hm3 f5
        · go_wp2_with fail
          clear g5
          have k0 := hmW.2.1.cell 0
          have k1 := hmW.2.1.cell 1
          have k2 := hmW.2.1.cell 2
          have k3 := hmW.2.1.cell 3
          have z0 := hmW.2.2.1.free 0
          have z1 := hmW.2.2.1.free 1
          have z2 := hmW.2.2.1.free 2
          have z3 := hmW.2.2.1.free 3
          have y0 := hmW.2.2.1.cell 0
          have y1 := hmW.2.2.1.cell 1
          have y2 := hmW.2.2.1.cell 2
          have y3 := hmW.2.2.1.cell 3
          have g5 := st_err hmW.1
          simp at k0 k1 k2 k3 y0 y1 y2 y3 g5
          go_region
          have hfin := fin_blk (d := n1) (h := n2) (v := .slice none 0 0) hmW hoW
          clear k0 k1 k2 k3 z0 z1 z2 z3 y0 y1 y2 y3 g5 hmW hoW
          generalize ((((W.setCell ⟨w.heap.size, 0, none⟩ (.int .i64 (c : Nat))).setCell ⟨w.heap.size, 1, none⟩ (.int .i64 n1)).setCell ⟨w.heap.size, 2, none⟩ (.int .i64 n2)).setCell ⟨w.heap.size, 3, none⟩ (.slice none 0 0)).drew = X at *
          obtain ⟨k0, k1, k2, k3, hoX, hbX⟩ := hfin
          go_wp2
          refine bodyPost_ret (v := .tuple #[.agg #[.int .i64 (c : Nat), .int .i64 n1, .int .i64 n2, .slice none 0 0], .int .i64 5]) ?_ rfl ⟨.slice none 0 0, by rw [HF.out], by rw [HF.out]; exact hoX, hbX⟩
          simp [results, Try.results67, go_sem, *]
    · have hn0 : (0 : Int) < n3 := by omega
      have hn1 : ¬ n3 < 0 := by omega
      go_wp2
      go_loopw [9] (fun i w' => i = .int .i64 0 ∧ w' = w3.setCell ⟨w.heap.size + 2, 0, none⟩ (.int .i64 5)) (fun _ _ => 0)
      case atStart => exact ⟨rfl, rfl⟩
      case round =>
        obtain ⟨rfl, rfl⟩ := hrel
        have hmW := hm3.err 5
        have g5 := st_err hmW.1
        simp only at g5
        have hoW : OwnP (w3.setCell ⟨w.heap.size + 2, 0, none⟩ (.int .i64 5)) (w.heap.size + 4) (.slice none 0 0) [] := World.ownsRow_nil _ _ _ _
        generalize w3.setCell ⟨w.heap.size + 2, 0, none⟩ (.int .i64 5) = W at *
        clear hm3 f5
        · go_wp2_with fail
          clear g5
          have k0 := hmW.2.1.cell 0
          have k1 := hmW.2.1.cell 1
          have k2 := hmW.2.1.cell 2
          have k3 := hmW.2.1.cell 3
          have z0 := hmW.2.2.1.free 0
          have z1 := hmW.2.2.1.free 1
          have z2 := hmW.2.2.1.free 2
          have z3 := hmW.2.2.1.free 3
          have y0 := hmW.2.2.1.cell 0
          have y1 := hmW.2.2.1.cell 1
          have y2 := hmW.2.2.1.cell 2
          have y3 := hmW.2.2.1.cell 3
          have g5 := st_err hmW.1
          simp at k0 k1 k2 k3 y0 y1 y2 y3 g5
          go_region
          have hfin := fin_blk (d := n1) (h := n2) (v := .slice none 0 0) hmW hoW
          clear k0 k1 k2 k3 z0 z1 z2 z3 y0 y1 y2 y3 g5 hmW hoW
          generalize ((((W.setCell ⟨w.heap.size, 0, none⟩ (.int .i64 (c : Nat))).setCell ⟨w.heap.size, 1, none⟩ (.int .i64 n1)).setCell ⟨w.heap.size, 2, none⟩ (.int .i64 n2)).setCell ⟨w.heap.size, 3, none⟩ (.slice none 0 0)).drew = X at *
          obtain ⟨k0, k1, k2, k3, hoX, hbX⟩ := hfin
          go_wp2
          refine bodyPost_ret (v := .tuple #[.agg #[.int .i64 (c : Nat), .int .i64 n1, .int .i64 n2, .slice none 0 0], .int .i64 5]) ?_ rfl ⟨.slice none 0 0, by rw [HF.out], by rw [HF.out]; exact hoX, hbX⟩
          simp [results, Try.results67, go_sem, *]
  by_cases he3 : e3 = 0
  case neg =>
    have HF : Hid (messageB (c :: t) = ((((c : Nat) : Int), n1, n2, []), e3)) := by
      show _ = _
      rw [HM.out]
      have e5 : many5 (n3, r3, e3) = e3 := by unfold many5; exact if_neg hbad
      rw [e5, partsGo_stop _ _ _ he3]
      have : left2 (r3, e3) = e3 := by unfold left2; exact if_neg (fun h => he3 h.1)
      rw [this]
    clear HM hbad
    by_cases hn0 : (0 : Int) < n3
    · skip
      go_wp2
      go_loopw [9] (fun i w' => i = .int .i64 0 ∧ w' = w3) (fun _ _ => 0)
      case atStart => exact ⟨rfl, rfl⟩
      case round =>
        obtain ⟨rfl, rfl⟩ := hrel
        have hmW := hm3
        have g5 := st_err hmW.1
        simp only at g5
        have hoW : OwnP wr (w.heap.size + 4) (.slice none 0 0) [] := World.ownsRow_nil _ _ _ _
        clear hm3 f5
        generalize wr = W at *
        · go_wp2_with fail
          clear g5
          have k0 := hmW.2.1.cell 0
          have k1 := hmW.2.1.cell 1
          have k2 := hmW.2.1.cell 2
          have k3 := hmW.2.1.cell 3
          have z0 := hmW.2.2.1.free 0
          have z1 := hmW.2.2.1.free 1
          have z2 := hmW.2.2.1.free 2
          have z3 := hmW.2.2.1.free 3
          have y0 := hmW.2.2.1.cell 0
          have y1 := hmW.2.2.1.cell 1
          have y2 := hmW.2.2.1.cell 2
          have y3 := hmW.2.2.1.cell 3
          have g5 := st_err hmW.1
          simp at k0 k1 k2 k3 y0 y1 y2 y3 g5
          go_region
          have hfin := fin_blk (d := n1) (h := n2) (v := .slice none 0 0) hmW hoW
          clear k0 k1 k2 k3 z0 z1 z2 z3 y0 y1 y2 y3 g5 hmW hoW
          generalize ((((W.setCell ⟨w.heap.size, 0, none⟩ (.int .i64 (c : Nat))).setCell ⟨w.heap.size, 1, none⟩ (.int .i64 n1)).setCell ⟨w.heap.size, 2, none⟩ (.int .i64 n2)).setCell ⟨w.heap.size, 3, none⟩ (.slice none 0 0)).drew = X at *
          obtain ⟨k0, k1, k2, k3, hoX, hbX⟩ := hfin
          go_wp2
          refine bodyPost_ret (v := .tuple #[.agg #[.int .i64 (c : Nat), .int .i64 n1, .int .i64 n2, .slice none 0 0], .int .i64 e3]) ?_ rfl ⟨.slice none 0 0, by rw [HF.out], by rw [HF.out]; exact hoX, hbX⟩
          simp [results, Try.results67, go_sem, *]
    · skip
      go_wp2
      go_loopw [9] (fun i w' => i = .int .i64 0 ∧ w' = w3) (fun _ _ => 0)
      case atStart => exact ⟨rfl, rfl⟩
      case round =>
        obtain ⟨rfl, rfl⟩ := hrel
        have hmW := hm3
        have g5 := st_err hmW.1
        simp only at g5
        have hoW : OwnP wr (w.heap.size + 4) (.slice none 0 0) [] := World.ownsRow_nil _ _ _ _
        clear hm3 f5
        generalize wr = W at *
        · go_wp2_with fail
          clear g5
          have k0 := hmW.2.1.cell 0
          have k1 := hmW.2.1.cell 1
          have k2 := hmW.2.1.cell 2
          have k3 := hmW.2.1.cell 3
          have z0 := hmW.2.2.1.free 0
          have z1 := hmW.2.2.1.free 1
          have z2 := hmW.2.2.1.free 2
          have z3 := hmW.2.2.1.free 3
          have y0 := hmW.2.2.1.cell 0
          have y1 := hmW.2.2.1.cell 1
          have y2 := hmW.2.2.1.cell 2
          have y3 := hmW.2.2.1.cell 3
          have g5 := st_err hmW.1
          simp at k0 k1 k2 k3 y0 y1 y2 y3 g5
          go_region
          have hfin := fin_blk (d := n1) (h := n2) (v := .slice none 0 0) hmW hoW
          clear k0 k1 k2 k3 z0 z1 z2 z3 y0 y1 y2 y3 g5 hmW hoW
          generalize ((((W.setCell ⟨w.heap.size, 0, none⟩ (.int .i64 (c : Nat))).setCell ⟨w.heap.size, 1, none⟩ (.int .i64 n1)).setCell ⟨w.heap.size, 2, none⟩ (.int .i64 n2)).setCell ⟨w.heap.size, 3, none⟩ (.slice none 0 0)).drew = X at *
          obtain ⟨k0, k1, k2, k3, hoX, hbX⟩ := hfin
          go_wp2
          refine bodyPost_ret (v := .tuple #[.agg #[.int .i64 (c : Nat), .int .i64 n1, .int .i64 n2, .slice none 0 0], .int .i64 e3]) ?_ rfl ⟨.slice none 0 0, by rw [HF.out], by rw [HF.out]; exact hoX, hbX⟩
          simp [results, Try.results67, go_sem, *]
  subst he3
  obtain ⟨m, rfl⟩ : ∃ m : Nat, n3 = m := ⟨n3.toNat, by omega⟩
  have hm4 : m ≤ 4 := by omega
  have HM' : Hid (messageB (c :: t) = ((((c : Nat) : Int), n1, n2, (partsGo n2 m (r3, 0)).1), left2 (partsGo n2 m (r3, 0)).2)) := by
    show _ = _
    rw [HM.out]
    have e5 : many5 ((m : Int), r3, 0) = 0 := by unfold many5; exact if_neg hbad
    rw [e5, Int.toNat_natCast]
  clear HM hbad
  go_wp2
  go_loopw [9] (fun i w' => ∃ (j : Nat) (st : List Nat × Int) (acc : List P3) (v : Value), i = .int .i64 j ∧ j ≤ m ∧ MsgAt w w' w.heap.size st c n1 n2 v ∧ OwnP w' (w.heap.size + 4) v acc ∧ acc.length = j ∧ w.heap.size + 4 ≤ w'.heap.size ∧ Hid (partsGo n2 m (r3, 0) = (acc ++ (partsGo n2 (m - j) st).1, (partsGo n2 (m - j) st).2))) (fun i _ => m - (intOf i).toNat)
  case atStart => exact ⟨0, (r3, 0), [], .slice none 0 0, rfl, Nat.zero_le _, hm3, World.ownsRow_nil _ _ _ _, rfl, by omega, by show _ = _; simp⟩
  case round =>
    obtain ⟨j, ⟨r, x⟩, acc, v, rfl, hjm, hmr, hown, hacc, hszr, HP⟩ := hrel
    clear g5 f5 hm3 hs0 hs1 hs2 hs3
    have g5 : wr.cell? ⟨w.heap.size + 2, 0, none⟩ = some (.int .i64 x) := by
      obtain ⟨⟨b', o', cap', hr, he, _⟩, _⟩ := hmr
      have := he.cell 0
      simpa using this
    by_cases hgo : j < m ∧ x = 0
    · obtain ⟨hjlt, rfl⟩ := hgo
      have k2 := hmr.2.1.cell 2
      simp at k2
      have hnot : ∀ q, v.ownBlock = some q → w.heap.size + 4 ≤ q ∧ q < wr.heap.size := fun q hq => hown.block hq
      go_wp2_with fail
      have hmA : MsgAt w (wr.alloc (.cells #[.int .i64 n2, .int .i64 0, .int .i64 0] 65)) w.heap.size (r, 0) c n1 n2 v := hmr.keep ((Keep.refl (fun _ => False) wr).alloc _) (fun _ h => h.elim)
      have hbA : Blk (wr.alloc (.cells #[.int .i64 n2, .int .i64 0, .int .i64 0] 65)) wr.heap.size #[.int .i64 n2, .int .i64 0, .int .i64 0] 65 := Blk.new _ _ _
      have hoA : OwnP (wr.alloc (.cells #[.int .i64 n2, .int .i64 0, .int .i64 0] 65)) (w.heap.size + 4) v acc := hown.below (below1 wr _) (Nat.le_refl _)
      clear g5 k2 hmr hown
      refine (take_any _ _ _ _ hmA.1).mono ?_
      rintro e w4 ⟨rfl, hst4, hk4⟩
      have hm4' := hmA.take hst4 hk4
      have hb4 := hbA.keep hk4 (by unfold Two; omega)
      have ho4 := hoA.keep hk4 (fun q hq _ => by unfold Two; omega)
      obtain ⟨⟨a1, st4⟩, HS4⟩ : ∃ x, Hid (stepB (r, 0) = x) := ⟨_, rfl⟩
      rw [HS4.out] at hm4'
      rw [HS4.out]
      have f1 := hb4.free 1
      have g1 := hb4.cell 1
      simp at g1
      clear hst4 hk4 hmA hbA hoA
      go_wp2_with fail
      have hk5 : Keep (fun q => q = wr.heap.size) w4 (w4.setCell ⟨wr.heap.size, 1, none⟩ (.int .i64 a1)) := (Keep.refl (fun q => q = wr.heap.size) w4).setCell rfl _
      have hm5 := hm4'.keep hk5 (fun q hq => by omega)
      have hb5 : Blk (w4.setCell ⟨wr.heap.size, 1, none⟩ (.int .i64 a1)) wr.heap.size #[.int .i64 n2, .int .i64 a1, .int .i64 0] 65 := hb4.set 1 _
      have ho5 := ho4.keep hk5 (fun q _ hq => by have := hnot q hq; omega)
      clear hk5 hm4' hb4 ho4 f1 g1
      refine (take_any _ _ _ _ hm5.1).mono ?_
      rintro e w6 ⟨rfl, hst6, hk6⟩
      have hm6 := hm5.take hst6 hk6
      have hb6 := hb5.keep hk6 (by unfold Two; omega)
      have ho6 := ho5.keep hk6 (fun q hq _ => by unfold Two; omega)
      obtain ⟨⟨a2, st6⟩, HS6⟩ : ∃ x, Hid (stepB st4 = x) := ⟨_, rfl⟩
      rw [HS6.out] at hm6
      rw [HS6.out]
      clear hst6 hk6 hm5 hb5 ho5
      have hk7 : Keep (fun q => q = wr.heap.size) w6 (w6.setCell ⟨wr.heap.size, 2, none⟩ (.int .i64 a2)) := (Keep.refl (fun q => q = wr.heap.size) w6).setCell rfl _
      have hm7 := hm6.keep hk7 (fun q hq => by omega)
      have hb7 : Blk (w6.setCell ⟨wr.heap.size, 2, none⟩ (.int .i64 a2)) wr.heap.size #[.int .i64 n2, .int .i64 a1, .int .i64 a2] 65 := hb6.set 2 _
      have ho7 := ho6.keep hk7 (fun q _ hq => by have := hnot q hq; omega)
      have f1 := hb6.free 2
      have g1 := hb6.cell 2
      have g2 := hm7.2.1.cell 3
      have g3 := hb7.cell 0
      have g4 := hb7.cell 1
      have g6 := hb7.cell 2
      simp at g1 g2 g3 g4 g6
      have hsz7 := hb7.lt
      clear hk7 hm6 hb6 ho6
      have ho8 : OwnP ((w6.setCell ⟨wr.heap.size, 2, none⟩ (.int .i64 a2)).alloc (.cells #[.int .i64 n2, .int .i64 a1, .int .i64 a2] 65)) (w.heap.size + 4) v acc := ho7.below (below1 _ _) (Nat.le_refl _)
      have hm8 : MsgAt w ((w6.setCell ⟨wr.heap.size, 2, none⟩ (.int .i64 a2)).alloc (.cells #[.int .i64 n2, .int .i64 a1, .int .i64 a2] 65)) w.heap.size st6 c n1 n2 v := hm7.keep ((Keep.refl (fun _ => False) _).alloc _) (fun _ h => h.elim)
      have HH : Hid (((w6.setCell ⟨wr.heap.size, 2, none⟩ (.int .i64 a2)).alloc (.cells #[.int .i64 n2, .int .i64 a1, .int .i64 a2] 65)).heap[w6.heap.size]? = some (.cells #[.int .i64 n2, .int .i64 a1, .int .i64 a2] 65)) := by
        have := heap_alloc_new (w6.setCell ⟨wr.heap.size, 2, none⟩ (.int .i64 a2)) (.cells #[.int .i64 n2, .int .i64 a1, .int .i64 a2] 65)
        rw [show (w6.setCell ⟨wr.heap.size, 2, none⟩ (.int .i64 a2)).heap.size = w6.heap.size by simp [World.setCell]] at this
        exact this
      have HZ : Hid (w.heap.size + 4 ≤ ((w6.setCell ⟨wr.heap.size, 2, none⟩ (.int .i64 a2)).alloc (.cells #[.int .i64 n2, .int .i64 a1, .int .i64 a2] 65)).heap.size) := by
        show _ ≤ _
        rw [World.size_alloc]; omega
      go_wp2_with (at_builtin; refine wpList_append_part _ rfl _ _ rfl (w.heap.size + 4) v acc rfl ho8 w6.heap.size (n2, a1, a2) rfl (by exact HH.out) (by omega) (by exact HZ.out) ?_; intro g cap' w9 ho9 hgrow hat hlt9; have hm9 := hm8.keep (Keep.ofGrown (R := fun q => w.heap.size + 4 ≤ q) hgrow (fun q hq => (hnot q hq).1)) (fun q hq => hq); have f9 := hm9.2.1.free 3; have g9 := hm9.2.1.cell 3; simp at g9; clear g1 g2 g3 g4 g6 f1 hm7 hm8 ho7 ho8 hb7)
      go_roundw
      case rel =>
        rw [hacc] at ho9
        have hm10 := hm9.put 3 (.slice (some ⟨g, 0, none⟩) (j + 1) cap') rfl
        have hk10 : Keep (fun q => q = w.heap.size + 3) w9 (w9.setCell ⟨w.heap.size + 3, 3, none⟩ (.slice (some ⟨g, 0, none⟩) (j + 1) cap')) := (Keep.refl (fun q => q = w.heap.size + 3) w9).setCell rfl _
        refine ⟨j + 1, st6, acc ++ [(n2, a1, a2)], _, by go_num, by omega, hm10, ho9.keep hk10 (fun q hq _ h => by have h : q = w.heap.size + 3 := h; omega), by simp; omega, ?_, ?_⟩
        · have := hgrow.size; have := hk10.size; simp [World.setCell] at *; omega
        · show _ = _
          rw [HP.out, show m - j = (m - (j + 1)) + 1 by omega, partsGo_go _ _ _ rfl, HS4.out, HS6.out]
          simp
      case measure => simp [intOf]; omega
    · have hx : x = 0 → m ≤ j := fun h => by rcases Nat.lt_or_ge j m with h' | h'; exact absurd ⟨h', h⟩ hgo; exact h'
      have HP' : Hid (partsGo n2 m (r3, 0) = (acc, r, x)) := by
        show _ = _
        rw [HP.out]
        by_cases h : x = 0
        · rw [show m - j = 0 by have := hx h; omega]; simp [partsGo]
        · rw [partsGo_stop _ _ _ h]; simp
      clear HP
      obtain ⟨av, cv, rfl⟩ := hown.slice
      rw [hacc] at hmr hown
      have f5 : wr.frozen? ⟨w.heap.size + 2, 0, none⟩ = false := by
        obtain ⟨⟨b', o', cap', hr, he, _⟩, _⟩ := hmr
        exact he.free 0
      obtain ⟨b', o', cap', g6⟩ : ∃ b' o' cap', wr.cell? ⟨w.heap.size + 1, 0, none⟩ = some (.slice (some ⟨b', o', none⟩) r.length cap') := by
        obtain ⟨⟨b', o', cap', hr, he, _⟩, _⟩ := hmr
        have := hr.cell 0
        exact ⟨b', o', cap', by simpa using this⟩
      by_cases hx0 : x = 0
      · have hmj := hx hx0
        subst hx0
        by_cases hr0 : 0 < r.length
        · have HF : Hid (messageB (c :: t) = ((((c : Nat) : Int), n1, n2, acc), 2)) := by
            show _ = _
            rw [HM'.out, HP'.out]
            have : left2 (r, 0) = 2 := by unfold left2; exact if_pos ⟨rfl, hr0⟩
            rw [this]
          go_wp2_with fail
          have hmW := hmr.err 2
          have hoW := hown.keep ((Keep.refl (fun q => q = w.heap.size + 2) wr).setCell (p := ⟨w.heap.size + 2, 0, none⟩) rfl (.int .i64 2)) (fun q hq _ h => by have h : q = w.heap.size + 2 := h; omega)
          clear hmr hown g5 g6 f5 HP' HM'
          generalize wr.setCell ⟨w.heap.size + 2, 0, none⟩ (.int .i64 2) = W at *
          have k0 := hmW.2.1.cell 0
          have k1 := hmW.2.1.cell 1
          have k2 := hmW.2.1.cell 2
          have k3 := hmW.2.1.cell 3
          have z0 := hmW.2.2.1.free 0
          have z1 := hmW.2.2.1.free 1
          have z2 := hmW.2.2.1.free 2
          have z3 := hmW.2.2.1.free 3
          have y0 := hmW.2.2.1.cell 0
          have y1 := hmW.2.2.1.cell 1
          have y2 := hmW.2.2.1.cell 2
          have y3 := hmW.2.2.1.cell 3
          have g5 := st_err hmW.1
          simp at k0 k1 k2 k3 y0 y1 y2 y3 g5
          go_region
          have hfin := fin_blk (d := n1) (h := n2) (v := .slice av j cv) hmW hoW
          clear k0 k1 k2 k3 z0 z1 z2 z3 y0 y1 y2 y3 g5 hmW hoW
          generalize ((((W.setCell ⟨w.heap.size, 0, none⟩ (.int .i64 (c : Nat))).setCell ⟨w.heap.size, 1, none⟩ (.int .i64 n1)).setCell ⟨w.heap.size, 2, none⟩ (.int .i64 n2)).setCell ⟨w.heap.size, 3, none⟩ (.slice av j cv)).drew = X at *
          obtain ⟨k0, k1, k2, k3, hoX, hbX⟩ := hfin
          go_wp2
          refine bodyPost_ret (v := .tuple #[.agg #[.int .i64 (c : Nat), .int .i64 n1, .int .i64 n2, .slice av j cv], .int .i64 2]) ?_ rfl ⟨.slice av j cv, by rw [HF.out], by rw [HF.out]; exact hoX, hbX⟩
          simp [results, Try.results67, go_sem, *]
        · have HF : Hid (messageB (c :: t) = ((((c : Nat) : Int), n1, n2, acc), 0)) := by
            show _ = _
            rw [HM'.out, HP'.out]
            have : left2 (r, 0) = 0 := by unfold left2; exact if_neg (fun h => hr0 h.2)
            rw [this]
          go_wp2_with fail
          have hmW := hmr
          have hoW := hown
          clear hmr hown g5 g6 f5 HP' HM'
          generalize wr = W at *
          have k0 := hmW.2.1.cell 0
          have k1 := hmW.2.1.cell 1
          have k2 := hmW.2.1.cell 2
          have k3 := hmW.2.1.cell 3
          have z0 := hmW.2.2.1.free 0
          have z1 := hmW.2.2.1.free 1
          have z2 := hmW.2.2.1.free 2
          have z3 := hmW.2.2.1.free 3
          have y0 := hmW.2.2.1.cell 0
          have y1 := hmW.2.2.1.cell 1
          have y2 := hmW.2.2.1.cell 2
          have y3 := hmW.2.2.1.cell 3
          have g5 := st_err hmW.1
          simp at k0 k1 k2 k3 y0 y1 y2 y3 g5
          go_region
          have hfin := fin_blk (d := n1) (h := n2) (v := .slice av j cv) hmW hoW
          clear k0 k1 k2 k3 z0 z1 z2 z3 y0 y1 y2 y3 g5 hmW hoW
          generalize ((((W.setCell ⟨w.heap.size, 0, none⟩ (.int .i64 (c : Nat))).setCell ⟨w.heap.size, 1, none⟩ (.int .i64 n1)).setCell ⟨w.heap.size, 2, none⟩ (.int .i64 n2)).setCell ⟨w.heap.size, 3, none⟩ (.slice av j cv)).drew = X at *
          obtain ⟨k0, k1, k2, k3, hoX, hbX⟩ := hfin
          go_wp2
          refine bodyPost_ret (v := .tuple #[.agg #[.int .i64 (c : Nat), .int .i64 n1, .int .i64 n2, .slice av j cv], .int .i64 0]) ?_ rfl ⟨.slice av j cv, by rw [HF.out], by rw [HF.out]; exact hoX, hbX⟩
          simp [results, Try.results67, go_sem, *]
      · have HF : Hid (messageB (c :: t) = ((((c : Nat) : Int), n1, n2, acc), x)) := by
          show _ = _
          rw [HM'.out, HP'.out]
          have : left2 (r, x) = x := by unfold left2; exact if_neg (fun h => hx0 h.1)
          rw [this]
        by_cases hjm2 : (j : Int) < (m : Int)
        · go_wp2_with fail
          have hmW := hmr
          have hoW := hown
          clear hmr hown g5 g6 f5 HP' HM'
          generalize wr = W at *
          have k0 := hmW.2.1.cell 0
          have k1 := hmW.2.1.cell 1
          have k2 := hmW.2.1.cell 2
          have k3 := hmW.2.1.cell 3
          have z0 := hmW.2.2.1.free 0
          have z1 := hmW.2.2.1.free 1
          have z2 := hmW.2.2.1.free 2
          have z3 := hmW.2.2.1.free 3
          have y0 := hmW.2.2.1.cell 0
          have y1 := hmW.2.2.1.cell 1
          have y2 := hmW.2.2.1.cell 2
          have y3 := hmW.2.2.1.cell 3
          have g5 := st_err hmW.1
          simp at k0 k1 k2 k3 y0 y1 y2 y3 g5
          go_region
          have hfin := fin_blk (d := n1) (h := n2) (v := .slice av j cv) hmW hoW
          clear k0 k1 k2 k3 z0 z1 z2 z3 y0 y1 y2 y3 g5 hmW hoW
          generalize ((((W.setCell ⟨w.heap.size, 0, none⟩ (.int .i64 (c : Nat))).setCell ⟨w.heap.size, 1, none⟩ (.int .i64 n1)).setCell ⟨w.heap.size, 2, none⟩ (.int .i64 n2)).setCell ⟨w.heap.size, 3, none⟩ (.slice av j cv)).drew = X at *
          obtain ⟨k0, k1, k2, k3, hoX, hbX⟩ := hfin
          go_wp2
          refine bodyPost_ret (v := .tuple #[.agg #[.int .i64 (c : Nat), .int .i64 n1, .int .i64 n2, .slice av j cv], .int .i64 x]) ?_ rfl ⟨.slice av j cv, by rw [HF.out], by rw [HF.out]; exact hoX, hbX⟩
          simp [results, Try.results67, go_sem, *]
        · go_wp2_with fail
          have hmW := hmr
          have hoW := hown
          clear hmr hown g5 g6 f5 HP' HM'
          generalize wr = W at *
          have k0 := hmW.2.1.cell 0
          have k1 := hmW.2.1.cell 1
          have k2 := hmW.2.1.cell 2
          have k3 := hmW.2.1.cell 3
          have z0 := hmW.2.2.1.free 0
          have z1 := hmW.2.2.1.free 1
          have z2 := hmW.2.2.1.free 2
          have z3 := hmW.2.2.1.free 3
          have y0 := hmW.2.2.1.cell 0
          have y1 := hmW.2.2.1.cell 1
          have y2 := hmW.2.2.1.cell 2
          have y3 := hmW.2.2.1.cell 3
          have g5 := st_err hmW.1
          simp at k0 k1 k2 k3 y0 y1 y2 y3 g5
          go_region
          have hfin := fin_blk (d := n1) (h := n2) (v := .slice av j cv) hmW hoW
          clear k0 k1 k2 k3 z0 z1 z2 z3 y0 y1 y2 y3 g5 hmW hoW
          generalize ((((W.setCell ⟨w.heap.size, 0, none⟩ (.int .i64 (c : Nat))).setCell ⟨w.heap.size, 1, none⟩ (.int .i64 n1)).setCell ⟨w.heap.size, 2, none⟩ (.int .i64 n2)).setCell ⟨w.heap.size, 3, none⟩ (.slice av j cv)).drew = X at *
          obtain ⟨k0, k1, k2, k3, hoX, hbX⟩ := hfin
          go_wp2
          refine bodyPost_ret (v := .tuple #[.agg #[.int .i64 (c : Nat), .int .i64 n1, .int .i64 n2, .slice av j cv], .int .i64 x]) ?_ rfl ⟨.slice av j cv, by rw [HF.out], by rw [HF.out]; exact hoX, hbX⟩
          simp [results, Try.results67, go_sem, *]

end Go.Proofs.Ytmjekpdgmdpndaa
