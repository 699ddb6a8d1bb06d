/- What the laws of chapter 3 that stand without the document's answer come to. -/
import Derived.Test.YtkmohigbedocgabDoorText4
import Derived.Test.YtkmohigbedocgabDoorRef1
import Derived.Test.YtkmohigbedocgabDoorSame
namespace Go.Proofs.YtkmohigbedocgabDoor
open Go.RowKit

def aliveT : List UInt8 := [48, 46, 49, 45, 53, 32, 50, 46, 51, 43, 53]
theorem alive_print : printB [(0, 1, -5), (2, 3, 5)] = aliveT := by
  simp only [printB, List.map_cons, List.map_nil, join_cons2, Lib.join_one]
  rw [word_eq (by decide), word_eq (by decide)]
  simp only [Lib.decDigits_one (show Int.natAbs (-5) < 10 by decide), Lib.decDigits_one (show Int.natAbs 5 < 10 by decide)]
  rfl
theorem alive_parse : parseB aliveT = (0, [(0, 1, -5), (2, 3, 5)]) := by
  rw [← alive_print]
  exact parse_print (by rfl)

set_option maxRecDepth 20000 in
set_option maxHeartbeats 1000000 in
theorem alive_any (w : World) (ht : Tab w) (he : Errs w) : Calls Tryd.prog 5 #[] w fun e w' => e = .returned (.bool true) ∧ Below w.heap.size w w' := by
  have HP := parse_any ⟨aliveT.toArray⟩ w (by decide) ht he
  rw [alive_parse] at HP
  have hpr := print_parse alive_parse
  go_enter Tryd.func5, Tryd.ntmps5
  go_wp2_with fail
  refine Calls.mono HP ?_
  rintro e w1 ⟨v, rfl, hown, hb⟩
  obtain ⟨a, cap, rfl, hp, hcap⟩ := hown.parts
  have hq := print_any a _ cap _ w1 rfl hpr.2 hp (ht.on hb)
  rw [hpr.1] at hq
  rcases hp with h0 | ⟨b, o, rfl, hlt, hc⟩
  · cases h0
  obtain ⟨_, _, d0⟩ := hc 0 (by decide)
  simp at d0
  clear hc hown
  simp only [parseV]
  go_wp2_with fail
  refine hq.mono ?_
  rintro e w2 ⟨rfl, hb2⟩
  go_wp2
  go_ret
  exact ⟨ret_bool rfl, hb.trans (hb2.mono hb.size)⟩

set_option maxRecDepth 20000 in
set_option maxHeartbeats 1000000 in
theorem unlike_any (a1 a2 : Option Addr) (l1 l2 : List P3) (c1 c2 : Nat) (w : World) (hl1 : l1.length ≤ 9223372036854775807) (hl2 : l2.length ≤ 9223372036854775807) (hp1 : PartsAt w a1 l1) (hp2 : PartsAt w a2 l2) (ht : Tab w) (he : Errs w) :
    Calls Tryd.prog 3 #[.slice a1 l1.length c1, .slice a2 l2.length c2] w fun e w' => e = .returned (.bool true) ∧ Below w.heap.size w w' := by
  go_enter Tryd.func3, Tryd.ntmps3
  go_wp2_with fail
  refine (alive_any w ht he).mono ?_
  rintro e w1 ⟨rfl, hb1⟩
  replace hp1 := hp1.below hb1
  replace hp2 := hp2.below hb1
  replace ht := ht.on hb1
  go_wp2_with fail
  refine (wrongParts_any a1 l1 c1 _ 3 w1 rfl hl1 hp1 (by omega)).mono ?_
  rintro e w2 ⟨rfl, hb2⟩
  replace hp1 := hp1.below hb2
  replace hp2 := hp2.below hb2
  replace ht := ht.on hb2
  have hB2 : Below w.heap.size w w2 := hb1.trans (hb2.mono hb1.size)
  by_cases h1 : wrong l1 3 = 0
  · rw [h1]
    go_wp2_with fail
    refine (wrongParts_any a2 l2 c2 _ 3 w2 rfl hl2 hp2 (by omega)).mono ?_
    rintro e w3 ⟨rfl, hb3⟩
    replace hp1 := hp1.below hb3
    replace hp2 := hp2.below hb3
    replace ht := ht.on hb3
    have hB3 : Below w.heap.size w w3 := hB2.trans (hb3.mono hB2.size)
    by_cases h2 : wrong l2 3 = 0
    · rw [h2]
      obtain ⟨_, h14, _⟩ := wrong_right h1
      obtain ⟨_, h24, _⟩ := wrong_right h2
      have HI : Hid ((printB l1 == printB l2) = decide (l1 = l2)) := by
        show _ = _
        rw [Bool.eq_iff_iff]
        simp only [beq_iff_eq, decide_eq_true_eq]
        exact print_inj h1 h2
      go_wp2_with fail
      refine (print_any a1 l1 c1 _ w3 rfl h1 hp1 ht).mono ?_
      rintro e w4 ⟨rfl, hb4⟩
      replace hp1 := hp1.below hb4
      replace hp2 := hp2.below hb4
      replace ht := ht.on hb4
      have hB4 : Below w.heap.size w w4 := hB3.trans (hb4.mono hB3.size)
      go_wp2_with fail
      refine (print_any a2 l2 c2 _ w4 rfl h2 hp2 ht).mono ?_
      rintro e w5 ⟨rfl, hb5⟩
      replace hp1 := hp1.below hb5
      replace hp2 := hp2.below hb5
      have hB5 : Below w.heap.size w w5 := hB4.trans (hb5.mono hB4.size)
      generalize printB l1 = p1 at *
      generalize printB l2 = p2 at *
      go_wp2_with fail
      refine (sameParts_any a1 a2 l1 l2 c1 c2 _ _ w5 rfl rfl (by omega) (by omega) hp1 hp2).mono ?_
      rintro e w6 ⟨rfl, hb6⟩
      have hB6 : Below w.heap.size w w6 := hB5.trans (hb6.mono hB5.size)
      rw [← HI.out]
      go_wp2
      all_goals
        go_ret
        exact ⟨ret_bool (by simp), hB6⟩
    · generalize wrong l2 3 = y at *
      have hd : (y != 0) = true := by simpa using h2
      go_wp2
      go_ret
      exact ⟨rfl, hB3⟩
  · generalize wrong l1 3 = y at *
    have hd : (y != 0) = true := by simpa using h1
    go_wp2
    go_ret
    exact ⟨rfl, hB2⟩

set_option maxRecDepth 20000 in
set_option maxHeartbeats 1000000 in
theorem turns_any (s : ByteArray) (a : Option Addr) (l : List P3) (c : Nat) (w : World) (hs : s.size ≤ 281474976710656) (hl : l.length ≤ 9223372036854775807) (hp : PartsAt w a l) (ht : Tab w) (her : Errs w) :
    Calls Tryd.prog 4 #[.string s, .slice a l.length c] w fun e w' => e = .returned (.bool true) ∧ Below w.heap.size w w' := by
  have fin : ∀ (e : Int) (m : List P3), parseB s.data.toList = (e, m) → e = 0 → printB m = s.data.toList ∧ wrong m 3 = 0 := fun e m h h0 => print_parse (by rw [h, h0])
  have FIN := Any.hidJ fin
  clear fin
  go_enter Tryd.func4, Tryd.ntmps4
  go_wp2_with fail
  refine (alive_any w ht her).mono ?_
  rintro e w1 ⟨rfl, hb1⟩
  replace hp := hp.below hb1
  replace ht := ht.on hb1
  replace her := her.on hb1
  go_wp2_with fail
  refine (wrongParts_any a l c _ 3 w1 rfl hl hp (by omega)).mono ?_
  rintro e w2 ⟨rfl, hb2⟩
  replace hp := hp.below hb2
  replace ht := ht.on hb2
  replace her := her.on hb2
  have hB2 : Below w.heap.size w w2 := hb1.trans (hb2.mono hb1.size)
  clear hb1 hb2
  by_cases h1 : wrong l 3 = 0
  · rw [h1]
    obtain ⟨_, h14, _⟩ := wrong_right h1
    have hpp := parse_print h1
    have hsh : (⟨(printB l).toArray⟩ : ByteArray).size ≤ 281474976710656 := by
      rw [Lib.size_eq]
      have := join_short 60 (l.map wordB) (fun x hx => by
        obtain ⟨p, hp, rfl⟩ := List.mem_map.1 hx
        exact word_short ((wrong_right h1).2.2 p hp))
      simp only [List.length_map] at this
      unfold printB
      show (Lib.join (l.map wordB) [32]).length ≤ _
      omega
    have HPA := fun w h1 h2 => parse_any ⟨(printB l).toArray⟩ w hsh h1 h2
    simp only [hpp] at HPA
    have HPA := Any.hidJ HPA
    go_wp2_with fail
    refine (print_any a l c _ w2 rfl h1 hp ht).mono ?_
    rintro e w3 ⟨rfl, hb3⟩
    replace hp := hp.below hb3
    replace ht := ht.on hb3
    replace her := her.on hb3
    have hB3 : Below w.heap.size w w3 := hB2.trans (hb3.mono hB2.size)
    go_wp2_with fail
    refine (HPA.out w3 ht her).mono ?_
    rintro e w4 ⟨v4, rfl, hown4, hb4⟩
    replace hp := hp.below hb4
    replace ht := ht.on hb4
    replace her := her.on hb4
    have hB4 : Below w.heap.size w w4 := hB3.trans (hb4.mono hB3.size)
    obtain ⟨a4, c4, rfl, hp4, _⟩ := hown4.parts
    simp only [parseV]
    clear HPA hpp hown4
    go_wp2_with fail
    refine (sameParts_any a a4 l l c c4 _ _ w4 rfl rfl (by omega) (by omega) hp hp4).mono ?_
    rintro e w5 ⟨rfl, hb5⟩
    replace ht := ht.on hb5
    replace her := her.on hb5
    have hB5 : Below w.heap.size w w5 := hB4.trans (hb5.mono hB4.size)
    clear hp hp4 hb3 hb4 hb5
    simp only [decide_true]
    go_wp2_with fail
    refine (parse_any s w5 hs ht her).mono ?_
    rintro e w7 ⟨v, rfl, hown, hb7⟩
    have hB7 : Below w.heap.size w w7 := hB5.trans (hb7.mono hB5.size)
    replace ht := ht.on hb7
    replace her := her.on hb7
    obtain ⟨a7, c7, rfl, hp7, _⟩ := hown.parts
    have HF := FIN.out
    clear FIN hown
    generalize parseB s.data.toList = q at *
    obtain ⟨e, m⟩ := q
    dsimp only at *
    simp only [parseV]
    by_cases he : e = 0
    · obtain ⟨h8, h9⟩ := HF e m rfl he
      subst he
      clear HF
      obtain ⟨_, m4, _⟩ := wrong_right h9
      have hpr := print_any a7 m c7 _ w7 rfl h9 hp7 ht
      rw [h8, Lib.mk_data] at hpr
      go_wp2_with fail
      refine hpr.mono ?_
      rintro e w8 ⟨rfl, hb8⟩
      have hB8 : Below w.heap.size w w8 := hB7.trans (hb8.mono hB7.size)
      go_wp2_with fail
      refine (wrongParts_any a7 m c7 _ 3 w8 rfl (by omega) (hp7.below hb8) (by omega)).mono ?_
      rintro e w9 ⟨rfl, hb9⟩
      rw [h9]
      go_wp2
      all_goals
        go_ret
        exact ⟨ret_bool (by simp), hB8.trans (hb9.mono hB8.size)⟩
    · have hd : (e != 0) = true := by simpa using he
      clear HF
      go_wp2
      go_ret
      exact ⟨rfl, hB7⟩
  · generalize wrong l 3 = y at *
    have hd0 : (y == 0) = false := by simpa using h1
    go_wp2_with fail
    refine (parse_any s w2 hs ht her).mono ?_
    rintro e w7 ⟨v, rfl, hown, hb7⟩
    have hB7 : Below w.heap.size w w7 := hB2.trans (hb7.mono hB2.size)
    replace ht := ht.on hb7
    replace her := her.on hb7
    obtain ⟨a7, c7, rfl, hp7, _⟩ := hown.parts
    have HF := FIN.out
    clear FIN hown
    generalize parseB s.data.toList = q at *
    obtain ⟨e, m⟩ := q
    dsimp only at *
    simp only [parseV]
    by_cases he : e = 0
    · obtain ⟨h8, h9⟩ := HF e m rfl he
      subst he
      clear HF
      obtain ⟨_, m4, _⟩ := wrong_right h9
      have hpr := print_any a7 m c7 _ w7 rfl h9 hp7 ht
      rw [h8, Lib.mk_data] at hpr
      go_wp2_with fail
      refine hpr.mono ?_
      rintro e w8 ⟨rfl, hb8⟩
      have hB8 : Below w.heap.size w w8 := hB7.trans (hb8.mono hB7.size)
      go_wp2_with fail
      refine (wrongParts_any a7 m c7 _ 3 w8 rfl (by omega) (hp7.below hb8) (by omega)).mono ?_
      rintro e w9 ⟨rfl, hb9⟩
      rw [h9]
      go_wp2
      all_goals
        go_ret
        exact ⟨ret_bool (by simp), hB8.trans (hb9.mono hB8.size)⟩
    · have hd : (e != 0) = true := by simpa using he
      clear HF
      go_wp2
      go_ret
      exact ⟨rfl, hB7⟩

end Go.Proofs.YtkmohigbedocgabDoor
