/- What the law that holds Print and Parse against the document's answer comes to. -/
import Derived.Test.YtkmohigbedocgaaDoorTextR3
import Derived.Test.YtkmohigbedocgaaDoorSame
namespace Go.Proofs.YtkmohigbedocgaaDoor
open Go.RowKit

set_option maxRecDepth 20000 in
set_option maxHeartbeats 1000000 in
theorem tells_any (L : List UInt8) (a : Option Addr) (l : List P3) (c : Nat) (w : World) (hs : L.length ≤ 1048576) (hl : l.length ≤ 9223372036854775807) (hp : PartsAt w a l) (ht : Tab w) (he : Errs w) (hq : parseB L = refParseB L) :
    Calls Tryd.prog 3 #[.string ⟨L.toArray⟩, .slice a l.length c] w fun e w' => e = .returned (.bool true) ∧ Below w.heap.size w w' := by
  have hr4 : (refParseB L).2.length ≤ 4 := by
    unfold refParseB
    split
    · simp
    · rename_i m _
      by_cases hw : wrong m 3 = 0
      · rw [if_pos hw]; exact (wrong_right hw).2.1
      · rw [if_neg hw]; simp
  have HPA := fun w h1 h2 => parse_any ⟨L.toArray⟩ w (by show L.length ≤ _; omega) h1 h2
  have hL : (⟨L.toArray⟩ : ByteArray).data.toList = L := by simp
  rw [hL, hq] at HPA
  have HPB := fun w h1 h2 => refParse_any L w (by omega) h1 h2
  generalize refParseB L = res at *
  obtain ⟨e, m⟩ := res
  dsimp only at *
  have HA := Any.hidJ HPA
  have HB := Any.hidJ HPB
  clear HPA HPB hq hL
  go_enter Tryd.func3, Tryd.ntmps3
  go_wp2_with fail
  refine (HA.out w ht he).mono ?_
  rintro e0 w1 ⟨v1, rfl, ho1, hb1⟩
  obtain ⟨a1, c1, rfl, hp1, _⟩ := ho1.parts
  replace hp := hp.below hb1
  replace ht := ht.on hb1
  replace he := he.on hb1
  clear ho1 HA
  simp only [parseV]
  go_wp2_with fail
  refine (HB.out w1 ht he).mono ?_
  rintro e0 w2 ⟨v2, rfl, ho2, hb2⟩
  obtain ⟨a2, c2, rfl, hp2, _⟩ := ho2.parts
  replace hp := hp.below hb2
  replace hp1 := hp1.below hb2
  replace ht := ht.on hb2
  have hB2 : Below w.heap.size w w2 := hb1.trans (hb2.mono hb1.size)
  clear ho2 HB he hb1 hb2
  simp only [parseV]
  go_wp2_with fail
  refine (sameParts_any a1 a2 m m c1 c2 _ _ w2 rfl rfl (by omega) (by omega) hp1 hp2).mono ?_
  rintro e0 w3 ⟨rfl, hb3⟩
  simp only [decide_true]
  replace hp := hp.below hb3
  replace ht := ht.on hb3
  have hB3 : Below w.heap.size w w3 := hB2.trans (hb3.mono hB2.size)
  clear hp1 hp2 hb3
  go_wp2_with fail
  refine (wrongParts_any a l c _ 3 w3 rfl hl hp (by omega)).mono ?_
  rintro e0 w4 ⟨rfl, hb4⟩
  replace hp := hp.below hb4
  replace ht := ht.on hb4
  have hB4 : Below w.heap.size w w4 := hB3.trans (hb4.mono hB3.size)
  clear hb4
  by_cases h1 : wrong l 3 = 0
  · rw [h1]
    go_wp2_with fail
    refine (print_any a l c _ w4 rfl h1 hp ht).mono ?_
    rintro e0 w5 ⟨rfl, hb5⟩
    replace hp := hp.below hb5
    replace ht := ht.on hb5
    have hB5 : Below w.heap.size w w5 := hB4.trans (hb5.mono hB4.size)
    clear hb5
    go_wp2_with fail
    refine (refPrint_any a l c _ w5 rfl h1 hp ht).mono ?_
    rintro e0 w6 ⟨rfl, hb6⟩
    have hB6 : Below w.heap.size w w6 := hB5.trans (hb6.mono hB5.size)
    generalize printB l = q at *
    go_wp2
    all_goals
      go_ret
      exact ⟨ret_bool (by simp), hB6⟩
  · generalize wrong l 3 = y at *
    have hd : (y != 0) = true := by simpa using h1
    go_wp2
    go_ret
    exact ⟨rfl, hB4⟩

end Go.Proofs.YtkmohigbedocgaaDoor
