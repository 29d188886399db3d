/-
  mayAll of the program, by contract.
-/
import Derived.Test.YtgdajnjfkokmdaaPstPMay
namespace Go.Proofs.Ytgdajnjfkokmdaa
open Go.RowKit Go.Lib
set_option maxRecDepth 100000

set_option maxHeartbeats 4000000 in
theorem pall_c (ls : List Lv) (v : Value) (w : World) (h : LRd w v ls) (hn : ls.length ≤ 1000000) (hm : ∀ y ∈ ls, y.l.length ≤ 1000000 ∧ ∀ x ∈ y.l, x.ns.length ≤ 1000000) :
    Calls Try.prog 32 #[v] w fun e w' => e = .returned (.bool (allMay (pls ls))) ∧ Below w.heap.size w w' := by
  have HM := Lib.hid hm
  have HL := Lib.hid h
  obtain ⟨⟨ad, cap, rfl, _, k1⟩, _⟩ := h
  have H1 := Lib.hid k1
  clear k1 hm
  go_enter Try.func32, Try.ntmps32
  go_wp2
  go_loopw [7] (fun v7 wr => ∃ k : Nat, k ≤ ls.length ∧ v7 = .int .i64 (k : Int) ∧ Hid (Below w.heap.size w wr) ∧ Hid (allMay (pls (ls.drop k)) = allMay (pls ls))) (fun v7 _ => ls.length - (intOf v7).toNat)
  case atStart => exact ⟨0, by omega, rfl, Lib.hid (Below.refl _ _), Lib.hid rfl⟩
  case round =>
    obtain ⟨k, hk, rfl, HB, hs⟩ := hrel
    by_cases hp : k < ls.length
    · obtain ⟨g1, o1, rfl, c1⟩ := H1.out (by omega)
      have a1 := c1 k hp
      have hgl0 := World.block_lt_of_cell? _ _ a1
      have a2 := (HB.out.cell hgl0).trans a1
      have hgl := World.block_lt_of_cell? _ _ a2
      have hs' := hs.out
      rw [List.drop_eq_getElem_cons hp] at hs'
      have HP := Lib.hid hp
      have hy := (HL.out.below HB.out).2 _ (List.getElem_mem hp)
      have hyn := HM.out ls[k] (List.getElem_mem hp)
      generalize ls[k] = y at a2 hs' hy hyn
      obtain ⟨yv, yl⟩ := y
      simp only at a2 hy hyn
      have CM := Lib.hid (pmay_c yl yv wr hy hyn.1 hyn.2)
      have hs2 : (mayL (ps yl) && allMay (pls (List.drop (k + 1) ls))) = allMay (pls ls) := hs'
      clear hs c1 a1 hs' hgl0 hy hyn
      cases h1 : mayL (ps yl) with
      | false =>
        rw [h1] at CM hs2
        rw [Bool.false_and] at hs2
        have HS := Lib.hid hs2
        clear hs2 h1
        go_wp2_with fail
        refine CM.out.mono ?_
        rintro e w2 ⟨rfl, b2⟩
        have HB2 := Lib.hid b2
        clear b2 CM
        go_wp2
        go_ret
        exact ⟨by rw [← HS.out]; rfl, bn HB.out HB2.out⟩
      | true =>
        rw [h1] at CM hs2
        rw [Bool.true_and] at hs2
        have HS := Lib.hid hs2
        clear hs2 h1
        go_wp2_with fail
        refine CM.out.mono ?_
        rintro e w2 ⟨rfl, b2⟩
        have HB2 := Lib.hid b2
        clear b2 CM
        go_wp2
        go_roundw
        case rel => exact ⟨k + 1, HP.out, by go_num, Lib.hid (bn HB.out HB2.out), HS⟩
        case measure => have := HP.out; simp [intOf]; omega
    · have hs' := hs.out
      rw [List.drop_of_length_le (by omega)] at hs'
      have hfin : allMay (pls ls) = true := hs'.symm
      have HS := Lib.hid hfin
      clear hs hs' hfin
      go_wp2
      go_ret
      exact ⟨by rw [HS.out]; rfl, HB.out⟩
end Go.Proofs.Ytgdajnjfkokmdaa
