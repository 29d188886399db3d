/-
  New, Sum, Root of package tree, by contract.
-/
import Derived.Test.YtchkadifjbmmpaaDoorTrSetC
namespace Go.Proofs.YtchkadifjbmmpaaDoor
open Go.RowKit Go.Lib Go.Maps
set_option maxRecDepth 100000
set_option linter.unusedSimpArgs false

set_option maxHeartbeats 4000000 in
theorem newbox_c (w : World) : Calls Tryd.prog 14 #[] w fun e w' => e = .returned (.pointer (some ⟨w.heap.size + 1, 0, none⟩)) ∧ PM Tryd.prog w' 32 w.heap.size [] ∧ TB w' (w.heap.size + 1) (some w.heap.size) (fun _ _ => 0) ∧ w'.heap.size = w.heap.size + 1 + 1 ∧ Below w.heap.size w w' := by
  obtain ⟨hs, h0, hz⟩ := tree_cells w.heap.size
  have hm1 : ∀ w, (Instr.makeMap 82 none).run Tryd.prog w = .ok (.map (some w.heap.size)) (w.alloc (.map #[] 0)) := fun w => by simp [Instr.makeMap, go_sem]
  generalize hcs : Tryd.zeroCells87.setIfInBounds 0 (.map (some w.heap.size)) = cs at *
  have HCS := Lib.hid hcs
  have hn1 : PM Tryd.prog (w.alloc (.map #[] 0)) 32 w.heap.size [] := PM.new _ w _
  have HZ : Hid (TB ((w.alloc (.map #[] 0)).alloc (.cells cs 87)) (w.heap.size + 1) (some w.heap.size) (fun _ _ => 0)) := Lib.hid ⟨cs, by
    have := heap_alloc_new (w.alloc (.map #[] 0)) (.cells cs 87)
    rwa [World.size_alloc] at this, hs, h0, fun o a ho ha => by
    have := hz (1365 * o + a) (by omega)
    rwa [show 1365 * o + a + 1 = 1 + 1365 * o + a by omega] at this⟩
  have HP := Lib.hid (hn1.below (alloc_below _ (.cells cs 87)))
  clear hs h0 hz hn1 hcs
  go_enter Tryd.func14, Tryd.ntmps14
  go_wp2_with fail
  rw [HCS.out]
  go_ret
  exact ⟨rfl, HP.out, HZ.out, by simp, (alloc_below _ _).trans ((alloc_below _ _).mono (by simp))⟩
/-- How many ranges a level has. -/
def cnt (L : Int) : Int := ((pl (L.toNat + 1) - pl L.toNat : Nat) : Int)
def sumB (o L i : Int) : Bool := decide (0 ≤ o ∧ o < 8 ∧ 0 ≤ L ∧ L ≤ 5 ∧ 0 ≤ i ∧ i < cnt L)
def sumV (F : Nat → Nat → Int) (o L i : Int) : Int := if sumB o L i = true then F o.toNat (pl L.toNat + i.toNat) else 0
theorem pl_step (k : Nat) (h : k < 6) : pl k + (pl (k + 1) - pl k) = pl (k + 1) ∧ pl (k + 1) ≤ 1365 := by
  have : ∀ k, k < 6 → pl k + (pl (k + 1) - pl k) = pl (k + 1) ∧ pl (k + 1) ≤ 1365 := by decide
  exact this k h
set_option maxHeartbeats 8000000 in
theorem sum_c (p : Nat) (mv : Option Nat) (F : Nat → Nat → Int) (o L i : Int) (w : World) (h : TB w p mv F) :
    Calls Tryd.prog 19 #[.pointer (some ⟨p, 0, none⟩), .int .i64 o, .int .i64 L, .int .i64 i] w fun e w' => e = .returned (.tuple #[.int .u64 (sumV F o L i), .bool (sumB o L i)]) ∧ w' = w := by
  by_cases hg : 0 ≤ o ∧ o < 8 ∧ 0 ≤ L ∧ L ≤ 5
  · obtain ⟨h1, h2, h3, h4⟩ := hg
    obtain ⟨on, rfl⟩ := Int.eq_ofNat_of_zero_le h1
    obtain ⟨Ln, rfl⟩ := Int.eq_ofNat_of_zero_le h3
    have hL : Ln ≤ 5 := by omega
    have hp := pl_step Ln (by omega)
    have CP := Lib.hid (places_c Ln hL w)
    have hc : cnt (Ln : Int) = ((pl (Ln + 1) : Nat) : Int) - ((pl Ln : Nat) : Int) := by
      unfold cnt
      rw [Int.toNat_natCast]
      omega
    have e1 : ¬ (on : Int) < 0 := by omega
    have e2 : ¬ (8 : Int) ≤ (on : Int) := by omega
    have e3 : ¬ (Ln : Int) < 0 := by omega
    have e4 : ¬ (5 : Int) < (Ln : Int) := by omega
    by_cases hi : 0 ≤ i ∧ i < cnt (Ln : Int)
    · obtain ⟨h5, h6⟩ := hi
      have hB : sumB (on : Int) (Ln : Int) i = true := by unfold sumB; rw [decide_eq_true_eq]; exact ⟨h1, h2, h3, h4, h5, h6⟩
      obtain ⟨k, rfl⟩ := Int.eq_ofNat_of_zero_le h5
      have hV : sumV F (on : Int) (Ln : Int) (k : Int) = F on (pl Ln + k) := by unfold sumV; rw [if_pos hB]; simp
      rw [hB, hV]
      rw [hc] at h6
      have ha : pl Ln + k < 1365 := by omega
      have c1 : w.cell? ⟨p, 1 + on * 1365 + (pl Ln + k), none⟩ = some (.int .u64 (F on (pl Ln + k))) := by rw [Nat.mul_comm]; exact h.at (show on < 8 by omega) ha
      have l1 := h.lt
      have w1 : IntKind.i64.wrap (((pl (Ln + 1) : Nat) : Int) - ((pl Ln : Nat) : Int)) = ((pl (Ln + 1) : Nat) : Int) - ((pl Ln : Nat) : Int) := by rw [IntKind.wrap_i64]; omega
      have w2 : IntKind.i64.wrap (((pl Ln : Nat) : Int) + (k : Int)) = ((pl Ln + k : Nat) : Int) := by rw [IntKind.wrap_i64]; omega
      have e5 : ¬ (k : Int) < 0 := by omega
      have e6 : ¬ ((pl (Ln + 1) : Nat) : Int) - ((pl Ln : Nat) : Int) ≤ (k : Int) := by omega
      have e7 : ((pl Ln + k : Nat) : Int) < 1365 := by omega
      have e8 : (0 : Int) ≤ ((pl Ln + k : Nat) : Int) := by omega
      have e9 : (on : Int) < 8 := by omega
      generalize pl (Ln + 1) = z1 at *
      generalize hz : pl Ln + k = z at *
      generalize pl Ln = z0 at *
      clear hB hV hc hp hz h
      go_enter Tryd.func19, Tryd.ntmps19
      go_wp2_with fail
      refine CP.out.mono ?_
      rintro e w2 ⟨rfl, rfl⟩
      go_wp2_with fail
      go_ret2
      exact ⟨rfl, rfl⟩
    · have hB : sumB (on : Int) (Ln : Int) i = false := by unfold sumB; rw [decide_eq_false_iff_not]; exact fun hh => hi ⟨hh.2.2.2.2.1, hh.2.2.2.2.2⟩
      have hV : sumV F (on : Int) (Ln : Int) i = 0 := by unfold sumV; rw [if_neg (by rw [hB]; decide)]
      rw [hB, hV]
      rw [hc] at hi
      have w1 : IntKind.i64.wrap (((pl (Ln + 1) : Nat) : Int) - ((pl Ln : Nat) : Int)) = ((pl (Ln + 1) : Nat) : Int) - ((pl Ln : Nat) : Int) := by rw [IntKind.wrap_i64]; omega
      generalize pl (Ln + 1) = z1 at *
      generalize pl Ln = z0 at *
      clear hB hV hc hp h
      by_cases h5 : i < 0
      · go_enter Tryd.func19, Tryd.ntmps19
        go_wp2_with fail
        refine CP.out.mono ?_
        rintro e w2 ⟨rfl, rfl⟩
        go_wp2_with fail
        go_ret2
        exact ⟨rfl, rfl⟩
      · have e6 : (z1 : Int) - (z0 : Int) ≤ i := by omega
        go_enter Tryd.func19, Tryd.ntmps19
        go_wp2_with fail
        refine CP.out.mono ?_
        rintro e w2 ⟨rfl, rfl⟩
        go_wp2_with fail
        go_ret2
        exact ⟨rfl, rfl⟩
  · have hB : sumB o L i = false := by unfold sumB; rw [decide_eq_false_iff_not]; exact fun hh => hg ⟨hh.1, hh.2.1, hh.2.2.1, hh.2.2.2.1⟩
    have hV : sumV F o L i = 0 := by unfold sumV; rw [if_neg (by rw [hB]; decide)]
    rw [hB, hV]
    clear hB hV h
    by_cases e1 : o < 0
    · go_enter Tryd.func19, Tryd.ntmps19
      go_wp2_with fail
      go_ret2
      exact ⟨rfl, rfl⟩
    · by_cases e2 : 8 ≤ o
      · go_enter Tryd.func19, Tryd.ntmps19
        go_wp2_with fail
        go_ret2
        exact ⟨rfl, rfl⟩
      · by_cases e3 : L < 0
        · go_enter Tryd.func19, Tryd.ntmps19
          go_wp2_with fail
          go_ret2
          exact ⟨rfl, rfl⟩
        · have e4 : 5 < L := by omega
          go_enter Tryd.func19, Tryd.ntmps19
          go_wp2_with fail
          go_ret2
          exact ⟨rfl, rfl⟩
end Go.Proofs.YtchkadifjbmmpaaDoor
