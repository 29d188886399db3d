/-
  New of a drive, by contract.
-/
import Derived.Test.YtmhmdnlkkpjdjaaDrvRead
namespace Go.Proofs.Ytmhmdnlkkpjdjaa
open Go.RowKit Go.Lib

set_option maxHeartbeats 2000000 in
theorem newNo_c (m : Int) (w : World) (hm : m < 0 ∨ 1048576 < m) : Calls Try.prog 9 #[.int .i64 m] w fun e w' => e = .returned (.pointer none) ∧ w = w' := by
  by_cases h0 : m < 0
  · have e1 : decide (m < 0) = true := by simpa using h0
    clear hm h0
    go_enter Try.func9, Try.ntmps9
    go_wp2
    go_ret
    exact ⟨rfl, rfl⟩
  · have e1 : decide (m < 0) = false := by simpa using h0
    have e2 : decide (1048576 < m) = true := by simp; omega
    clear hm h0
    go_enter Try.func9, Try.ntmps9
    go_wp2
    go_ret
    exact ⟨rfl, rfl⟩

theorem DrvAt.made (w : World) (m : Nat) (hm : m ≤ 1048576) :
    DrvAt ((w.alloc (.map #[] 0)).alloc (.cells #[.map (some w.heap.size), .int .i64 (m : Int), .int .i64 0] 51)) (w.heap.size + 1) w.heap.size [] m 0 (fun i => i = w.heap.size ∨ i = w.heap.size + 1) := by
  refine ⟨fun i hi => ?_, .inr rfl, .inl rfl, ?_, ?_, fun x hx => (by cases hx), List.Pairwise.nil, List.Pairwise.nil, Nat.zero_le _, hm⟩
  · rcases hi with rfl | rfl <;> simp <;> omega
  · have := heap_alloc_new (w.alloc (.map #[] 0)) (.cells #[.map (some w.heap.size), .int .i64 (m : Int), .int .i64 0] 51)
    simpa [Bx, used, usedP] using this
  · exact (World.ownsMap_made w Try.prog 9 ptrElem).alloc _

def newT (m : Nat) (w : World) (e : Ending) (w' : World) : Prop := ∃ p bm own, e = .returned (.pointer (some ⟨p, 0, none⟩)) ∧ DrvAt w' p bm [] m 0 own ∧ (∀ i, own i → w.heap.size ≤ i) ∧ Below w.heap.size w w'
set_option maxHeartbeats 2000000 in
theorem new_c (m : Nat) (w : World) (hm : m ≤ 1048576) : Calls Try.prog 9 #[.int .i64 (m : Int)] w (newT m w) := by
  have e1 : decide ((m : Int) < 0) = false := by simp
  have e2 : decide ((1048576 : Int) < (m : Int)) = false := by simp; omega
  have HM := Lib.hid (DrvAt.made w m hm)
  have hmm := @run_makeMap Try.prog
  clear hm
  go_enter Try.func9, Try.ntmps9
  go_wp2
  go_ret
  exact ⟨_, _, _, rfl, HM.out, fun i hi => by omega, ((Below.refl _ w).alloc (Nat.le_refl _) _).alloc (by simp) _⟩
end Go.Proofs.Ytmhmdnlkkpjdjaa
