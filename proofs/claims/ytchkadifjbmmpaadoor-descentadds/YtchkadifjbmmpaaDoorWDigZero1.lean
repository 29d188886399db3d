/-
  allZero and highestFirst, by contract.
-/
import Derived.Test.YtchkadifjbmmpaaDoorWDigOf
namespace Go.Proofs.YtchkadifjbmmpaaDoor.D
open Go.RowKit Go.Lib

theorem alloc_below (w : World) (o : Obj) : Below w.heap.size w (w.alloc o) := (Below.refl _ _).alloc (Nat.le_refl _) _
/-- A box of one's own. -/
def Bx (T : TypeId) (w : World) (g : Nat) (cs : Array Value) : Prop := w.heap[g]? = some (.cells cs T (0, 0))
theorem Bx.lt {T : TypeId} {w : World} {g : Nat} {cs : Array Value} (h : Bx T w g cs) : g < w.heap.size := (Array.getElem?_eq_some_iff.1 h).1
theorem Bx.new (T : TypeId) (w : World) (cs : Array Value) : Bx T (w.alloc (.cells cs T (0, 0))) w.heap.size cs := heap_alloc_new w _
theorem Bx.cell {T : TypeId} {w : World} {g : Nat} {cs : Array Value} (h : Bx T w g cs) (k : Nat) : w.cell? ⟨g, k, none⟩ = cs[k]? := cell_of_row w g k _ _ _ h
theorem Bx.soft {T : TypeId} {w : World} {g : Nat} {cs : Array Value} (h : Bx T w g cs) (k : Nat) : w.frozen? ⟨g, k, none⟩ = false := by
  unfold Bx at h
  simp [World.frozen?, h]
theorem Bx.below {T : TypeId} {w w' : World} {g : Nat} {cs : Array Value} (h : Bx T w g cs) (hb : Below w.heap.size w w') : Bx T w' g cs := (hb.block g h.lt).trans h
theorem Bx.far {T : TypeId} {w w' : World} {g : Nat} {r : Option Nat} {cs : Array Value} (h : Bx T w g cs) (hg : w.grownBy w' r) (hne : some g ≠ r) : Bx T w' g cs := (hg.block g h.lt hne).trans h
theorem Bx.alloc {T : TypeId} {w : World} {g : Nat} {cs : Array Value} (h : Bx T w g cs) (o : Obj) : Bx T (w.alloc o) g cs := (Below.heap_alloc w o g h.lt).trans h
theorem Bx.set {T : TypeId} {w : World} {g : Nat} {cs : Array Value} (h : Bx T w g cs) (k : Nat) (u : Value) : Bx T (w.setCell ⟨g, k, none⟩ u) g (cs.setIfInBounds k u) := by
  unfold Bx at h ⊢
  simp [World.setCell, Array.getElem?_modify, h]
theorem Bx.setFar {T : TypeId} {w : World} {g : Nat} {cs : Array Value} (h : Bx T w g cs) {p : Addr} (hp : g ≠ p.block) (u : Value) : Bx T (w.setCell p u) g cs := (Below.heap_setCell w p u g hp).trans h

def allZ : List Int → Bool
  | [] => true
  | x :: t => (x == 0) && allZ t

set_option maxHeartbeats 4000000 in
theorem allzero_c (l : List Int) (v : Value) (w : World) (h1 : Dl w v l) (hn : l.length ≤ 1000000) :
    Calls Tryd.prog 71 #[v] w fun e w' => e = .returned (.bool (allZ l)) ∧ w = w' := by
  obtain ⟨ad1, cap1, rfl, k1⟩ := h1
  have H1 := Lib.hid k1
  clear k1
  go_enter Tryd.func71, Tryd.ntmps71
  go_wp2
  go_loopw [7] (fun vk wr => ∃ (k : Nat), k ≤ l.length ∧ vk = .int .i64 (k : Int) ∧ wr = w ∧ Hid (allZ (l.drop k) = allZ l)) (fun vk _ => l.length - (RowKit.intOf vk).toNat)
  case atStart => exact ⟨0, by omega, rfl, rfl, Lib.hid rfl⟩
  case round =>
    obtain ⟨k, hk, rfl, rfl, hs⟩ := hrel
    by_cases hp : k < l.length
    · obtain ⟨g1, o1, rfl, c1⟩ := H1.out (by omega)
      have c11 := c1 k hp
      have hs' := hs.out
      rw [List.drop_eq_getElem_cons hp, allZ] at hs'
      clear c1 H1 hs
      generalize l[k] = x at c11 hs'
      by_cases hx : x = 0
      · subst hx
        have HS := Lib.hid (show allZ (l.drop (k + 1)) = allZ l by simpa using hs')
        clear hs'
        go_wp2
        go_roundw
        case rel => exact ⟨k + 1, hp, by go_num, by trivial, HS⟩
        case measure => simp [RowKit.intOf]; omega
      · have f1 : (x != 0) = true := by simpa using hx
        have f2 : (x == 0) = false := by simpa using hx
        rw [f2, Bool.false_and] at hs'
        have HS := Lib.hid hs'
        clear hs' f2 hx
        go_wp2
        go_ret
        exact ⟨by rw [← HS.out]; rfl, rfl⟩
    · have hs' := hs.out
      rw [List.drop_eq_nil_of_le (by omega), allZ] at hs'
      have HS := Lib.hid hs'
      clear hs' hs
      go_wp2
      go_ret
      exact ⟨by rw [← HS.out]; rfl, rfl⟩
end Go.Proofs.YtchkadifjbmmpaaDoor.D
