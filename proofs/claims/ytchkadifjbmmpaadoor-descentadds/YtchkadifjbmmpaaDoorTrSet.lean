/-
  set, places, New of package tree, by contract.
-/
import Derived.Test.YtchkadifjbmmpaaDoorTrMem
import Derived.Test.YtchkadifjbmmpaaDoorTrKey
namespace Go.Proofs.YtchkadifjbmmpaaDoor
open Go.RowKit Go.Lib Go.Maps
set_option maxRecDepth 100000
set_option linter.unusedSimpArgs false

theorem alloc_below (w : World) (o : Obj) : Below w.heap.size w (w.alloc o) := (Below.refl _ _).alloc (Nat.le_refl _) _
theorem below_drewN {B : Nat} {a w : World} (h : Below B a w) (n : Nat) : Below B a (w.drewN n) := ⟨h.os, h.tape, h.output, h.size, h.block⟩
theorem bn {W0 w w' : World} (h : Below W0.heap.size W0 w) (hb : Below w.heap.size w w') : Below W0.heap.size W0 w' := h.trans (hb.mono h.size)
theorem grown_refl (w : World) (r : Option Nat) : w.grownBy w r := ⟨rfl, rfl, rfl, Nat.le_refl _, fun _ _ _ => rfl⟩
theorem grown_trans {a b c : World} {r : Option Nat} (h : a.grownBy b r) (k : b.grownBy c r) : a.grownBy c r :=
  ⟨k.os.trans h.os, k.tape.trans h.tape, k.output.trans h.output, Nat.le_trans h.size k.size, fun i hi hne => (k.block i (Nat.lt_of_lt_of_le hi h.size) hne).trans (h.block i hi hne)⟩
theorem grown_below {a b : World} (h : Below a.heap.size a b) (r : Option Nat) : a.grownBy b r := ⟨h.os, h.tape, h.output, h.size, fun i hi _ => h.block i hi⟩
theorem grown_set (w : World) (p k : Nat) (v : Value) : w.grownBy (w.setCell ⟨p, k, none⟩ v) (some p) := by
  have h : Below 0 w (w.setCell ⟨p, k, none⟩ v) := (Below.refl 0 w).setCell (Nat.zero_le _) v
  exact ⟨h.os, h.tape, h.output, h.size, fun i _ hne => Below.heap_setCell _ _ _ i (show i ≠ p from fun e => hne (by rw [e]))⟩

/-- The place of a level's first range. -/
def pl : Nat → Nat
  | 0 => 0
  | k + 1 => 4 * pl k + 1
theorem pl_le : ∀ k, k < 7 → pl k ≤ 1365 := by decide
set_option maxHeartbeats 4000000 in
theorem places_c (L : Nat) (hL : L ≤ 5) (w : World) : Calls Tryd.prog 48 #[.int .i64 (L : Int)] w fun e w' => e = .returned (.tuple #[.int .i64 ((pl L : Nat) : Int), .int .i64 ((pl (L + 1) : Nat) : Int)]) ∧ w' = w := by
  go_enter Tryd.func48, Tryd.ntmps48
  go_wp2_with fail
  go_loopw [4, 5, 7] (fun v4 v5 v7 wr => ∃ k : Nat, k ≤ L ∧ v4 = .int .i64 ((pl k : Nat) : Int) ∧ v5 = .int .i64 ((pl (k + 1) : Nat) : Int) ∧ v7 = .int .i64 (k : Int) ∧ wr = w) (fun _ _ v7 _ => L - (RowKit.intOf v7).toNat)
  case atStart => exact ⟨0, by omega, rfl, rfl, rfl, rfl⟩
  case round =>
    obtain ⟨k, hk, rfl, rfl, rfl, rfl⟩ := hrel
    have h1 := pl_le (k + 1) (by omega)
    by_cases hp : k < L
    · have HP := Lib.hid hp
      have HE : Hid (pl (k + 1 + 1) = 4 * pl (k + 1) + 1) := Lib.hid rfl
      generalize hz : pl (k + 1) = z at *
      have HZ := Lib.hid hz
      clear hz
      go_wp2_with fail
      go_roundw
      case rel => exact ⟨k + 1, HP.out, by rw [HZ.out], by rw [HE.out]; go_num, by go_num, trivial⟩
      case measure => have := HP.out; simp [RowKit.intOf]; omega
    · obtain rfl : k = L := by omega
      go_wp2_with fail
      go_ret2
      exact ⟨rfl, rfl⟩
/-- A range's digest is that of its parts. -/
def Cons (F : Nat → Int) (a : Nat) : Prop := F a = D.allD [F (4 * a + 1), F (4 * a + 2), F (4 * a + 3), F (4 * a + 4)]
inductive Anc : Nat → Nat → Prop
  | up {a : Nat} (h : 0 < a) : Anc a ((a - 1) / 4)
  | step {a b : Nat} (h : 0 < a) (k : Anc ((a - 1) / 4) b) : Anc a b
theorem Anc.no {b : Nat} (h : Anc 0 b) : False := by
  cases h with
  | up h => omega
  | step h k => omega
def upd1 (F : Nat → Int) (c : Nat) (d : Int) : Nat → Int := fun x => if x = c then d else F x
theorem upd1_self (F : Nat → Int) (c : Nat) (d : Int) : upd1 F c d c = d := if_pos rfl
theorem upd1_ne (F : Nat → Int) {c x : Nat} (d : Int) (h : x ≠ c) : upd1 F c d x = F x := if_neg h
/-- What a range's parts make. -/
def parts (F : Nat → Int) (a : Nat) : Int := D.allD [F (4 * a + 1), F (4 * a + 2), F (4 * a + 3), F (4 * a + 4)]
theorem cons_next {F : Nat → Int} {a : Nat} (h : ∀ b, b < 341 → Cons F b ∨ Anc a b) : ∀ b, b < 341 → Cons (upd1 F ((a - 1) / 4) (parts F ((a - 1) / 4))) b ∨ Anc ((a - 1) / 4) b := by
  intro b hb
  generalize hc : (a - 1) / 4 = c at *
  by_cases hbc : b = c
  · subst hbc
    left
    unfold Cons
    rw [upd1_self, upd1_ne F _ (by omega), upd1_ne F _ (by omega), upd1_ne F _ (by omega), upd1_ne F _ (by omega)]
    rfl
  · have hor : Cons F b ∨ Anc c b := by
      rcases h b hb with h1 | h1
      · exact .inl h1
      · cases h1 with
        | up h2 => exact absurd hc hbc
        | step h2 k => exact .inr (hc ▸ k)
    rcases hor with h1 | h1
    · by_cases hp : 0 < c ∧ (c - 1) / 4 = b
      · exact .inr (hp.2 ▸ Anc.up hp.1)
      · left
        unfold Cons at h1 ⊢
        rw [upd1_ne F _ hbc, upd1_ne F _ (by omega), upd1_ne F _ (by omega), upd1_ne F _ (by omega), upd1_ne F _ (by omega)]
        exact h1
    · exact .inr h1
theorem cons_first {F : Nat → Int} {n : Nat} (d : Int) (hn : n < 1024) (h : ∀ b, b < 341 → Cons F b) : ∀ b, b < 341 → Cons (upd1 F (341 + n) d) b ∨ Anc (341 + n) b := by
  intro b hb
  by_cases hp : (341 + n - 1) / 4 = b
  · exact .inr (hp ▸ Anc.up (by omega))
  · left
    have h1 := h b hb
    unfold Cons at h1 ⊢
    rw [upd1_ne F _ (by omega), upd1_ne F _ (by omega), upd1_ne F _ (by omega), upd1_ne F _ (by omega), upd1_ne F _ (by omega)]
    exact h1
end Go.Proofs.YtchkadifjbmmpaaDoor
