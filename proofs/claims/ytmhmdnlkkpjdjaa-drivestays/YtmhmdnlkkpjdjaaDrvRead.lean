/-
  Loose, Read, of a drive, by contract.
-/
import Derived.Test.YtmhmdnlkkpjdjaaDrvLeaf
namespace Go.Proofs.Ytmhmdnlkkpjdjaa
open Go.RowKit Go.Lib

theorem DrvAt.cell0 {w : World} {p bm : Nat} {L : List Fl} {m ex : Nat} {own : Nat → Prop} (h : DrvAt w p bm L m ex own) : w.cell? ⟨p, 0, none⟩ = some (.map (some bm)) := by
  rw [h.hd.cell 0]; rfl
theorem DrvAt.cell1 {w : World} {p bm : Nat} {L : List Fl} {m ex : Nat} {own : Nat → Prop} (h : DrvAt w p bm L m ex own) : w.cell? ⟨p, 1, none⟩ = some (.int .i64 (m : Int)) := by
  rw [h.hd.cell 1]; rfl
theorem DrvAt.cell2 {w : World} {p bm : Nat} {L : List Fl} {m ex : Nat} {own : Nat → Prop} (h : DrvAt w p bm L m ex own) : w.cell? ⟨p, 2, none⟩ = some (.int .i64 ((used L + ex : Nat) : Int)) := by
  rw [h.hd.cell 2]; rfl
theorem FlAt.cell0 {w : World} {own : Nat → Prop} {x : Fl} (h : FlAt w own x) : w.cell? ⟨x.b, 0, none⟩ = some x.v := by
  rw [h.bx.cell 0]; rfl
theorem FlAt.cell1 {w : World} {own : Nat → Prop} {x : Fl} (h : FlAt w own x) : w.cell? ⟨x.b, 1, none⟩ = some (.int .i64 (x.f : Int)) := by
  rw [h.bx.cell 1]; rfl

set_option maxHeartbeats 2000000 in
theorem looseAt_c (p bm : Nat) (pre post : List Fl) (x : Fl) (m ex : Nat) (own : Nat → Prop) (w : World) (h : DrvAt w p bm (pre ++ x :: post) m ex own) (s : ByteArray) (hs : s.data.toList = x.n) (hl : s.size ≤ maxLen) :
    Calls Try.prog 12 #[.pointer (some ⟨p, 0, none⟩), .string s] w fun e w' => e = .returned (.int .i64 ((x.a.length - x.f : Nat) : Int)) ∧ Below w.heap.size w w' := by
  have c0 := h.cell0
  have hlt := h.hd.lt
  have hf := DrvAt.find h.mp h.so hs hl
  have HC := Lib.hid (loose_c x w own (h.fl x (by simp)) (h.most (by simp)))
  generalize ((x.a.length - x.f : Nat) : Int) = R at HC ⊢
  clear h hs hl
  go_enter Try.func12, Try.ntmps12
  go_wp2_with fail
  refine HC.out.mono ?_
  rintro e w1 ⟨rfl, b1⟩
  go_wp2
  go_ret
  exact ⟨rfl, b1⟩

set_option maxHeartbeats 2000000 in
theorem looseNo_c (p bm : Nat) (L : List Fl) (m ex : Nat) (own : Nat → Prop) (w : World) (h : DrvAt w p bm L m ex own) (s : ByteArray) (hs : ∀ y ∈ L, y.n ≠ s.data.toList) (hl : s.size ≤ maxLen) :
    Calls Try.prog 12 #[.pointer (some ⟨p, 0, none⟩), .string s] w fun e w' => e = .returned (.int .i64 0) ∧ w = w' := by
  have c0 := h.cell0
  have hlt := h.hd.lt
  have hf := DrvAt.miss h.mp hs hl
  clear h hs hl
  go_enter Try.func12, Try.ntmps12
  go_wp2
  go_ret
  exact ⟨rfl, rfl⟩

def readT (l : List Int) (w : World) (e : Ending) (w' : World) : Prop := ∃ A C, e = .returned (.tuple #[.slice A l.length C, .int .i64 0]) ∧ BRow w' w.heap.size (.slice A l.length C) l ∧ Below w.heap.size w w'
set_option maxHeartbeats 2000000 in
theorem readAt_c (p bm : Nat) (pre post : List Fl) (x : Fl) (m ex : Nat) (own : Nat → Prop) (w : World) (h : DrvAt w p bm (pre ++ x :: post) m ex own) (s : ByteArray) (hs : s.data.toList = x.n) (hl : s.size ≤ maxLen) :
    Calls Try.prog 14 #[.pointer (some ⟨p, 0, none⟩), .string s] w (readT x.a w) := by
  have c0 := h.cell0
  have hlt := h.hd.lt
  have hf := DrvAt.find h.mp h.so hs hl
  have hx := h.fl x (by simp)
  obtain ⟨ad, cap, hv, _⟩ := hx.form
  have c1 := hx.cell0
  rw [hv] at c1
  have hr := hx.row.nl
  rw [hv] at hr
  have HC := Lib.hid (clone_c x.a _ w hr (by have := h.most (x := x) (by simp); omega))
  have hltx := hx.lt
  clear h hs hl hx hv hr
  go_enter Try.func14, Try.ntmps14
  go_wp2_with fail
  refine HC.out.mono ?_
  rintro e w1 ⟨v, rfl, hv1, b1⟩
  obtain ⟨A, C, rfl, _⟩ := hv1.bc.2
  go_wp2
  go_ret2
  exact ⟨A, C, rfl, hv1, b1⟩

set_option maxHeartbeats 2000000 in
theorem readNo_c (p bm : Nat) (L : List Fl) (m ex : Nat) (own : Nat → Prop) (w : World) (h : DrvAt w p bm L m ex own) (s : ByteArray) (hs : ∀ y ∈ L, y.n ≠ s.data.toList) (hl : s.size ≤ maxLen) :
    Calls Try.prog 14 #[.pointer (some ⟨p, 0, none⟩), .string s] w fun e w' => e = .returned (.tuple #[.slice none 0 0, .int .i64 13]) ∧ w = w' := by
  have c0 := h.cell0
  have hlt := h.hd.lt
  have hf := DrvAt.miss h.mp hs hl
  clear h hs hl
  go_enter Try.func14, Try.ntmps14
  go_wp2
  go_ret2
  exact ⟨rfl, rfl⟩
end Go.Proofs.Ytmhmdnlkkpjdjaa
