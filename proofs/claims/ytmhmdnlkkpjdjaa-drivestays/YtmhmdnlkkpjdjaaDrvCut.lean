/-
  Cut of a drive, by contract.
-/
import Derived.Test.YtmhmdnlkkpjdjaaDrvRead
namespace Go.Proofs.Ytmhmdnlkkpjdjaa
open Go.RowKit Go.Lib

set_option maxHeartbeats 2000000 in
theorem cutNo_c (p bm : Nat) (L : List Fl) (m ex : Nat) (own : Nat → Prop) (w : World) (h : DrvAt w p bm L m ex own) (s : ByteArray) (hs : ∀ y ∈ L, y.n ≠ s.data.toList) (hl : s.size ≤ maxLen) (k : Int) :
    Calls Try.prog 17 #[.pointer (some ⟨p, 0, none⟩), .string s, .int .i64 k] w fun e w' => e = .returned (.int .i64 13) ∧ w = w' := by
  have c0 := h.cell0
  have hlt := h.hd.lt
  have hf := DrvAt.miss h.mp hs hl
  clear h hs hl
  go_enter Try.func17, Try.ntmps17
  go_wp2
  go_ret
  exact ⟨rfl, rfl⟩

set_option maxHeartbeats 2000000 in
theorem cutBad_c (p bm : Nat) (pre post : List Fl) (x : Fl) (m ex : Nat) (own : Nat → Prop) (w : World) (h : DrvAt w p bm (pre ++ x :: post) m ex own) (s : ByteArray) (hs : s.data.toList = x.n) (hl : s.size ≤ maxLen) (k : Int) (hk : k < 0 ∨ (x.a.length : Int) < k) :
    Calls Try.prog 17 #[.pointer (some ⟨p, 0, none⟩), .string s, .int .i64 k] w fun e w' => e = .returned (.int .i64 2) ∧ w = w' := by
  have c0 := h.cell0
  have hlt := h.hd.lt
  have hf := DrvAt.find h.mp h.so hs hl
  have hx := h.fl x (by simp)
  obtain ⟨ad, cap, hv, _⟩ := hx.form
  have c1 := hx.cell0
  rw [hv] at c1
  have hltx := hx.lt
  clear h hs hl hx hv
  generalize x.a.length = n at *
  by_cases h0 : k < 0
  · have e1 : decide (k < 0) = true := by simpa using h0
    clear hk h0
    go_enter Try.func17, Try.ntmps17
    go_wp2
    go_ret
    exact ⟨rfl, rfl⟩
  · have e1 : decide (k < 0) = false := by simpa using h0
    have e2 : decide ((n : Int) < k) = true := by simp; omega
    clear hk h0
    go_enter Try.func17, Try.ntmps17
    go_wp2
    go_ret
    exact ⟨rfl, rfl⟩

set_option maxHeartbeats 2000000 in
theorem cutAt_c (p bm : Nat) (pre post : List Fl) (x : Fl) (m ex : Nat) (own : Nat → Prop) (w : World) (h : DrvAt w p bm (pre ++ x :: post) m ex own) (s : ByteArray) (hs : s.data.toList = x.n) (hl : s.size ≤ maxLen) (k : Nat) (hk : k ≤ x.a.length) :
    Calls Try.prog 17 #[.pointer (some ⟨p, 0, none⟩), .string s, .int .i64 (k : Int)] w fun e w' => e = .returned (.int .i64 0) ∧ ∃ v', DrvAt w' p bm (pre ++ { x with v := v', a := x.a.take k, f := k } :: post) m ex own ∧ Turn (fun i => i = p ∨ i = x.b) w w' := by
  have c0 := h.cell0
  have hlt := h.hd.lt
  have hf := DrvAt.find h.mp h.so hs hl
  have hx := h.fl x (by simp)
  obtain ⟨ad, cap, hv, _⟩ := hx.form
  have c1 := hx.cell0
  rw [hv] at c1
  have hltx := hx.lt
  have HC := Lib.hid (settle_c p bm pre post x m ex own w h k hk)
  clear h hs hl hx hv
  have e1 : decide ((k : Int) < 0) = false := by simp
  have e2 : decide (x.a.length < k) = false := by simp; omega
  clear hk
  go_enter Try.func17, Try.ntmps17
  go_wp2_with fail
  refine HC.out.mono ?_
  rintro e w1 ⟨rfl, v', b1, b2⟩
  go_wp2
  go_ret
  exact ⟨rfl, v', b1, b2⟩
end Go.Proofs.Ytmhmdnlkkpjdjaa
