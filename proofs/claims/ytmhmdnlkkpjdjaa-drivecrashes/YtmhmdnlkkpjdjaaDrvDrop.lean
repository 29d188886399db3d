/-
  drop, Remove, Cut of a drive, by contract.
-/
import Derived.Test.YtmhmdnlkkpjdjaaDrvRead
namespace Go.Proofs.Ytmhmdnlkkpjdjaa
open Go.RowKit Go.Lib

theorem wpList_delete_run {P : Program} {w : World} {ops : Array Oper} {rest : List Oper} {o : Oper} {a : Act} {Q : Exit → Act → World → Prop} (hgd : o.guard = none) (m x : Operand) (t k : TypeId)
    (ho : o.op = .call { callee := .builtin .delete, args := #[m, x], argTypes := #[t, k] }) (w' : World)
    (hr : (Builtin.delete_ #[t, k] o.type #[a.eval m, a.eval x]).run P w = .ok (.tuple #[]) w') (h : wpList P ops Q rest (a.put o.dst (.tuple #[])) w') : wpList P ops Q (o :: rest) a w :=
  wpList_plain hgd fun _ hK => by
    unfold Oper.wp execOp
    simp only [ho, resolve, invoke, builtin, Sem.run_bind, Sem.run_pure, Result.andThen_ok, List.map_toArray, List.map_cons, List.map_nil, hr]
    exact hK _ _ h

set_option maxHeartbeats 2000000 in
theorem dropNo_c (p bm : Nat) (L : List Fl) (m ex : Nat) (own : Nat → Prop) (w : World) (h : DrvAt w p bm L m ex own) (s : ByteArray) (hs : ∀ y ∈ L, y.n ≠ s.data.toList) (hl : s.size ≤ maxLen) :
    Calls Try.prog 27 #[.pointer (some ⟨p, 0, none⟩), .string s] w fun e w' => e = .returned (.bool false) ∧ w = w' := by
  have c0 := h.cell0
  have hlt := h.hd.lt
  have hf := DrvAt.miss h.mp hs hl
  clear h hs hl
  go_enter Try.func27, Try.ntmps27
  go_wp2
  go_ret
  exact ⟨rfl, rfl⟩

set_option maxHeartbeats 4000000 in
theorem dropAt_c (p bm : Nat) (pre post : List Fl) (x : Fl) (m ex : Nat) (own : Nat → Prop) (w : World) (h : DrvAt w p bm (pre ++ x :: post) m ex own) (s : ByteArray) (hs : s.data.toList = x.n) (hl : s.size ≤ maxLen) :
    Calls Try.prog 27 #[.pointer (some ⟨p, 0, none⟩), .string s] w fun e w' => e = .returned (.bool true) ∧ DrvAt w' p bm (pre ++ post) m ex own ∧ Turn (fun i => i = p ∨ i = bm) w w' := by
  have c0 := h.cell0
  have hlt := h.hd.lt
  have hf := DrvAt.find h.mp h.so hs hl
  obtain ⟨w1, hdr, hm1, ht1⟩ := DrvAt.drops h.mp h.so hs hl 0
  have hg1 := ht1.grown
  have hx := h.fl x (by simp)
  obtain ⟨ad, cap, hv, _⟩ := hx.form
  have hpm := h.pm
  have hxm : x.b ≠ bm := map_ne h.mp hx.bx
  have hd1 : Bx 51 w1 p _ := h.hd.far hg1 (by simpa using hpm)
  have d2 := hd1.cell 2
  have hb1 : Bx 56 w1 x.b _ := hx.bx.far hg1 (by simpa using hxm)
  have d0 := hb1.cell 0
  rw [hv] at d0
  rw [used_mid] at d2
  simp only [List.getElem?_toArray, List.getElem?_cons_zero, List.getElem?_cons_succ] at d2 d0
  have f2 := hd1.soft 2
  have hltx := hb1.lt
  have hlt1 := hd1.lt
  have hus := h.us
  have hmx := h.mx
  rw [used_mid] at hus
  have d2' : w1.cell? ⟨p, 2, none⟩ = some (.int .i64 (((used (pre ++ post) + ex : Nat) : Int) + (x.a.length : Int))) := by rw [d2]; simp; omega
  have H : Hid (∀ U : Int, U = ((used (pre ++ post) + ex : Nat) : Int) → DrvAt (w1.setCell ⟨p, 2, none⟩ (.int .i64 U)) p bm (pre ++ post) m ex own) := Lib.hid (fun U hU => by
    refine h.cut (by simpa [World.setCell] using hg1.size) ?_ ?_ ?_ (by omega)
    · rw [← hU]
      exact hd1.set 2 _
    · exact hm1.setCell (a := ⟨p, 2, none⟩) (fun e => hpm e.symm) _
    · intro i hi h1 h2
      rw [Below.heap_setCell _ _ _ _ h1]
      exact hg1.block i (h.up i hi) (by simpa using h2))
  have HT : Hid (∀ U : Value, Turn (fun i => i = p ∨ i = bm) w (w1.setCell ⟨p, 2, none⟩ U)) := Lib.hid (fun U => (Turn.ofGrown hg1 (fun g hg => .inr (by cases hg; rfl))).set (p := ⟨p, 2, none⟩) (.inl rfl) U)
  have hbound : used (pre ++ post) + ex + x.a.length ≤ 1048576 := by omega
  clear h hs hl hx hv hm1 ht1 hg1 hd1 hb1 hus hmx d2
  have HDR := Lib.hid hdr
  clear hdr
  generalize used (pre ++ post) + ex = B at *
  generalize x.a.length = n at *
  generalize x.b = b at *
  have hwB : IntKind.i64.wrap (B : Int) = (B : Int) := by rw [IntKind.wrap_i64]; omega
  go_enter Try.func27, Try.ntmps27
  go_wp2_with (at_delete; refine wpList_delete_run rfl _ _ 49 9 rfl _ HDR.out ?_)
  go_region
  all_goals
    go_wp2
  all_goals
    go_ret
    exact ⟨rfl, (H.out _ (by first | rfl | exact hwB | omega)).drew, (HT.out _).drew⟩

set_option maxHeartbeats 2000000 in
theorem removeAt_c (p bm : Nat) (pre post : List Fl) (x : Fl) (m ex : Nat) (own : Nat → Prop) (w : World) (h : DrvAt w p bm (pre ++ x :: post) m ex own) (s : ByteArray) (hs : s.data.toList = x.n) (hl : s.size ≤ maxLen) :
    Calls Try.prog 19 #[.pointer (some ⟨p, 0, none⟩), .string s] w fun e w' => e = .returned (.int .i64 0) ∧ DrvAt w' p bm (pre ++ post) m ex own ∧ Turn (fun i => i = p ∨ i = bm) w w' := by
  have HC := Lib.hid (dropAt_c p bm pre post x m ex own w h s hs hl)
  clear h hs hl
  go_enter Try.func19, Try.ntmps19
  go_wp2_with fail
  refine HC.out.mono ?_
  rintro e w1 ⟨rfl, b1, b2⟩
  go_wp2
  go_ret
  exact ⟨rfl, b1, b2⟩

set_option maxHeartbeats 2000000 in
theorem removeNo_c (p bm : Nat) (L : List Fl) (m ex : Nat) (own : Nat → Prop) (w : World) (h : DrvAt w p bm L m ex own) (s : ByteArray) (hs : ∀ y ∈ L, y.n ≠ s.data.toList) (hl : s.size ≤ maxLen) :
    Calls Try.prog 19 #[.pointer (some ⟨p, 0, none⟩), .string s] w fun e w' => e = .returned (.int .i64 13) ∧ w = w' := by
  have HC := Lib.hid (dropNo_c p bm L m ex own w h s hs hl)
  clear h hs hl
  go_enter Try.func19, Try.ntmps19
  go_wp2_with fail
  refine HC.out.mono ?_
  rintro e w1 ⟨rfl, rfl⟩
  go_wp2
  go_ret
  exact ⟨rfl, rfl⟩
end Go.Proofs.Ytmhmdnlkkpjdjaa
