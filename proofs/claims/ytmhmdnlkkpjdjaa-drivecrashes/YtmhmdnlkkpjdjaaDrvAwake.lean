/-
  What every program answers that is one: awake, by contract.
-/
import Derived.Test.YtmhmdnlkkpjdjaaDrvSes
namespace Go.Proofs.Ytmhmdnlkkpjdjaa
open Go.RowKit Go.Lib

theorem bl_lit {w : World} {cap : Nat} (l : List Int) {cs : Array Value} (T : TypeId) (he : ∀ k (hk : k < l.length), cs[k]? = some (.int .u8 l[k])) : Bl (w.alloc (.cells cs T)) (.slice (some ⟨w.heap.size, 0, none⟩) l.length cap) l :=
  bl_of_box (Bx.new T w cs) he
theorem ses_cast {w0 w : World} {p : Nat} {P P' : List Pf} {m : Nat} {G : List (Value × List Int)} {T : List (Value × List (List UInt8))} (h : Ses w0 w p P m G T) (e : P = P') : Ses w0 w p P' m G T := e ▸ h

theorem bl_12 (W : World) : Bl (W.alloc (.cells #[.int .u8 1, .int .u8 2] 5)) (.slice (some ⟨W.heap.size, 0, none⟩) 2 2) [1, 2] := bl_lit [1, 2] 5 (fun k hk => by
  match k, hk with
  | 0, _ => rfl
  | 1, _ => rfl)
theorem bl_34 (W : World) : Bl (W.alloc (.cells #[.int .u8 3, .int .u8 4] 5)) (.slice (some ⟨W.heap.size, 0, none⟩) 2 2) [3, 4] := bl_lit [3, 4] 5 (fun k hk => by
  match k, hk with
  | 0, _ => rfl
  | 1, _ => rfl)
theorem bl_123 (W : World) : Bl (W.alloc (.cells #[.int .u8 1, .int .u8 2, .int .u8 3] 5)) (.slice (some ⟨W.heap.size, 0, none⟩) 3 3) [1, 2, 3] := bl_lit [1, 2, 3] 5 (fun k hk => by
  match k, hk with
  | 0, _ => rfl
  | 1, _ => rfl
  | 2, _ => rfl)

theorem make_run (n : Nat) (hn : n ≤ 1000000) (W : World) : (Instr.makeSlice 22 (.int .i64 (n : Int)) (.int .i64 (n : Int))).run Try.prog W = .ok (.slice (some ⟨W.heap.size, 0, none⟩) n n) (W.alloc (.cells (madeCells #[.int .u8 0] n) 5)) :=
  run_make_row' 22 5 (.int .u8 0) 1 Try.underlying22 byteInfo rfl .i64 .i64 n (by omega) (by omega) W
theorem made_row (n : Nat) (hn : n ≤ 1000000) (W : World) : BRow (W.alloc (.cells (madeCells #[.int .u8 0] n) 5)) W.heap.size (.slice (some ⟨W.heap.size, 0, none⟩) n n) (List.replicate n 0) := by
  unfold BRow
  have e : (madeCells #[Value.int .u8 0] n) = Array.replicate n (Value.int .u8 0) := by
    apply Array.ext
    · simp [madeCells]
    · intro i h1 h2
      simp [madeCells, Nat.mod_one]
  rw [e, List.length_replicate]
  refine ⟨by simp [bys_len], .inr ⟨W.heap.size, n, Array.replicate n (.int .u8 0), rfl, Nat.le_refl _, heap_alloc_new W _, Nat.le_refl _, by unfold maxLen; omega, by simp, ?_⟩⟩
  simp [bys]

set_option maxHeartbeats 8000000 in
theorem awake_c (w0 : World) : Calls Try.prog 8 #[] w0 fun e w' => e = .returned (.bool true) ∧ Below w0.heap.size w0 w' := by
  have H1 := Lib.hid (sNew w0 w0 10 (by decide) (Below.refl _ _))
  go_enter Try.func8, Try.ntmps8
  go_wp2_with fail
  refine H1.out.mono ?_
  rintro e w1 ⟨p, rfl, h1⟩
  have S1 := Lib.hid (sAppend (h1.alloc (.cells #[.int .u8 1, .int .u8 2] 5)) ⟨#[97]⟩ (by decide) (by decide) _ [1, 2] (bl_12 w1) (by decide) (by decide))
  clear h1 H1
  go_wp2_with fail
  refine S1.out.mono ?_
  rintro e w2 ⟨rfl, h2⟩
  have S2 := Lib.hid (sSync (h2.text ⟨#[97]⟩ 9) [[97]] _ (List.mem_cons_self ..) (by decide) (by decide) (by decide))
  clear h2 S1
  go_wp2_with fail
  refine S2.out.mono ?_
  rintro e w3 ⟨rfl, h3⟩
  have S3 := Lib.hid (sAppend (h3.alloc (.cells #[.int .u8 3, .int .u8 4] 5)) ⟨#[97]⟩ (by decide) (by decide) _ [3, 4] (bl_34 w3) (by decide) (by decide))
  clear h3 S2
  go_wp2_with fail
  refine S3.out.mono ?_
  rintro e w4 ⟨rfl, h4⟩
  have S4 := Lib.hid (sLoose h4 ⟨#[97]⟩ (by decide) [1, 2, 3, 4] 2 (by decide))
  clear h4 S3
  go_wp2_with fail
  refine S4.out.mono ?_
  rintro e w5 ⟨rfl, h5⟩
  have S5 := Lib.hid (sCrash h5 1 (by decide) (by decide))
  clear h5 S4
  go_wp2_with fail
  refine S5.out.mono ?_
  rintro e w6 ⟨rfl, h6⟩
  have S6 := Lib.hid (sRead h6 ⟨#[97]⟩ (by decide) [1, 2, 3] 3 (by decide))
  clear h6 S5
  go_wp2_with fail
  refine S6.out.mono ?_
  rintro e w7 ⟨A, C, rfl, h7⟩
  have h7' := h7.alloc (.cells #[.int .u8 1, .int .u8 2, .int .u8 3] 5)
  have S7 := Lib.hid (bsame_c [1, 2, 3] [1, 2, 3] _ _ _ (h7'.g (List.mem_cons_self ..)).1 (bl_123 w7) (by decide))
  have S7' := Lib.hid (ses_cast h7' (P' := [([97], [1, 2, 3], 3)]) (by decide))
  rw [show sameB [1, 2, 3] [1, 2, 3] = true by decide] at S7
  clear h7 h7' S6
  go_wp2_with fail
  refine S7.out.mono ?_
  rintro e w8 ⟨rfl, b8⟩
  have S8 := Lib.hid (S7'.out.below b8)
  have S9 := Lib.hid (sUsed S8.out)
  rw [show usedP [([97], [1, 2, 3], 3)] = 3 by decide] at S9
  clear b8 S7 S7'
  go_wp2_with fail
  refine S9.out.mono ?_
  rintro e w9 ⟨rfl, rfl⟩
  have hmk : (Instr.makeSlice 22 (.int .i64 8) (.int .i64 8)).run Try.prog w8 = _ := make_run 8 (by decide) w8
  have S10 := Lib.hid (sFull (S8.out.alloc (.cells (madeCells #[.int .u8 0] 8) 5)) ⟨#[98]⟩ (by decide) (by decide) _ (List.replicate 8 0) (made_row 8 (by decide) w8).nl (by decide))
  clear S9 S8
  generalize madeCells #[.int .u8 0] 8 = M at *
  go_wp2_with fail
  refine S10.out.mono ?_
  rintro e w10 ⟨rfl, h10⟩
  have S11 := Lib.hid h10.bl
  have S12 := Lib.hid (newNo_c (-1) w10 (.inl (by decide)))
  clear h10 S10 hmk
  go_wp2_with fail
  refine S12.out.mono ?_
  rintro e w11 ⟨rfl, rfl⟩
  go_wp2
  go_ret
  exact ⟨rfl, S11.out⟩
end Go.Proofs.Ytmhmdnlkkpjdjaa
