/-
  great, base, awake, by contract.
-/
import Derived.Test.YtcnpckdchjjeoaaDoorSegMath
import Derived.Test.YtcnpckdchjjeoaaDoorMFrmLay
namespace Go.Proofs.YtcnpckdchjjeoaaDoor
open Go.RowKit Go.Lib
set_option maxRecDepth 100000

def greatE (e : En) : Bool := decide (300 < (e.r.t.size : Int)) || (decide (20 < (e.v.length : Int)) || decide (20 < (e.w.length : Int)))
set_option maxHeartbeats 2000000 in
theorem great_c (e : En) (a b : Value) (w : World) (ha : Nl w a e.v) (hb : Nl w b e.w) : Calls Tryd.prog 7 #[.agg #[.int .i64 e.k, a, b, .int .i64 e.r.o, .int .i64 e.r.s, .int .i64 e.r.w, .int .i64 e.r.c, .string e.r.t]] w fun x w' => x = .returned (.bool (greatE e)) ∧ Below w.heap.size w w' := by
  obtain ⟨ad1, cap1, rfl, _⟩ := ha.form
  obtain ⟨ad2, cap2, rfl, _⟩ := hb.form
  have hA := Lib.hid (alloc_below w (.cells #[.int .i64 e.k, .slice ad1 e.v.length cap1, .slice ad2 e.w.length cap2, .int .i64 e.r.o, .int .i64 e.r.s, .int .i64 e.r.w, .int .i64 e.r.c, .string e.r.t] 30))
  clear ha hb
  unfold greatE
  generalize h1 : decide (300 < (e.r.t.size : Int)) = G1
  generalize h2 : decide (20 < (e.v.length : Int)) = G2
  generalize h3 : decide (20 < (e.w.length : Int)) = G3
  go_enter Tryd.func7, Tryd.ntmps7
  cases G1
  · cases G2
    · go_wp2
      go_ret
      exact ⟨by simp, hA.out⟩
    · go_wp2
      go_ret
      exact ⟨by simp, hA.out⟩
  · go_wp2
    go_ret
    exact ⟨by simp, hA.out⟩

theorem sameR_self' (r : Rc) : sameR r r = true := by simp [sameR]
theorem nl_two (w : World) (g : Nat) (hg : g = w.heap.size) (x y : Int) : Nl (w.alloc (.cells #[.int .i64 x, .int .i64 y] 3)) (.slice (some ⟨g, 0, none⟩) 2 2) [x, y] := by
  subst hg
  refine .inr ⟨_, 2, rfl, fun _ => ⟨_, 0, rfl, fun k hk => ?_⟩⟩
  have hk2 : k < 2 := hk
  match k, hk2 with
  | 0, _ => exact (Bx.new 3 w #[.int .i64 x, .int .i64 y]).cell 0
  | 1, _ => exact (Bx.new 3 w #[.int .i64 x, .int .i64 y]).cell 1
def baseE : En := ⟨1, [2, 0], [1, 0], zeroR⟩
def baseT (w : World) (x : Ending) (w' : World) : Prop := ∃ ad1 c1 ad2 c2, x = .returned (.agg #[.int .i64 1, .slice ad1 2 c1, .slice ad2 2 c2, .int .i64 0, .int .i64 0, .int .i64 0, .int .i64 0, .string ⟨#[]⟩]) ∧ Nl w' (.slice ad1 2 c1) [2, 0] ∧ Nl w' (.slice ad2 2 c2) [1, 0] ∧ Below w.heap.size w w'
theorem res_e1 {fn : Func} {p : Tmp} (h : fn.results = #[.cell p 30]) (tmps : Array Value) (g : Nat) (hp : tmps.getD p undef = .pointer (some ⟨g, 0, none⟩)) (a b c d e f i j : Value) (w : World) (hx : Bx 30 w g #[a, b, c, d, e, f, i, j]) :
    (results fn tmps).run Tryd.prog w = .ok (.agg #[a, b, c, d, e, f, i, j]) w := by
  have aR := Tryd.isAgg30
  have zR := Tryd.sizeOf30
  obtain ⟨c0, c1, c2, c3, c4, c5, c6, c7⟩ := hx.eight
  rw [Array.getD_eq_getD_getElem?] at hp
  simp [results, h, hp, go_sem, aR, zR, c0, c1, c2, c3, c4, c5, c6, c7]
set_option maxHeartbeats 2000000 in
theorem base_c (w : World) : Calls Tryd.prog 26 #[] w (baseT w) := by
  go_enter Tryd.func26, Tryd.ntmps26
  go_wp2
  have h0 := ((Bx.new 30 w #[.int .i64 1, .slice (some ⟨w.heap.size + 1, 0, none⟩) 2 2, .slice (some ⟨w.heap.size + 1 + 1, 0, none⟩) 2 2, .int .i64 0, .int .i64 0, .int .i64 0, .int .i64 0, .string ⟨#[]⟩]).alloc (.cells #[.int .i64 2, .int .i64 0] 3)).alloc (.cells #[.int .i64 1, .int .i64 0] 3)
  have h1 := nl_two (w.alloc (.cells #[.int .i64 1, .slice (some ⟨w.heap.size + 1, 0, none⟩) 2 2, .slice (some ⟨w.heap.size + 1 + 1, 0, none⟩) 2 2, .int .i64 0, .int .i64 0, .int .i64 0, .int .i64 0, .string ⟨#[]⟩] 30)) (w.heap.size + 1) (by simp) 2 0
  have h2 := nl_two ((w.alloc (.cells #[.int .i64 1, .slice (some ⟨w.heap.size + 1, 0, none⟩) 2 2, .slice (some ⟨w.heap.size + 1 + 1, 0, none⟩) 2 2, .int .i64 0, .int .i64 0, .int .i64 0, .int .i64 0, .string ⟨#[]⟩] 30)).alloc (.cells #[.int .i64 2, .int .i64 0] 3)) (w.heap.size + 1 + 1) (by simp) 1 0
  exact bodyPost_ret (res_e1 Tryd.results26 _ w.heap.size rfl _ _ _ _ _ _ _ _ _ h0) rfl ⟨_, _, _, _, rfl, h1.below (alloc_below _ _), h2, bn (below_two _ _ _) (alloc_below _ _)⟩

theorem base_may2 : mayE baseE 2 = true := by
  have h := sameR_self' zeroR
  simp [mayE, baseE, mayB, manyB, okN, leB, blankR, h]
theorem base_may3 : mayE baseE 3 = false := by
  simp [mayE, baseE, mayB, manyB]
theorem base_some : someE baseE = true := mayE_some base_may2
theorem base_len : (layE baseE).length = 22 := by
  rw [layE_len]
  simp [bodyE, baseE, vecB_len]
theorem base_read : readE (layE baseE ++ layE baseE) 2 = ([baseE], 22) := by
  have h := readE_rows 2 [baseE] (layE baseE) ⟨base_may2, rfl, trivial⟩ (by
    intro e E he
    have h2 := nextE_lay base_some (layE baseE) [] 2
    rw [List.append_nil] at h2
    simp only [rowsE, List.append_nil] at he
    rw [h2, if_pos base_may2] at he
    simp only [Option.some.injEq, Prod.mk.injEq] at he
    obtain ⟨rfl, _⟩ := he
    simp [baseE])
  simpa [rowsE, base_len] using h

set_option maxHeartbeats 8000000 in
theorem awake_c (w : World) (hT : Tabs w) : Calls Tryd.prog 8 #[] w fun x w' => x = .returned (.bool true) ∧ Below w.heap.size w w' := by
  have HT := Lib.hid hT
  clear hT
  go_enter Tryd.func8, Tryd.ntmps8
  go_wp2_with fail
  refine (base_c w).mono ?_
  rintro x w1 ⟨ad1, c1, ad2, c2, rfl, n1, n2, b1⟩
  have CL := Lib.hid (laye_c baseE _ _ w1 n1 n2 (by simp [baseE]) (by simp [baseE]) (show (0 : Nat) ≤ _ by decide) (HT.out.below b1))
  unfold layeT at CL
  rw [base_some] at CL
  have HB1 := Lib.hid b1
  clear b1 n1 n2
  go_wp2_with fail
  refine CL.out.mono ?_
  rintro x w2 ⟨vb, rfl, h2, b2⟩
  have HR2 := Lib.hid (show BRow w2 w1.heap.size vb (layE baseE) from h2)
  have HB2 := Lib.hid (bn HB1.out b2)
  obtain ⟨adb, capb, hvb, _⟩ := HR2.out.nl.form
  rw [base_len] at hvb
  subst hvb
  clear h2 b2 CL HB1
  obtain ⟨vm, w3, r3, h3, b3⟩ := bcopy_run (layE baseE) _ w2 33 HR2.out.nl (by rw [base_len]; decide)
  obtain ⟨A4, N4, C4, w4, r4, h4, b4⟩ := bapp_run (layE baseE) (layE baseE) vm _ w3 33 w2.heap.size h3 (HR2.out.nl.below b3) (by rw [base_len]; decide) b3.size
  have HR3 := Lib.hid r3
  have HR4 := Lib.hid r4
  have HB4 := Lib.hid (bn HB2.out (b3.trans b4))
  have CR := Lib.hid (reade_c (layE baseE ++ layE baseE) _ 2 w4 h4.bc ((layE_ok _).append (layE_ok _)) (by rw [List.length_append, base_len]; decide) (HT.out.below HB4.out))
  unfold readT8 at CR
  rw [base_read] at CR
  clear r3 r4 h3 h4 b3 b4
  go_wp2_with (first
    | (at_builtin; refine wpList_append_run rfl _ _ 33 rfl _ _ HR3.out ?_; clear HR3)
    | (at_builtin; refine wpList_append_run rfl _ _ 33 rfl _ _ HR4.out ?_))
  refine CR.out.mono ?_
  rintro x w5 ⟨v5, xs, rfl, hxs, h5, b5⟩
  have hx1 : ∃ A B, xs = [⟨baseE, A, B⟩] := by
    match xs, hxs with
    | [⟨e, A, B⟩], h =>
      simp only [List.map_cons, List.map_nil, List.cons.injEq, and_true] at h
      subst h
      exact ⟨A, B, rfl⟩
  obtain ⟨A, B, rfl⟩ := hx1
  have HA := Lib.hid (show Nl w5 A [2, 0] from (h5.rows _ (List.mem_cons_self ..)).1.nl)
  have HBB := Lib.hid (show Nl w5 B [1, 0] from (h5.rows _ (List.mem_cons_self ..)).2.nl)
  obtain ⟨ade, cape, hv5, hce, k5⟩ := h5.er
  have hv6 : v5 = .slice ade 1 cape := hv5
  subst hv6
  obtain ⟨ge, oe, rfl, k6⟩ := k5 (by simp)
  have ev := k6 0 (by simp)
  simp only [Nat.zero_mul, Nat.add_zero, List.getElem_cons_zero] at ev
  have HEV := Lib.hid ev
  obtain ⟨adA, capA, hA1, _⟩ := HA.out.form
  obtain ⟨adB, capB, hB1, _⟩ := HBB.out.form
  simp only [List.length_cons, List.length_nil, Nat.zero_add, Nat.reduceAdd] at hA1 hB1
  subst hA1 hB1
  have HB5 := Lib.hid (bn HB4.out b5)
  have hge : ge < w5.heap.size := World.block_lt_of_cell? w5 _ ev.1.1
  have HS : Hid (∀ W : World, Below w5.heap.size w5 W → W.cell? ⟨ge, oe, none⟩ = some (.int .i64 1) ∧ W.cell? ⟨ge, oe + 1, none⟩ = some (.slice adA 2 capA) ∧ W.cell? ⟨ge, oe + 2, none⟩ = some (.slice adB 2 capB) ∧ W.cell? ⟨ge, oe + 3, none⟩ = some (.int .i64 0) ∧ W.cell? ⟨ge, oe + 4, none⟩ = some (.int .i64 0) ∧ W.cell? ⟨ge, oe + 5, none⟩ = some (.int .i64 0) ∧ W.cell? ⟨ge, oe + 6, none⟩ = some (.int .i64 0) ∧ W.cell? ⟨ge, oe + 7, none⟩ = some (.string ⟨#[]⟩)) := Lib.hid (fun W hW => (HEV.out.below hW).1)
  have CB : Hid (∀ W, Calls Tryd.prog 26 #[] W (baseT W)) := Lib.hid (fun W => base_c W)
  have CS : Hid (∀ W ad1 c1 ad2 c2, Below w5.heap.size w5 W → Nl W (.slice ad1 2 c1) [2, 0] → Nl W (.slice ad2 2 c2) [1, 0] → Calls Tryd.prog 16 #[.agg #[.int .i64 1, .slice adA 2 capA, .slice adB 2 capB, .int .i64 0, .int .i64 0, .int .i64 0, .int .i64 0, .string ⟨#[]⟩], .agg #[.int .i64 1, .slice ad1 2 c1, .slice ad2 2 c2, .int .i64 0, .int .i64 0, .int .i64 0, .int .i64 0, .string ⟨#[]⟩]] W fun x w' => x = .returned (.bool true) ∧ Below W.heap.size W w') := Lib.hid (fun W ad1 c1 ad2 c2 hW h1 h2 => by
    have h3 := samee_c baseE baseE _ _ _ _ W (HA.out.below hW) (HBB.out.below hW) h1 h2 (by simp [baseE]) (by simp [baseE])
    rw [(sameE_iff baseE baseE).2 rfl] at h3
    exact h3)
  have CM2 : Hid (∀ W ad1 c1 ad2 c2, Below w5.heap.size w5 W → Nl W (.slice ad1 2 c1) [2, 0] → Nl W (.slice ad2 2 c2) [1, 0] → Calls Tryd.prog 14 #[.agg #[.int .i64 1, .slice ad1 2 c1, .slice ad2 2 c2, .int .i64 0, .int .i64 0, .int .i64 0, .int .i64 0, .string ⟨#[]⟩], .int .i64 2] W fun x w' => x = .returned (.bool true) ∧ Below W.heap.size W w') := Lib.hid (fun W ad1 c1 ad2 c2 hW h1 h2 => by
    have h3 := maye_c baseE _ _ 2 W h1 h2 (by simp [baseE]) (by simp [baseE]) (show (0 : Nat) ≤ _ by decide) (HT.out.below (bn HB5.out hW))
    rw [base_may2] at h3
    exact h3)
  have CM3 : Hid (∀ W ad1 c1 ad2 c2, Below w5.heap.size w5 W → Nl W (.slice ad1 2 c1) [2, 0] → Nl W (.slice ad2 2 c2) [1, 0] → Calls Tryd.prog 14 #[.agg #[.int .i64 1, .slice ad1 2 c1, .slice ad2 2 c2, .int .i64 0, .int .i64 0, .int .i64 0, .int .i64 0, .string ⟨#[]⟩], .int .i64 3] W fun x w' => x = .returned (.bool false) ∧ Below W.heap.size W w') := Lib.hid (fun W ad1 c1 ad2 c2 hW h1 h2 => by
    have h3 := maye_c baseE _ _ 3 W h1 h2 (by simp [baseE]) (by simp [baseE]) (show (0 : Nat) ≤ _ by decide) (HT.out.below (bn HB5.out hW))
    rw [base_may3] at h3
    exact h3)
  clear h5 b5 CR k5 k6 ev hxs HR2 HB2 HR4 HB4 hv5
  go_wp2_with fail
  go_region_held3 (fun W => W.cell? ⟨ge, oe, none⟩ = some (.int .i64 1) ∧ W.cell? ⟨ge, oe + 1, none⟩ = some (.slice adA 2 capA) ∧ W.cell? ⟨ge, oe + 2, none⟩ = some (.slice adB 2 capB) ∧ W.cell? ⟨ge, oe + 3, none⟩ = some (.int .i64 0) ∧ W.cell? ⟨ge, oe + 4, none⟩ = some (.int .i64 0) ∧ W.cell? ⟨ge, oe + 5, none⟩ = some (.int .i64 0) ∧ W.cell? ⟨ge, oe + 6, none⟩ = some (.int .i64 0) ∧ W.cell? ⟨ge, oe + 7, none⟩ = some (.string ⟨#[]⟩)) (exact HS.out _ (by first | assumption | exact (Below.refl _ _).drew | exact Below.refl _ _))
    (first
    | (go_at_call 14; have z2 := z1; refine (CM3.out _ _ _ _ _ (by first | assumption | exact (Below.refl _ _).drew) m1 m2).mono ?_; rintro e w6 ⟨rfl, b6⟩; have b6' : Below w5.heap.size w5 w6 := bn (by assumption) b6; clear b6)
    | (go_at_call 14; refine (CM2.out _ _ _ _ _ (by first | assumption | exact (Below.refl _ _).drew) m1 m2).mono ?_; rintro e w6 ⟨rfl, b6⟩; have b6' : Below w5.heap.size w5 w6 := bn (by assumption) b6; have z1 : True := trivial; clear b6 m1 m2)
    | (go_at_call 16; refine (CS.out _ _ _ _ _ (by first | assumption | exact (Below.refl _ _).drew) m1 m2).mono ?_; rintro e w6 ⟨rfl, b6⟩; have b6' : Below w5.heap.size w5 w6 := bn (by assumption) b6; clear b6 m1 m2)
    | (go_at_call 26; refine (CB.out _).mono ?_; rintro e w6 ⟨ad1, c1, ad2, c2, rfl, m1, m2, b6⟩; have b6' : Below w5.heap.size w5 w6 := bn (by first | assumption | exact (Below.refl _ _).drew | exact Below.refl _ _) b6; clear b6)
    | fail)
  go_wp2
  go_ret
  exact ⟨rfl, bn HB5.out b6'⟩
end Go.Proofs.YtcnpckdchjjeoaaDoor
