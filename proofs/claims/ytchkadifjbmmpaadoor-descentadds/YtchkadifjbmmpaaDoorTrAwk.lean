/-
  awake of the statements on package tree, by contract.
-/
import Derived.Test.YtchkadifjbmmpaaDoorTrSame
namespace Go.Proofs.YtchkadifjbmmpaaDoor
open Go.RowKit Go.Lib Go.Maps
set_option maxRecDepth 100000
set_option linter.unusedSimpArgs false

def oneR : R.Rc := ⟨0, 5, 0, 0, ⟨#[97]⟩⟩
theorem one_c (w : World) : Calls Tryd.prog 43 #[] w fun e w' => e = .returned (.agg #[.int .i64 oneR.o, .int .i64 oneR.s, .int .i64 oneR.w, .int .i64 oneR.c, .string oneR.t]) ∧ Below w.heap.size w w' := by
  go_enter Tryd.func43, Tryd.ntmps43
  go_wp2
  have hx := R.Bx.new 36 w #[.int .i64 0, .int .i64 5, .int .i64 0, .int .i64 0, .string ⟨#[97]⟩]
  have r0 := hx.cell 0
  have r1 := hx.cell 1
  have r2 := hx.cell 2
  have r3 := hx.cell 3
  have r4 := hx.cell 4
  simp only [List.getElem?_toArray, List.getElem?_cons_succ, List.getElem?_cons_zero] at r0 r1 r2 r3 r4
  refine bodyPost_ret (v := .agg #[.int .i64 oneR.o, .int .i64 oneR.s, .int .i64 oneR.w, .int .i64 oneR.c, .string oneR.t]) (by simp [results, Tryd.results43, go_sem, r0, r1, r2, r3, r4, oneR]) rfl ⟨rfl, alloc_below _ _⟩
theorem one_may : R.mayR oneR = true := by decide +kernel
def oneS : Sb := [((0, 5), R.layL oneR)]
theorem put_ones : putSs [] [oneR, oneR] = oneS := by
  have h1 : putS [] oneR = oneS := if_pos ⟨one_may, by simp⟩
  have h2 : putS oneS oneR = oneS := if_neg (fun hc => hc.2 (by simp [oneS, kyR, oneR]))
  show putS (putS [] oneR) oneR = oneS
  rw [h1, h2]
def d0 : Int := D.fnv 14695981039346656037 (R.layL oneR)
def r4 : Int := D.allD [0, d0, 0, 0]
def r3 : Int := D.allD [0, r4, 0, 0]
def r2 : Int := D.allD [r3, 0, 0, 0]
def r1 : Int := D.allD [r2, 0, 0, 0]
def r0 : Int := D.allD [r1, 0, 0, 0]
theorem d0_ne : d0 ≠ 0 := by decide +kernel
theorem root_ne : D.allD [r0, 0, 0, 0, 0, 0, 0, 0] ≠ 0 := by decide +kernel
def G1 (a : Nat) : Int := if a = 346 then d0 else if a = 86 then r4 else if a = 21 then r3 else if a = 5 then r2 else if a = 1 then r1 else if a = 0 then r0 else 0
theorem one_leaf0 (m : Nat) (hm : m < 1024) : G1 (341 + m) = leafS oneS 0 m := by
  by_cases h : m = 5
  · subst h
    rfl
  · have h1 : G1 (341 + m) = 0 := by
      unfold G1
      rw [if_neg (by omega), if_neg (by omega), if_neg (by omega), if_neg (by omega), if_neg (by omega), if_neg (by omega)]
    have h2 : leafS oneS 0 m = 0 := by
      unfold leafS oneS
      have : ¬ ((0 : Int), (5 : Int)) = (((0 : Nat) : Int), (m : Int)) := fun e => by
        have := congrArg Prod.snd e
        simp only at this
        omega
      rw [List.find?_cons_of_neg (by simpa using this), List.find?_nil]
    rw [h1, h2]
theorem one_cons (a : Nat) (ha : a < 341) : Cons G1 a := by
  unfold Cons
  by_cases h0 : a = 0
  · subst h0; rfl
  · by_cases h1 : a = 1
    · subst h1; rfl
    · by_cases h5 : a = 5
      · subst h5; rfl
      · by_cases h21 : a = 21
        · subst h21; rfl
        · by_cases h86 : a = 86
          · subst h86; rfl
          · have z : ∀ c, (c - 1) / 4 = a → 0 < c → G1 c = 0 := fun c hc hc0 => by
              unfold G1
              rw [if_neg (by omega), if_neg (by omega), if_neg (by omega), if_neg (by omega), if_neg (by omega), if_neg (by omega)]
            have za : G1 a = 0 := by
              unfold G1
              rw [if_neg (by omega), if_neg (by omega), if_neg (by omega), if_neg (by omega), if_neg (by omega), if_neg (by omega)]
            rw [za, z (4 * a + 1) (by omega) (by omega), z (4 * a + 2) (by omega) (by omega), z (4 * a + 3) (by omega) (by omega), z (4 * a + 4) (by omega) (by omega)]
            rfl
theorem one_tree (a : Nat) (ha : a < 1365) : treeF oneS 0 a = G1 a := (treeF_uniq one_cons one_leaf0 1365 a (by omega) ha).symm
theorem one_far (o a : Nat) (ho : o ≠ 0) (ha : a < 1365) : treeF oneS o a = 0 := by
  refine (treeF_uniq (G := fun _ => 0) (fun a _ => by unfold Cons; rfl) (fun m _ => ?_) 1365 a (by omega) ha).symm
  unfold leafS oneS
  have : ¬ ((0 : Int), (5 : Int)) = ((o : Int), (m : Int)) := fun e => by
    have := congrArg Prod.fst e
    simp only at this
    omega
  rw [List.find?_cons_of_neg (by simpa using this), List.find?_nil]
theorem one_root : D.allD (rootL (treeF oneS)) ≠ 0 := by
  unfold rootL
  rw [one_tree 0 (by omega), one_far 1 0 (by omega) (by omega), one_far 2 0 (by omega) (by omega), one_far 3 0 (by omega) (by omega), one_far 4 0 (by omega) (by omega), one_far 5 0 (by omega) (by omega), one_far 6 0 (by omega) (by omega), one_far 7 0 (by omega) (by omega)]
  exact root_ne
theorem nil_root : D.allD (rootL (treeF [])) = 0 := by
  unfold rootL
  rw [← treeF_nil 0 0 (by omega) (by omega), ← treeF_nil 1 0 (by omega) (by omega), ← treeF_nil 2 0 (by omega) (by omega), ← treeF_nil 3 0 (by omega) (by omega), ← treeF_nil 4 0 (by omega) (by omega), ← treeF_nil 5 0 (by omega) (by omega), ← treeF_nil 6 0 (by omega) (by omega), ← treeF_nil 7 0 (by omega) (by omega)]
  rfl
theorem one_sum : sumV (treeF oneS) 0 5 5 = d0 ∧ sumB 0 5 5 = true ∧ sumB 0 0 1 = false := by
  have h : sumB 0 5 5 = true := by decide
  refine ⟨?_, h, by decide⟩
  unfold sumV
  rw [if_pos h]
  exact one_tree 346 (by omega)
theorem one_drop : dropSs oneS [(0, 5)] = [] := rfl
theorem Tr.ne {w : World} {p : Nat} {S : Sb} {own : Nat → Prop} (h : Tr w p S own) : ∃ F mv, TB w p mv F ∧ ∀ o a, o < 8 → a < 1365 → F o a = treeF S o a := by
  obtain ⟨mb, T, hx, rfl⟩ := h
  exact ⟨_, _, hx.bx, fun _ _ _ _ => rfl⟩
/-- Sum and Root, by the records. -/
theorem sumT_c (p : Nat) (S : Sb) (own : Nat → Prop) (o L i : Int) (w : World) (h : Tr w p S own) :
    Calls Tryd.prog 19 #[.pointer (some ⟨p, 0, none⟩), .int .i64 o, .int .i64 L, .int .i64 i] w fun e w' => e = .returned (.tuple #[.int .u64 (sumV (treeF S) o L i), .bool (sumB o L i)]) ∧ w' = w := by
  obtain ⟨mb, T, hx, rfl⟩ := h
  exact sum_c p (some mb) _ o L i w hx.bx
theorem rootT_c (p : Nat) (S : Sb) (own : Nat → Prop) (w : World) (h : Tr w p S own) :
    Calls Tryd.prog 22 #[.pointer (some ⟨p, 0, none⟩)] w fun e w' => e = .returned (.int .u64 (D.allD (rootL (treeF S)))) ∧ Below w.heap.size w w' := by
  obtain ⟨mb, T, hx, rfl⟩ := h
  exact root_c p (some mb) _ w hx.bx
theorem keyfield_run (a b c d : Int) (s : ByteArray) (W : World) : (Instr.field 36 (.agg #[.int .i64 a, .int .i64 b, .int .i64 c, .int .i64 d, .string s]) 0).run Tryd.prog W = .ok (.agg #[.int .i64 a, .int .i64 b]) W := by
  have u := Tryd.underlying36
  have uK := Tryd.underlying32
  simp [Instr.field, go_sem, u, uK, Tryd.isAgg32, Tryd.sizeOf32, part, asAgg]
/-- Two records that were just laid. -/
theorem rl_two {w : World} {g : Nat} (hx : R.Bx 36 w g #[.int .i64 oneR.o, .int .i64 oneR.s, .int .i64 oneR.w, .int .i64 oneR.c, .string oneR.t, .int .i64 oneR.o, .int .i64 oneR.s, .int .i64 oneR.w, .int .i64 oneR.c, .string oneR.t]) : R.Rl w (.slice (some ⟨g, 0, none⟩) 2 2) [oneR, oneR] := by
  refine .inr ⟨_, 2, rfl, by decide, fun _ => ⟨g, 0, rfl, fun k hk => ?_⟩⟩
  have hk2 : k < 2 := hk
  match k, hk2 with
  | 0, _ => exact ⟨hx.cell 0, hx.cell 1, hx.cell 2, hx.cell 3, hx.cell 4⟩
  | 1, _ => exact ⟨hx.cell 5, hx.cell 6, hx.cell 7, hx.cell 8, hx.cell 9⟩
theorem one_ok : okKy (kyR oneR) := ⟨⟨by decide, by decide⟩, ⟨by decide, by decide⟩⟩
/-- Drop of one Key. -/
theorem drop1_c (p : Nat) (S : Sb) (own : Nat → Prop) (o s : Int) (w : World) (h : Tr w p S own) (ho : okKy (o, s)) (hn : S.length ≤ 100000) :
    Calls Tryd.prog 15 #[.pointer (some ⟨p, 0, none⟩), .slice (some ⟨w.heap.size, 0, none⟩) 1 1] (w.alloc (.cells #[.int .i64 o, .int .i64 s] 32)) fun e w' =>
      e = .returned (.int .i64 ((S.length : Int) - ((dropSs S [(o, s)]).length : Int))) ∧ Tr w' p (dropSs S [(o, s)]) own ∧ Turn own w w' := by
  have bx : R.Bx 32 (w.alloc (.cells #[.int .i64 o, .int .i64 s] 32)) w.heap.size #[.int .i64 o, .int .i64 s] := R.Bx.new _ w _
  have hb := alloc_below w (.cells #[.int .i64 o, .int .i64 s] 32)
  refine (drop_c p S own (.slice (some ⟨w.heap.size, 0, none⟩) 1 1) [(o, s)] _ (h.below hb) (fun W hW => ?_) (fun k hk => ?_) (by simp) hn).mono ?_
  · have hx : R.Bx 32 W w.heap.size #[.int .i64 o, .int .i64 s] := (hW.block _ bx.lt (fun hh => by have := h.up _ hh; omega)).trans bx
    refine ⟨_, 1, rfl, by simp, fun _ => ⟨w.heap.size, 0, rfl, fun k hk => ?_⟩⟩
    have hk1 : k < 1 := hk
    match k, hk1 with
    | 0, _ => exact ⟨hx.cell 0, hx.cell 1⟩
  · simp only [List.mem_singleton] at hk
    subst hk
    exact ho
  · rintro e w' ⟨rfl, h1, t1⟩
    exact ⟨rfl, h1, (Turn.ofBelow hb).trans t1⟩
set_option maxHeartbeats 8000000 in
theorem awake_c (w : World) (hT : R.Tabs w) : Calls Tryd.prog 13 #[] w fun e w' => e = .returned (.bool true) ∧ Below w.heap.size w w' := by
  have mixed : Tryd.prog.follows .mixedOrders = true := by kernel_rfl
  have HT := Lib.hid hT
  clear hT
  go_enter Tryd.func13, Tryd.ntmps13
  go_wp2_with fail
  refine (new_c w).mono ?_
  rintro e w1 ⟨p, own, rfl, h1, o1, b1⟩
  have H1 := Lib.hid h1
  have O1 := Lib.hid o1
  have B1 := Lib.hid b1
  clear h1 o1 b1
  go_wp2_with fail
  refine (one_c w1).mono ?_
  rintro e w2 ⟨rfl, b2⟩
  have H2 := Lib.hid (H1.out.below b2)
  have B2 := Lib.hid (bn B1.out b2)
  clear b2 H1 B1
  go_wp2_with fail
  refine (one_c w2).mono ?_
  rintro e w3 ⟨rfl, b3⟩
  have H3 := Lib.hid (H2.out.below b3)
  have B3 := Lib.hid (bn B2.out b3)
  clear b3 H2 B2
  obtain ⟨w4, hw4⟩ : ∃ w4, w4 = w3.alloc (.cells #[.int .i64 oneR.o, .int .i64 oneR.s, .int .i64 oneR.w, .int .i64 oneR.c, .string oneR.t, .int .i64 oneR.o, .int .i64 oneR.s, .int .i64 oneR.w, .int .i64 oneR.c, .string oneR.t] 36) := ⟨_, rfl⟩
  have b4 : Below w3.heap.size w3 w4 := by rw [hw4]; exact alloc_below _ _
  have x4 : R.Bx 36 w4 w3.heap.size #[.int .i64 oneR.o, .int .i64 oneR.s, .int .i64 oneR.w, .int .i64 oneR.c, .string oneR.t, .int .i64 oneR.o, .int .i64 oneR.s, .int .i64 oneR.w, .int .i64 oneR.c, .string oneR.t] := by rw [hw4]; exact R.Bx.new _ w3 _
  have H4 := Lib.hid (H3.out.below b4)
  have B4 := Lib.hid (bn B3.out b4)
  have CP := Lib.hid (put_c p [] own (.slice (some ⟨w3.heap.size, 0, none⟩) 2 2) [oneR, oneR] w4 H4.out (fun W hW => rl_two ((hW.block _ x4.lt (fun hh => by have := H3.out.up _ hh; omega)).trans x4)) (fun r hr => by
    have : r = oneR := by simpa using hr
    subst this
    exact ⟨by decide, one_ok⟩) (by simp) (by simp) (fun W hW => HT.out.below (B4.out.trans (hW.below B4.out.size O1.out))))
  rw [put_ones] at CP
  have HW4 := Lib.hid hw4
  clear b4 x4 hw4 H3 B3
  go_wp2_with fail
  rw [show w3.alloc (.cells #[.int .i64 oneR.o, .int .i64 oneR.s, .int .i64 oneR.w, .int .i64 oneR.c, .string oneR.t, .int .i64 oneR.o, .int .i64 oneR.s, .int .i64 oneR.w, .int .i64 oneR.c, .string oneR.t] 36) = w4 from HW4.out.symm]
  refine CP.out.mono ?_
  rintro e w5 ⟨own5, rfl, h5, t5, o5⟩
  have H5 := Lib.hid h5
  have B5 : Hid (Below w.heap.size w w5) := Lib.hid (B4.out.trans (t5.below B4.out.size O1.out))
  have O5 : Hid (∀ i, own5 i → w.heap.size ≤ i) := Lib.hid (fun i hi => (o5 i hi).elim (O1.out i) (fun h => Nat.le_trans B4.out.size h))
  clear h5 t5 o5 H4 B4 CP HW4 O1
  rw [show ((oneS.length : Int) - (([] : Sb).length : Int)) = 1 from rfl]
  go_wp2_with fail
  refine (len_c p oneS own5 w5 H5.out).mono ?_
  rintro e w6 ⟨rfl, rfl⟩
  rw [show (oneS.length : Int) = 1 from rfl]
  go_wp2_with fail
  refine (sumT_c p oneS own5 0 5 5 w6 H5.out).mono ?_
  rintro e w7 ⟨rfl, rfl⟩
  rw [one_sum.1, one_sum.2.1]
  go_wp2_with fail
  refine (sumT_c p oneS own5 0 0 1 w7 H5.out).mono ?_
  rintro e w8 ⟨rfl, rfl⟩
  rw [one_sum.2.2]
  have hd : (d0 != 0) = true := by simpa using d0_ne
  have hrt : (D.allD (rootL (treeF oneS)) != 0) = true := by simpa using one_root
  generalize sumV (treeF oneS) 0 0 1 = z0 at *
  generalize d0 = z1 at *
  go_wp2_with fail
  refine (rootT_c p oneS own5 w8 H5.out).mono ?_
  rintro e w9 ⟨rfl, b9⟩
  generalize D.allD (rootL (treeF oneS)) = z2 at *
  have H9 := Lib.hid (H5.out.below b9)
  have B9 := Lib.hid (bn B5.out b9)
  clear b9 H5 B5
  go_wp2_with fail
  refine (one_c w9).mono ?_
  rintro e w10 ⟨rfl, b10⟩
  have H10 := Lib.hid (H9.out.below b10)
  have B10 := Lib.hid (bn B9.out b10)
  clear b10 H9 B9
  have CD := Lib.hid (drop1_c p oneS own5 oneR.o oneR.s w10 H10.out one_ok (by simp [oneS]))
  rw [show dropSs oneS [(oneR.o, oneR.s)] = [] from rfl] at CD
  have hkf := keyfield_run oneR.o oneR.s oneR.w oneR.c oneR.t w10
  clear hd hrt
  go_wp2_with fail
  refine CD.out.mono ?_
  rintro e w11 ⟨rfl, h11, t11⟩
  rw [show ((oneS.length : Int) - (([] : Sb).length : Int)) = 1 from rfl]
  have H11 := Lib.hid h11
  have B11 : Hid (Below w.heap.size w w11) := Lib.hid (B10.out.trans (t11.below B10.out.size O5.out))
  clear h11 t11 CD H10 B10 hkf
  go_wp2_with fail
  refine (rootT_c p [] own5 w11 H11.out).mono ?_
  rintro e w12 ⟨rfl, b12⟩
  rw [nil_root]
  have H12 := Lib.hid (H11.out.below b12)
  have B12 := Lib.hid (bn B11.out b12)
  clear b12 H11 B11
  go_wp2_with fail
  refine (new_c w12).mono ?_
  rintro e w13 ⟨p2, own2, rfl, h13, _, b13⟩
  have H13 := Lib.hid (H12.out.below b13)
  have G13 := Lib.hid h13
  have B13 := Lib.hid (bn B12.out b13)
  clear h13 b13 H12 B12
  go_wp2_with fail
  refine (same_c p p2 [] [] own5 own2 w13 H13.out G13.out ⟨rfl, fun x hx => by cases hx⟩).mono ?_
  rintro e w14 ⟨rfl, b14⟩
  go_wp2_with fail
  go_ret
  exact ⟨rfl, bn B13.out b14⟩
end Go.Proofs.YtchkadifjbmmpaaDoor
