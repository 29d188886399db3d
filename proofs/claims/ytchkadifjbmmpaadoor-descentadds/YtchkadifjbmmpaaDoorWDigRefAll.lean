/-
  Chapter 5's own One and All, by contract.
-/
import Derived.Test.YtchkadifjbmmpaaDoorWDigAll
namespace Go.Proofs.YtchkadifjbmmpaaDoor.D
open Go.RowKit Go.Lib

def numB (n : Int) : Nat → List Int
  | 0 => []
  | k + 1 => (n / 2 ^ (8 * k)) % 256 :: numB n k
theorem numB_len (n : Int) : ∀ k, (numB n k).length = k
  | 0 => rfl
  | k + 1 => by simp [numB, numB_len n k]
theorem hi8_numB (x : Int) : hi8 x = numB x 8 := by simp [hi8, numB, hiB]
def catD : List Int → List Int
  | [] => []
  | x :: t => hi8 x ++ catD t
theorem catD_append : ∀ a b : List Int, catD (a ++ b) = catD a ++ catD b
  | [], b => rfl
  | x :: t, b => by simp [catD, catD_append t b]
theorem catD_len : ∀ a : List Int, (catD a).length = 8 * a.length
  | [] => rfl
  | x :: t => by simp [catD, catD_len t, hi8]; omega
theorem allZ_append : ∀ a b : List Int, allZ (a ++ b) = (allZ a && allZ b)
  | [], b => rfl
  | x :: t, b => by simp [allZ, allZ_append t b, Bool.and_assoc]
theorem fnv_append : ∀ (a b : List Int) (h : Int), fnv h (a ++ b) = fnv (fnv h a) b
  | [], b, h => rfl
  | x :: t, b, h => by simp [fnv, fnv_append t b]
theorem sumD_cat : ∀ (l : List Int) (s : Int), sumD s l = fnv s (catD l)
  | [], s => rfl
  | x :: t, s => by rw [sumD, catD, fnv_append, sumD_cat t]
theorem allD_cat (l : List Int) : allD l = if allZ l then 0 else fnv 14695981039346656037 (catD l) := by rw [allD, sumD_cat]
theorem alloc_below_of {B : Nat} {w : World} (h : B ≤ w.heap.size) (o : Obj) : Below B w (w.alloc o) := (Below.refl _ _).alloc h _

/-- A list of one part, just laid. -/
theorem pl_one {T : TypeId} {w : World} {g cap : Nat} {u : Value} {l : List Int} (h : Bx T w g #[u]) (hu : Bl w u l) : Pl w (.slice (some ⟨g, 0, none⟩) 1 cap) [l] :=
  ⟨some ⟨g, 0, none⟩, cap, rfl, fun _ => ⟨g, 0, rfl, fun k hk => by
    match k, hk with
    | 0, _ => exact ⟨u, by rw [Nat.zero_add, h.cell 0]; rfl, hu⟩⟩⟩

set_option maxHeartbeats 4000000 in
theorem one_c (l : List Int) (v : Value) (w : World) (h1 : Bl w v l) (hn : l.length ≤ 1000000) :
    Calls Tryd.prog 30 #[v] w fun e w' => e = .returned (.int .u64 (fnv 14695981039346656037 l)) ∧ Below w.heap.size w w' := by
  obtain ⟨ad1, cap1, rfl, _⟩ := h1.form
  have H1 := Lib.hid h1
  clear h1
  go_enter Tryd.func30, Tryd.ntmps30
  go_wp2_with fail
  refine (refof_c [l] _ _ (pl_one (Bx.new _ w _) (H1.out.below (alloc_below _ _))) (by simp) (by simpa using hn)).mono ?_
  rintro e w1 ⟨rfl, rfl⟩
  go_wp2
  go_ret
  exact ⟨rfl, alloc_below _ _⟩

set_option maxHeartbeats 8000000 in
theorem refall_c (l : List Int) (v : Value) (w : World) (h1 : Dl w v l) (hn : l.length ≤ 1000) :
    Calls Tryd.prog 32 #[v] w fun e w' => e = .returned (.int .u64 (allD l)) ∧ Below w.heap.size w w' := by
  obtain ⟨i0, hi, hz0, hz1, hz2⟩ := info_parts byteInfo
  have HI := Lib.hid hi
  have HZ0 := Lib.hid hz0
  have HZ1 := Lib.hid hz1
  have HZ2 := Lib.hid hz2
  clear hi hz0 hz1 hz2
  obtain ⟨ad1, cap1, rfl, k1⟩ := h1
  have H1 := Lib.hid k1
  clear k1
  have HA := Lib.hid (allD_cat l)
  generalize allD l = R at HA ⊢
  go_enter Tryd.func32, Tryd.ntmps32
  go_wp2
  go_loopw [3, 4, 5] (fun v3 v4 v5 wr => ∃ (k : Nat) (b : Bool) (acc : List Int), k ≤ l.length ∧ v5 = .int .i64 (k : Int) ∧ v3 = .bool b ∧ Hid (b = !allZ (l.take k)) ∧ Hid (acc = catD (l.take k)) ∧ acc.length = 8 * k ∧ Hid (BRow wr w.heap.size v4 acc) ∧ Hid (Below w.heap.size w wr)) (fun _ _ v5 _ => l.length - (RowKit.intOf v5).toNat)
  case atStart => exact ⟨0, false, [], by omega, rfl, rfl, Lib.hid rfl, Lib.hid rfl, rfl, Lib.hid (BRow.nil _ _), Lib.hid (Below.refl _ _)⟩
  case round =>
    obtain ⟨k, b, acc, hk, rfl, rfl, hb, hacc, hlen, HR, HB⟩ := hrel
    obtain ⟨w0, rfl⟩ : ∃ w0, w0 = wr := ⟨_, rfl⟩
    obtain ⟨ad4, cap4, rfl, _⟩ := HR.out.nl.form
    by_cases hp : k < l.length
    · obtain ⟨g1, o1, rfl, c1⟩ := H1.out (by omega)
      have C1 := Lib.hid c1
      have c11 := (c1.below HB.out) k hp
      have hz : Hid (∀ b2, b2 = (b || (l[k] != 0)) → b2 = !allZ (l.take (k + 1))) := Lib.hid (by
        rintro _ rfl
        rw [List.take_succ_eq_append_getElem hp, allZ_append, hb.out]
        simp only [allZ, Bool.and_true, Bool.not_and]
        rfl)
      have hc : Hid (acc ++ hi8 l[k] = catD (l.take (k + 1))) := Lib.hid (by
        rw [List.take_succ_eq_append_getElem hp, catD_append, hacc.out]
        simp [catD])
      have HCX : Hid (∀ wr, Below w.heap.size w wr → wr.cell? ⟨g1, o1 + k, none⟩ = some (.int .u64 l[k])) := Lib.hid (fun wr hb => (C1.out.below hb) k hp)
      clear c1 C1 H1 hb hacc
      rw [hi8_numB] at hc
      generalize l[k] = x at c11 hz hc HCX
      rcases (show (b = true ∧ (b || (x != 0)) = true) ∨ (b = false ∧ (x != 0) = false ∧ (b || (x != 0)) = false) ∨ (b = false ∧ (x != 0) = true ∧ (b || (x != 0)) = true) by cases b <;> cases (x != 0) <;> simp) with ⟨rfl, e2⟩ | ⟨rfl, f1, e2⟩ | ⟨rfl, f1, e2⟩
      all_goals
        have HB2 := Lib.hid (hz.out _ e2.symm)
        clear hz e2
        go_wp2
        go_loopw [4, 6] (fun v4 v6 wr => ∃ (j : Nat) (acc2 : List Int), j ≤ 8 ∧ v6 = .int .i64 ((j : Int) - 1) ∧ acc2.length + j = acc.length + 8 ∧ Hid (acc2 ++ numB x j = acc ++ numB x 8) ∧ Hid (BRow wr w.heap.size v4 acc2) ∧ Hid (Below w.heap.size w wr)) (fun _ v6 _ => ((RowKit.intOf v6) + 1).toNat)
        case atStart => exact ⟨8, acc, Nat.le_refl _, by go_num, rfl, Lib.hid rfl, HR, HB⟩
        case round =>
          obtain ⟨j, acc2, hj, rfl, hacc2, hx2, HR2, HBB⟩ := hrel
          have hsz := HBB.out.size
          clear c11 HR HB
          obtain ⟨ad5, cap5, rfl, _⟩ := HR2.out.nl.form
          cases j with
          | zero =>
            have e0 : decide ((0 : Int) ≤ ((0 : Nat) : Int) - 1) = false := by decide
            have HX := Lib.hid (show acc2 = catD (l.take (k + 1)) by have := hx2.out; rw [hc.out] at this; simpa [numB] using this)
            clear hx2
            go_wp2
            go_roundw
            case rel => exact ⟨k + 1, _, acc2, hp, by go_num, rfl, HB2, HX, by omega, HR2, HBB⟩
            case measure => simp [RowKit.intOf]; omega
          | succ j =>
            have e0 : decide ((0 : Int) ≤ ((j + 1 : Nat) : Int) - 1) = true := by simp
            have c12 := HCX.out wr HBB.out
            have HX := Lib.hid (show (acc2 ++ [(x / 2 ^ (8 * j)) % 256]) ++ numB x j = acc ++ numB x 8 by have := hx2.out; rw [numB] at this; rw [← this]; simp)
            clear hx2
            go_wp2_with (at_builtin; refine wpList_append_own _ rfl _ _ 55 rfl w.heap.size 5 i0 (.int .u8 0) 1 1 Tryd.underlying55 HI.out HZ0.out HZ1.out HZ2.out rfl (by decide) _ _ _ rfl (World.ownsRow.alloc HR2.out _) ⟨wr.heap.size, 0, none⟩ 1 1 [.int .u8 (x / 2 ^ (8 * j) % 256)] rfl rfl (cell_one_new _ _ _) (fun x hx => by simp at hx; subst hx; rfl) (by unfold maxLen; omega) (by omega) (by simp; omega) ?_; intro v' w3 hown3 hgrow3 hnil3)
            go_roundw
            case rel => exact ⟨j, acc2 ++ [x / 2 ^ (8 * j) % 256], by omega, by go_num, by simp; omega, HX, Lib.hid (by
                unfold BRow
                have e : bys (acc2 ++ [x / 2 ^ (8 * j) % 256]) = bys acc2 ++ [.int .u8 (x / 2 ^ (8 * j) % 256)] := by simp [bys]
                rw [e, List.length_append]
                exact hown3), Lib.hid (HBB.out.trans ((alloc_below_of (by omega) _).trans (below_of_grown hgrow3 (by simp; omega) (fun g hg => (World.ownsRow.lt HR2.out g hg).1))))⟩
            case measure => simp [RowKit.intOf]
    · have hkl : k = l.length := by omega
      subst hkl
      rw [List.take_length] at hb hacc
      have HZ := Lib.hid (show allZ l = !b by rw [hb.out, Bool.not_not])
      clear hb
      cases b
      · go_wp2
        go_ret
        exact ⟨by rw [HA.out, HZ.out]; rfl, HB.out⟩
      · have HO : Hid (Calls Tryd.prog 30 #[.slice ad4 (8 * l.length) cap4] w0 fun e w' => e = .returned (.int .u64 (fnv 14695981039346656037 (catD l))) ∧ Below w0.heap.size w0 w') := Lib.hid (by
          have h := one_c acc _ w0 HR.out.nl (by omega)
          rw [hlen] at h
          rw [← hacc.out]
          exact h)
        go_wp2_with fail
        refine HO.out.mono ?_
        rintro e w1 ⟨rfl, b1⟩
        go_wp2
        go_ret
        exact ⟨by rw [HA.out, HZ.out]; rfl, HB.out.trans (b1.mono HB.out.size)⟩
end Go.Proofs.YtchkadifjbmmpaaDoor.D
