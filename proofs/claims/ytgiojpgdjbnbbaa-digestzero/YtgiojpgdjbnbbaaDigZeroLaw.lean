/-
  DigestZero: the walk.
-/
import Derived.Test.YtgiojpgdjbnbbaaDigAwake
namespace Go.Proofs.Ytgiojpgdjbnbbaa
open Go.RowKit Go.Lib

def digs (l : List Int) : List Value := l.map (Value.int .u64)
theorem digs_len (l : List Int) : (digs l).length = l.length := List.length_map ..
theorem digs_at (l : List Int) (k : Nat) (hk : k < l.length) : (digs l)[k]? = some (.int .u64 l[k]) := by simp [digs, hk]
/-- The row v, of one's own from block B on, holds the digests l. -/
def DRow (w : World) (B : Nat) (v : Value) (l : List Int) : Prop := w.ownsRow B 26 1 v l.length (digs l)
theorem DRow.below {w w' : World} {B : Nat} {v : Value} {l : List Int} (h : DRow w B v l) (hb : Below w.heap.size w w') : DRow w' B v l := own_below h hb
theorem DRow.nl {w : World} {B : Nat} {v : Value} {l : List Int} (h : DRow w B v l) : Dl w v l := by
  rcases h.2 with ⟨rfl, h0⟩ | ⟨g, cap, cur, rfl, _⟩
  · obtain rfl := List.eq_nil_of_length_eq_zero h0
    exact Dl.nil _
  · refine ⟨some ⟨g, 0, none⟩, cap, rfl, fun _ => ⟨g, 0, rfl, fun k hk => ?_⟩⟩
    rw [Nat.zero_add]
    exact (World.ownsRow.cellAt h k (by omega)).trans (digs_at l k hk)
theorem digInfo : (Try.prog.info? 26).map (fun i => (i.zero, i.size, i.bytes)) = some (some (.int .u64 0), 1, 8) := by kernel_rfl
theorem drow_made (w : World) (n : Nat) (hn : n ≤ 1000000) : DRow (w.alloc (.cells (madeCells #[.int .u64 0] n) 26)) w.heap.size (.slice (some ⟨w.heap.size, 0, none⟩) n n) (List.replicate n 0) := by
  have e : digs (List.replicate n 0) = List.replicate n (.int .u64 0) := by simp [digs]
  unfold DRow
  rw [e, List.length_replicate]
  refine ⟨by simp, .inr ⟨w.heap.size, n, _, rfl, Nat.le_refl _, heap_alloc_new w _, Nat.le_refl _, by unfold maxLen; omega, by rw [size_madeCells, Nat.mul_one], ?_⟩⟩
  rw [toList_madeCells_one, Nat.mul_one, List.take_of_length_le (by simp)]
theorem digs_set (l : List Int) (k : Nat) (x : Int) : (digs l).set k (.int .u64 x) = digs (l.set k x) := by simp [digs, List.map_set]
theorem DRow.at2 {w : World} {B g cap n : Nat} {l : List Int} (h : DRow w B (.slice (some ⟨g, 0, none⟩) n cap) l) (hn : l.length = n) (k : Nat) (x : Int) (hk : l[k]? = some x) : w.cell? ⟨g, k, none⟩ = some (.int .u64 x) := by
  subst hn
  obtain ⟨hk', rfl⟩ := List.getElem?_eq_some_iff.1 hk
  exact (World.ownsRow.cellAt h k (by omega)).trans (digs_at l k hk')
theorem DRow.set2 {w : World} {B g cap n : Nat} {l : List Int} (h : DRow w B (.slice (some ⟨g, 0, none⟩) n cap) l) (hn : l.length = n) (k : Nat) (x : Int) : DRow (w.setCell ⟨g, k, none⟩ (.int .u64 x)) B (.slice (some ⟨g, 0, none⟩) n cap) (l.set k x) := by
  subst hn
  have h1 := (World.ownsRow.stored h k (.int .u64 x)).1
  rw [digs_set] at h1
  unfold DRow
  rw [List.length_set]
  exact h1
theorem DRow.soft2 {w : World} {B g cap n : Nat} {l : List Int} (h : DRow w B (.slice (some ⟨g, 0, none⟩) n cap) l) (hn : l.length = n) (k : Nat) : w.frozen? ⟨g, k, none⟩ = false := by
  subst hn
  exact World.ownsRow.frozenAt h k
theorem allZ_rep : ∀ n, allZ (List.replicate n 0) = true
  | 0 => rfl
  | n + 1 => by simp [List.replicate_succ, allZ, allZ_rep n]
theorem allD_rep (n : Nat) : allD (List.replicate n 0) = 0 := by rw [allD, allZ_rep]; rfl
theorem allZ_mem : ∀ {l : List Int}, allZ l = true → ∀ x ∈ l, x = 0
  | [], _, _, h => by simp at h
  | y :: t, h, x, hx => by
    rw [allZ] at h
    simp only [Bool.and_eq_true, beq_iff_eq] at h
    rcases List.mem_cons.1 hx with rfl | hx
    · exact h.1
    · exact allZ_mem h.2 x hx
theorem allZ_set (n k : Nat) (hk : k < n) (d : Int) (hd : d ≠ 0) : allZ ((List.replicate n 0).set k d) = false := by
  cases h : allZ ((List.replicate n 0).set k d)
  · rfl
  · exact absurd (allZ_mem h d (List.mem_set (by simpa using hk) d)) hd

set_option maxHeartbeats 8000000 in
theorem zero_c (many which d : Int) (w : World) :
    Calls Try.prog 5 #[.int .i64 many, .int .i64 which, .int .u64 d] w fun e w' => e = .returned (.bool true) ∧ Below w.heap.size w w' := by
  obtain ⟨i0, hi, hz0, hz1, hz2⟩ := info_parts byteInfo
  have HI := Lib.hid hi
  have HZ0 := Lib.hid hz0
  have HZ1 := Lib.hid hz1
  have HZ2 := Lib.hid hz2
  clear hi hz0 hz1 hz2
  go_enter Try.func5, Try.ntmps5
  go_wp2_with fail
  refine (low_c many 40 w (by decide) (by decide)).mono ?_
  rintro e w1 ⟨r, rfl, hr0, hr1, rfl⟩
  obtain ⟨m, hm⟩ : ∃ m : Nat, r + 1 = ((m : Nat) : Int) := ⟨(r + 1).toNat, by omega⟩
  obtain rfl : r = (m : Int) - 1 := by omega
  clear hm
  have e1 : wrap64 (1 + ((m : Int) - 1)) = (m : Int) := by unfold wrap64; omega
  have e1' : (1 + ((m : Int) - 1)) = (m : Int) := by omega
  have hm1 : 1 ≤ m ∧ m ≤ 40 := by omega
  clear hr0 hr1
  go_wp2_with fail
  refine (low_c which m w (by omega) (by omega)).mono ?_
  rintro e w1 ⟨q, rfl, hq0, hq1, rfl⟩
  obtain ⟨q, rfl⟩ : ∃ k : Nat, q = ((k : Nat) : Int) := ⟨q.toNat, by omega⟩
  have hqm : q < m := by omega
  clear e1 e1' hq0 hq1
  have hmk := run_make_row' (P := Try.prog) 23 26 (.int .u64 0) 8 Try.underlying23 digInfo rfl .i64 .i64 m (by omega) (by omega)
  go_wp2_with fail
  clear hmk
  have hd := drow_made w m (by omega)
  have hbw : Below w.heap.size w (w.alloc (.cells (madeCells #[.int .u64 0] m) 26)) := alloc_below _ _
  generalize w.alloc (.cells (madeCells #[.int .u64 0] m) 26) = w1 at hd hbw ⊢
  have HD := Lib.hid hd
  have HB := Lib.hid hbw
  clear hd hbw
  have hall : Calls Try.prog 10 #[.slice (some ⟨w.heap.size, 0, none⟩) m m] w1 fun e w' => e = .returned (.int .u64 0) ∧ Below w1.heap.size w1 w' := by
    have h := all_c (List.replicate m 0) _ w1 HD.out.nl (by simp; omega)
    rw [allD_rep] at h
    exact h
  refine hall.mono ?_
  clear hall
  rintro e w2 ⟨rfl, b2⟩
  have HD2 := Lib.hid (HD.out.below b2)
  have HB2 := Lib.hid (HB.out.trans (b2.mono HB.out.size))
  clear b2 HD HB
  by_cases hd0 : d = 0
  · subst hd0
    go_wp2_with fail
    have hall : Calls Try.prog 10 #[.slice (some ⟨w.heap.size, 0, none⟩) m m] w2 fun e w' => e = .returned (.int .u64 0) ∧ Below w2.heap.size w2 w' := by
      have h := all_c (List.replicate m 0) _ w2 HD2.out.nl (by simp; omega)
      rw [allD_rep] at h
      exact h
    refine hall.mono ?_
    clear hall
    rintro e w3 ⟨rfl, b3⟩
    go_wp2_with fail
    refine (awake_c w3).mono ?_
    rintro e w4 ⟨rfl, b4⟩
    go_wp2
    go_ret
    exact ⟨rfl, (HB2.out.trans (b3.mono HB2.out.size)).trans (b4.mono (Nat.le_trans HB2.out.size b3.size))⟩
  · have f1 : (d == 0) = false := by simpa using hd0
    have hc := HD2.out.at2 (by simp) q 0 (by simp [hqm])
    have hf := HD2.out.soft2 (by simp) q
    have HD3 := Lib.hid (HD2.out.set2 (by simp) q d)
    have hzl := allZ_set m q hqm d hd0
    have HB3 := Lib.hid (HB2.out.setCell (p := ⟨w.heap.size, q, none⟩) (Nat.le_refl _) (.int .u64 d))
    have hlen : ((List.replicate m 0).set q d).length = m := by simp
    generalize (List.replicate m 0).set q d = l at HD3 hzl hlen
    have HZL := Lib.hid hzl
    have HLEN := Lib.hid hlen
    have hgl : w.heap.size < w2.heap.size := World.block_lt_of_cell? w2 _ hc
    clear HD2 HB2 hzl hlen hd0
    go_wp2
    clear hc hf
    generalize w2.setCell ⟨w.heap.size, q, none⟩ (.int .u64 d) = w3 at HD3 HB3 ⊢
    go_loopw [8, 9] (fun v8 v9 wr => ∃ (k : Nat) (acc : List Int), k ≤ m ∧ v9 = .int .i64 (k : Int) ∧ Hid (acc = catD (l.take k)) ∧ Hid (acc.length = 8 * k) ∧ Hid (BRow wr w3.heap.size v8 acc) ∧ Hid (Below w3.heap.size w3 wr)) (fun _ v9 _ => m - (RowKit.intOf v9).toNat)
    case atStart => exact ⟨0, [], by omega, rfl, Lib.hid rfl, Lib.hid rfl, Lib.hid (BRow.nil _ _), Lib.hid (Below.refl _ _)⟩
    case round =>
      obtain ⟨k, acc, hk, rfl, hacc, hal, HR, HBB⟩ := hrel
      obtain ⟨w0, rfl⟩ : ∃ w0, w0 = wr := ⟨_, rfl⟩
      obtain ⟨ad4, cap4, rfl, _⟩ := HR.out.nl.form
      by_cases hp : k < m
      · have hkl : k < l.length := by have := HLEN.out; omega
        have hcx : Hid (acc ++ hi8 l[k] = catD (l.take (k + 1))) := Lib.hid (by
          rw [List.take_succ_eq_append_getElem hkl, catD_append, hacc.out]
          simp [catD])
        have HCX : Hid (∀ wr, Below w3.heap.size w3 wr → wr.cell? ⟨w.heap.size, k, none⟩ = some (.int .u64 l[k])) := Lib.hid (fun wr hb => (HD3.out.below hb).at2 HLEN.out k _ (List.getElem?_eq_getElem hkl))
        rw [hi8_numB] at hcx
        generalize l[k] = x at hcx HCX
        clear hacc hkl
        go_wp2
        go_loopw [8, 10] (fun v8 v10 wr => ∃ (j : Nat) (acc2 : List Int), j ≤ 8 ∧ v10 = .int .i64 ((j : Int) - 1) ∧ acc2.length + j = acc.length + 8 ∧ Hid (acc2 ++ numB x j = acc ++ numB x 8) ∧ Hid (BRow wr w3.heap.size v8 acc2) ∧ Hid (Below w3.heap.size w3 wr)) (fun _ v10 _ => ((RowKit.intOf v10) + 1).toNat)
        case atStart => exact ⟨8, acc, Nat.le_refl _, by go_num, rfl, Lib.hid rfl, HR, HBB⟩
        case round =>
          obtain ⟨j, acc2, hj, rfl, hacc2, hx2, HR2, HB5⟩ := hrel
          have hsz := HB5.out.size
          clear HR HBB
          obtain ⟨ad5, cap5, rfl, _⟩ := HR2.out.nl.form
          have HACC2 := Lib.hid (show acc2.length + j = 8 * k + 8 by have := hal.out; omega)
          clear hacc2
          cases j with
          | zero =>
            have e0 : decide ((0 : Int) ≤ ((0 : Nat) : Int) - 1) = false := by decide
            have HX := Lib.hid (show acc2 = catD (l.take (k + 1)) by have := hx2.out; rw [hcx.out] at this; simpa [numB] using this)
            clear hx2
            go_wp2
            go_roundw
            case rel => exact ⟨k + 1, acc2, hp, by go_num, HX, Lib.hid (by have := HACC2.out; omega), HR2, HB5⟩
            case measure => simp [RowKit.intOf]; omega
          | succ j =>
            have e0 : decide ((0 : Int) ≤ ((j + 1 : Nat) : Int) - 1) = true := by simp
            have c12 := HCX.out wr HB5.out
            have HX := Lib.hid (show (acc2 ++ [(x / 2 ^ (8 * j)) % 256]) ++ numB x j = acc ++ numB x 8 by have := hx2.out; rw [numB] at this; rw [← this]; simp)
            have hbig : acc2.length ≤ 1000 := by have := HACC2.out; omega
            clear hx2
            go_wp2_with (at_builtin; refine wpList_append_own _ rfl _ _ 32 rfl w3.heap.size 5 i0 (.int .u8 0) 1 1 Try.underlying32 HI.out HZ0.out HZ1.out HZ2.out rfl (by decide) _ _ _ rfl (World.ownsRow.alloc HR2.out _) ⟨wr.heap.size, 0, none⟩ 1 1 [.int .u8 (x / 2 ^ (8 * j) % 256)] rfl rfl (cell_one_new _ _ _) (fun x hx => by simp at hx; subst hx; rfl) (by unfold maxLen; omega) (by omega) (by simp; omega) ?_; intro v' w4 hown3 hgrow3 hnil3)
            go_roundw
            case rel => exact ⟨j, acc2 ++ [x / 2 ^ (8 * j) % 256], by omega, by go_num, by have := HACC2.out; have := hal.out; simp; omega, HX, Lib.hid (by
                unfold BRow
                have e : bys (acc2 ++ [x / 2 ^ (8 * j) % 256]) = bys acc2 ++ [.int .u8 (x / 2 ^ (8 * j) % 256)] := by simp [bys]
                rw [e, List.length_append]
                exact hown3), Lib.hid (HB5.out.trans ((alloc_below_of (by omega) _).trans (below_of_grown hgrow3 (by simp; omega) (fun g hg => (World.ownsRow.lt HR2.out g hg).1))))⟩
            case measure => simp [RowKit.intOf]
      · have hkl : k = l.length := by have := HLEN.out; omega
        have HKM := Lib.hid (show k = m by omega)
        have HACC := Lib.hid (show acc = catD l by rw [hacc.out, hkl, List.take_length])
        clear hkl hacc
        have hall : Calls Try.prog 10 #[.slice (some ⟨w.heap.size, 0, none⟩) m m] w0 fun e w' => e = .returned (.int .u64 (fnv 14695981039346656037 (catD l))) ∧ Below w0.heap.size w0 w' := by
          have h := all_c l _ w0 (HD3.out.below HBB.out).nl (by have := HLEN.out; omega)
          rw [allD_cat, HZL.out] at h
          exact h
        have HALL := Lib.hid hall
        clear hall
        go_wp2_with fail
        refine HALL.out.mono ?_
        rintro e w5 ⟨rfl, b5⟩
        have HB5 := Lib.hid (HBB.out.trans (b5.mono HBB.out.size))
        have HR5 := Lib.hid (HR.out.below b5)
        clear b5 HALL HR HBB
        go_wp2_with fail
        refine (of_c [acc] _ _ (pl_one (Bx.new _ w5 _) (HR5.out.nl.below (alloc_below _ _))) (by simp) (by simp; have := hal.out; omega)).mono ?_
        rintro e w6 ⟨rfl, rfl⟩
        rw [show fnvs 14695981039346656037 [acc] = fnv 14695981039346656037 (catD l) by rw [HACC.out]; rfl]
        go_wp2_with fail
        refine (awake_c _).mono ?_
        rintro e w7 ⟨rfl, b7⟩
        go_wp2
        go_ret
        have hA := (HB5.out.alloc HB5.out.size _).trans (b7.mono (by have := HB5.out.size; simp; omega))
        exact ⟨rfl, HB3.out.trans (hA.mono HB3.out.size)⟩
end Go.Proofs.Ytgiojpgdjbnbbaa
