/-
  Clone, Grow, Concat, by contract.
-/
import Derived.Test.YtgdajnjfkokmdaaGrowf
import Derived.Test.YtgdajnjfkokmdaaPstDrop
namespace Go.Proofs.Ytgdajnjfkokmdaa
open Go.RowKit Go.Lib
set_option maxRecDepth 100000

set_option maxHeartbeats 4000000 in
theorem clone_c (l : List Int) (v : Value) (w : World) (h : Nl w v l) (hn : l.length ≤ 1000000) : Calls Try.prog 57 #[v] w (rowT l w) := by
  rcases h with ⟨rfl, rfl⟩ | ⟨ad, cap, rfl, h⟩
  · have hq := fun W => Lib.run_eql_slice_nil (P := Try.prog) W 35 3 none 0 0 0 0 Try.underlying35
    go_enter Try.func57, Try.ntmps57
    go_wp2
    go_ret
    exact ⟨_, rfl, Row.nil _ _, Below.refl _ _⟩
  · obtain ⟨i0, hi, hz0, hz1, hz2⟩ := info_parts intInfo
    have HN : Hid (∀ i u, (ints l)[i]? = some u → (w.alloc (.cells #[] 3)).cell? (ad.add i) = some u) := Lib.hid (fun i u hu => by
      have h1 := Nl.news h i u hu
      exact (((Below.refl _ w).alloc (Nat.le_refl _) (.cells #[] 3)).cell (World.block_lt_of_cell? w _ h1)).trans h1)
    have HO := Lib.hid (row_empty w)
    have hq := fun W => Lib.run_eql_slice_nil (P := Try.prog) W 35 3 (some ad) l.length cap 0 0 Try.underlying35
    clear h
    go_enter Try.func57, Try.ntmps57
    go_wp2_with (at_builtin; refine wpList_append_own _ rfl _ _ 35 rfl w.heap.size 3 i0 (.int .i64 0) 1 8 Try.underlying35 hi hz0 hz1 hz2 rfl (by decide) _ _ _ rfl HO.out ad l.length cap (ints l) rfl (by rw [ints_len, Nat.mul_one]) (by exact HN.out) (ints_one l) (by unfold maxLen; omega) (by omega) (by simp) ?_; intro v' w3 hown3 hgrow3 hnil3)
    go_ret
    refine ⟨_, rfl, by rw [Nat.zero_add, List.nil_append] at hown3; exact hown3, ?_⟩
    exact ((Below.refl _ w).alloc (Nat.le_refl _) _).trans (below_of_grown hgrow3 (by simp) (by intro g hg; cases hg; exact Nat.le_refl _))

theorem zc_size (cs : Array Value) (n : Nat) : (Builtin.zeroCells cs n).size = n * cs.size := by simp [Builtin.zeroCells]
theorem grow_c (n : Nat) (w : World) (hn : n ≤ 100000) :
    Calls Try.prog 73 #[.slice none 0 0, .int .i64 (n : Int)] w fun e w' => ∃ v, e = .returned v ∧ PRow w' w.heap.size v [] ∧ Below w.heap.size w w' := by
  rcases Nat.eq_zero_or_pos n with hz | hz
  · subst hz
    refine (Any8.slices_Grow_room Try.growP none 0 0 0 w (by omega) (by omega) (by omega) (by omega)).mono ?_
    rintro e w' ⟨rfl, rfl⟩
    exact ⟨_, rfl, PRow.nil _ _, Below.refl _ _⟩
  · obtain ⟨i0, hi, hz0, hz1, hz2⟩ := info_parts postInfo
    refine (Any8.slices_Grow_grow Try.growP i0 _ hi hz0 (by rw [hz1]; omega) none 0 0 n [] w (by omega) (by omega) (by rw [hz2]; omega) (by omega) (by simp) (fun _ => rfl) (fun a ha => by cases ha)).mono ?_
    rintro e w' ⟨rfl, rfl⟩
    have hge := grownCap_ge w (0 + n) 0 37
    have hle := grownCap_le_maxLen w (0 + n) 0 37 (by unfold maxLen; omega)
    refine ⟨_, rfl, ⟨by simp [csP], .inr ⟨_, _, _, rfl, Nat.le_refl _, heap_alloc_new w.drew _, Nat.zero_le _, hle, ?_, by simp [csP]⟩⟩, bn (below_drewN (Below.refl w.heap.size w) 1) (alloc_below w.drew _)⟩
    have h1 : (Value.agg #[.int .i64 0, .int .i64 0, .slice none 0 0]).cells.size = 3 := rfl
    show (([] : List Value).toArray ++ Builtin.zeroCells (Value.agg #[.int .i64 0, .int .i64 0, .slice none 0 0]).cells (0 + n - 0) ++ Builtin.zeroCells (Value.agg #[.int .i64 0, .int .i64 0, .slice none 0 0]).cells (grownCap w (0 + n) 0 37 - (0 + n))).size = grownCap w (0 + n) 0 37 * 3
    rw [Array.size_append, Array.size_append, zc_size, zc_size, h1]
    simp only [List.size_toArray, List.length_nil]
    omega
def flatV (ls : List Lv) : List Pv := (ls.map Lv.l).flatten
theorem flatV_take (ls : List Lv) (k : Nat) (hk : k < ls.length) : flatV (ls.take (k + 1)) = flatV (ls.take k) ++ ls[k].l := by
  rw [List.take_succ_eq_append_getElem hk]
  unfold flatV
  rw [List.map_append, List.flatten_append]
  simp
theorem flatV_mono (ls : List Lv) (k : Nat) : (flatV (ls.take k)).length ≤ (flatV ls).length := by
  have h : flatV ls = flatV (ls.take k) ++ flatV (ls.drop k) := by
    unfold flatV
    rw [← List.flatten_append, ← List.map_append, List.take_append_drop]
  rw [h, List.length_append]
  omega
set_option maxHeartbeats 4000000 in
theorem concat_c (ls : List Lv) (v : Value) (w : World) (h : LRd w v ls) (hn : ls.length ≤ 100) (hm : (flatV ls).length ≤ 10000) :
    Calls Try.prog 56 #[v] w fun e w' => ∃ v', e = .returned v' ∧ PRow w' w.heap.size v' (flatV ls) ∧ Below w.heap.size w w' := by
  have HL := Lib.hid h
  obtain ⟨⟨ad, cap, rfl, _, k1⟩, _⟩ := h
  have H1 := Lib.hid k1
  have HM := Lib.hid (fun k => Nat.le_trans (flatV_mono ls k) hm)
  clear k1 hm
  go_enter Try.func56, Try.ntmps56
  go_wp2
  go_loopw [3, 11] (fun v3 v11 wr => ∃ k s : Nat, k ≤ ls.length ∧ v11 = .int .i64 (k : Int) ∧ v3 = .int .i64 (s : Int) ∧ s ≤ 10000 ∧ Hid (s = (flatV (ls.take k)).length) ∧ w = wr) (fun _ v11 _ => ls.length - (RowKit.intOf v11).toNat)
  case atStart => exact ⟨0, 0, by omega, rfl, rfl, by omega, Lib.hid rfl, rfl⟩
  case round =>
    obtain ⟨k, s, hk, rfl, rfl, hs, HSS, rfl⟩ := hrel
    by_cases hp : k < ls.length
    · obtain ⟨g1, o1, rfl, c1⟩ := H1.out (by omega)
      have a1 := c1 k hp
      have hgl := World.block_lt_of_cell? _ _ a1
      have p1 := HL.out.2 _ (List.getElem_mem hp)
      have HT := Lib.hid (flatV_take ls k hp)
      have HMK := HM.out (k + 1)
      rw [HT.out, List.length_append, ← HSS.out] at HMK
      have HP := Lib.hid hp
      generalize ls[k] = y at a1 p1 HT HMK
      obtain ⟨yv, yl⟩ := y
      simp only at a1 p1 HT HMK
      obtain ⟨ady, capy, rfl, _, _⟩ := p1
      have hsn : ¬ ((s : Int) + (yl.length : Int) < 0) := by omega
      clear c1
      go_wp2
      go_roundw
      case rel => exact ⟨k + 1, s + yl.length, HP.out, by go_num, by first | rfl | (push_cast; rfl) | simp, HMK, Lib.hid (by rw [HT.out, List.length_append, ← HSS.out]), by first | rfl | trivial⟩
      case measure => have := HP.out; simp [RowKit.intOf]; omega
    · have CG := Lib.hid (grow_c s w (by omega))
      clear HSS
      go_wp2_with fail
      refine CG.out.mono ?_
      rintro e w2 ⟨v2, rfl, hr2, b2⟩
      obtain ⟨A2, C2, ek, _⟩ := own_form hr2
      subst ek
      have HR2 := Lib.hid hr2
      have HB2 := Lib.hid b2
      clear hr2 b2 CG
      go_wp2
      go_loopw [6, 27] (fun v6 v27 wr => ∃ (k : Nat) (L : List Pv), k ≤ ls.length ∧ v27 = .int .i64 (k : Int) ∧ Hid (L = flatV (ls.take k)) ∧ Hid (PRow wr w.heap.size v6 L) ∧ Hid (Below w.heap.size w wr)) (fun _ v27 _ => ls.length - (RowKit.intOf v27).toNat)
      case atStart => exact ⟨0, [], by omega, rfl, Lib.hid rfl, HR2, HB2⟩
      case round =>
        obtain ⟨k, L, hk, rfl, HLL, HR, HB⟩ := hrel
        by_cases hp : k < ls.length
        · obtain ⟨g1, o1, rfl, c1⟩ := H1.out (by omega)
          have a1 := c1 k hp
          replace a1 := (HB.out.cell (World.block_lt_of_cell? _ _ a1)).trans a1
          have hgl := World.block_lt_of_cell? _ _ a1
          have p1 := (HL.out.2 _ (List.getElem_mem hp)).below HB.out
          have HT := Lib.hid (flatV_take ls k hp)
          have HMK := HM.out (k + 1)
          rw [HT.out, List.length_append, ← HLL.out] at HMK
          have HP := Lib.hid hp
          generalize ls[k] = y at a1 p1 HT HMK
          obtain ⟨yv, yl⟩ := y
          simp only at a1 p1 HT HMK
          obtain ⟨A, C, w1, h1, h2, h3, _⟩ := papp_run L yl _ yv wr 30 w.heap.size HR.out p1 (by omega) HB.out.size
          obtain ⟨ady, capy, rfl, _, _⟩ := p1
          simp only [List.length_append] at h1 h2
          have HR5 := Lib.hid h1
          have HR6 := Lib.hid h2
          have HB6 := Lib.hid (HB.out.trans (below_of_grown h3 HB.out.size (fun g hg => (World.ownsRow.lt HR.out g hg).1)))
          clear c1 h1 h2 h3 HMK
          go_wp2_with (at_builtin; refine wpList_append_run rfl _ _ 30 rfl _ _ HR5.out ?_; clear HR5)
          go_roundw
          case rel => exact ⟨k + 1, L ++ yl, HP.out, by go_num, Lib.hid (by rw [HT.out, HLL.out]), HR6, HB6⟩
          case measure => have := HP.out; simp [RowKit.intOf]; omega
        · have HE : Hid (L = flatV ls) := Lib.hid (by rw [HLL.out, List.take_of_length_le (show ls.length ≤ k by omega)])
          obtain ⟨A, C, ev, _⟩ := own_form HR.out
          rw [ev] at HR
          subst ev
          go_wp2
          go_ret
          exact ⟨_, rfl, by rw [← HE.out]; exact HR.out, HB.out⟩
end Go.Proofs.Ytgdajnjfkokmdaa
