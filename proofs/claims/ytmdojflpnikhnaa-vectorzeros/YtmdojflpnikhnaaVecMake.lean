/-
  Clone, Zero, the law's low, by contract: what they make is their own.
-/
import Derived.Test.YtmdojflpnikhnaaVecLeaf
import Derived.Lib.SliceRun
namespace Go.Proofs.Ytmdojflpnikhnaa
open Go.RowKit Go.Lib

/-- What is answered: a row of one's own. -/
def rowT (l : List Int) (w : World) (e : Ending) (w' : World) : Prop := ∃ v, e = .returned v ∧ Row w' w.heap.size v l ∧ Below w.heap.size w w'

theorem row_empty (w : World) : (w.alloc (.cells #[] 3)).ownsRow w.heap.size 3 1 (.slice (some ⟨w.heap.size, 0, none⟩) 0 0) 0 [] :=
  ⟨rfl, .inr ⟨w.heap.size, 0, #[], rfl, Nat.le_refl _, heap_alloc_new w _, Nat.le_refl _, Nat.zero_le _, rfl, rfl⟩⟩

theorem Nl.news {w : World} {ad : Addr} {l : List Int} (h : 0 < l.length → ∃ b o, ad = ⟨b, o, none⟩ ∧ Nums w b o l) : ∀ i u, (ints l)[i]? = some u → w.cell? (ad.add i) = some u := by
  intro i u hu
  have hi : i < l.length := by have := (List.getElem?_eq_some_iff.1 hu).1; rwa [ints_len] at this
  obtain ⟨b, o, rfl, hs⟩ := h (by omega)
  exact hs.news i u hu

set_option maxHeartbeats 4000000 in
theorem clone_c (l : List Int) (v : Value) (w : World) (h : Nl w v l) (hn : l.length ≤ 1000000) : Calls Try.prog 36 #[v] w (rowT l w) := by
  rcases h with ⟨rfl, rfl⟩ | ⟨ad, cap, rfl, h⟩
  · have hq := fun W => Lib.run_eql_slice_nil (P := Try.prog) W 23 3 none 0 0 0 0 Try.underlying23
    go_enter Try.func36, Try.ntmps36
    go_wp2
    go_ret
    exact ⟨_, rfl, Row.nil _ _, Below.refl _ _⟩
  · obtain ⟨i0, hi, hz0, hz1, hz2⟩ := info_parts intInfo
    have HN : Hid (∀ i u, (ints l)[i]? = some u → (w.alloc (.cells #[] 3)).cell? (ad.add i) = some u) := Lib.hid (fun i u hu => by
      have h1 := Nl.news h i u hu
      exact (((Below.refl _ w).alloc (Nat.le_refl _) (.cells #[] 3)).cell (World.block_lt_of_cell? w _ h1)).trans h1)
    have HO := Lib.hid (row_empty w)
    have hq := fun W => Lib.run_eql_slice_nil (P := Try.prog) W 23 3 (some ad) l.length cap 0 0 Try.underlying23
    clear h
    go_enter Try.func36, Try.ntmps36
    go_wp2_with (at_builtin; refine wpList_append_own _ rfl _ _ 23 rfl w.heap.size 3 i0 (.int .i64 0) 1 8 Try.underlying23 hi hz0 hz1 hz2 rfl (by decide) _ _ _ rfl HO.out ad l.length cap (ints l) rfl (by rw [ints_len, Nat.mul_one]) (by exact HN.out) (ints_one l) (by unfold maxLen; omega) (by omega) (by simp) ?_; intro v' w3 hown3 hgrow3 hnil3)
    go_ret
    refine ⟨_, rfl, by rw [Nat.zero_add, List.nil_append] at hown3; exact hown3, ?_⟩
    exact ((Below.refl _ w).alloc (Nat.le_refl _) _).trans (below_of_grown hgrow3 (by simp) (by intro g hg; cases hg; exact Nat.le_refl _))

theorem row_made (w : World) (n : Nat) (hn : n ≤ 1000000) : Row (w.alloc (.cells (madeCells #[.int .i64 0] n) 3)) w.heap.size (.slice (some ⟨w.heap.size, 0, none⟩) n n) (List.replicate n 0) := by
  have e : ints (List.replicate n 0) = List.replicate n (.int .i64 0) := by simp [ints]
  unfold Row
  rw [e, List.length_replicate]
  refine ⟨by simp, .inr ⟨w.heap.size, n, _, rfl, Nat.le_refl _, heap_alloc_new w _, Nat.le_refl _, by unfold maxLen; omega, by rw [size_madeCells, Nat.mul_one], ?_⟩⟩
  rw [toList_madeCells_one, Nat.mul_one, List.take_of_length_le (by simp)]

set_option maxHeartbeats 4000000 in
theorem zero_c (n : Nat) (w : World) (h1 : 1 ≤ n) (h8 : n ≤ 8) : Calls Try.prog 26 #[.int .i64 (n : Int)] w (rowT (List.replicate n 0) w) := by
  have cM := many_c (n : Int) w
  have e : manyB (n : Int) = true := by simp [manyB]; omega
  rw [e] at cM
  clear e
  have hmk := run_make_row' (P := Try.prog) 23 3 (.int .i64 0) 8 Try.underlying23 intInfo rfl .i64 .i64 n (by omega) (by omega)
  go_enter Try.func26, Try.ntmps26
  go_wp2_with (go_at_call 35; refine cM.mono ?_; rintro e w' ⟨rfl, rfl⟩)
  go_ret
  exact ⟨_, rfl, row_made w n (by omega), (Below.refl _ _).alloc (Nat.le_refl _) _⟩

theorem zero_no (n : Int) (w : World) (h : manyB n = false) : Calls Try.prog 26 #[.int .i64 n] w (rowT [] w) := by
  have cM := many_c n w
  rw [h] at cM
  clear h
  go_enter Try.func26, Try.ntmps26
  go_wp2_with (go_at_call 35; refine cM.mono ?_; rintro e w' ⟨rfl, rfl⟩)
  go_ret
  exact ⟨_, rfl, Row.nil _ _, Below.refl _ _⟩

theorem Row.at {w : World} {B g cap : Nat} {l : List Int} (h : Row w B (.slice (some ⟨g, 0, none⟩) l.length cap) l) (k : Nat) (hk : k < l.length) : w.cell? ⟨g, k, none⟩ = some (.int .i64 l[k]) :=
  (World.ownsRow.cellAt h k (by omega)).trans (ints_at l k hk)
theorem Row.soft {w : World} {B g cap : Nat} {l : List Int} (h : Row w B (.slice (some ⟨g, 0, none⟩) l.length cap) l) (k : Nat) : w.frozen? ⟨g, k, none⟩ = false := World.ownsRow.frozenAt h k
theorem ints_set (l : List Int) (k : Nat) (x : Int) : (ints l).set k (.int .i64 x) = ints (l.set k x) := by simp [ints, List.map_set]
theorem Row.set {w : World} {B g cap : Nat} {l : List Int} (h : Row w B (.slice (some ⟨g, 0, none⟩) l.length cap) l) (k : Nat) (x : Int) : Row (w.setCell ⟨g, k, none⟩ (.int .i64 x)) B (.slice (some ⟨g, 0, none⟩) (l.set k x).length cap) (l.set k x) := by
  have h1 := (World.ownsRow.stored h k (.int .i64 x)).1
  rw [ints_set] at h1
  unfold Row
  rw [List.length_set]
  exact h1
theorem Row.form {w : World} {B : Nat} {v : Value} {l : List Int} (h : Row w B v l) (hn : 0 < l.length) : ∃ g cap, v = .slice (some ⟨g, 0, none⟩) l.length cap ∧ B ≤ g ∧ g < w.heap.size := by
  obtain ⟨g, cap, e, h1, h2⟩ := World.ownsRow.form h hn
  exact ⟨g, cap, e, h1, h2⟩

/-- Numbers that a vector may have. -/
def Okay (l : List Int) : Prop := ∀ x ∈ l, 0 ≤ x ∧ x ≤ 1023
def lowVT (n : Nat) (w : World) (e : Ending) (w' : World) : Prop := ∃ v l, e = .returned v ∧ l.length = n ∧ Okay l ∧ Row w' w.heap.size v l ∧ Below w.heap.size w w'
theorem okay_set {l : List Int} (h : Okay l) (k : Nat) (x : Int) (hx : 0 ≤ x ∧ x ≤ 1023) : Okay (l.set k x) := fun y hy => by
  rcases List.mem_or_eq_of_mem_set hy with h1 | rfl
  · exact h y h1
  · exact hx

set_option maxHeartbeats 4000000 in
theorem lowv_c (l : List Int) (v : Value) (n : Nat) (w : World) (h : Nl w v l) (h1 : 1 ≤ n) (h8 : n ≤ 8) : Calls Try.prog 30 #[v, .int .i64 (n : Int)] w (lowVT n w) := by
  obtain ⟨ad, cap, rfl, k1⟩ := h.form
  have H1 := Lib.hid k1
  have hmk := run_make_row' (P := Try.prog) 23 3 (.int .i64 0) 8 Try.underlying23 intInfo rfl .i64 .i64 n (by omega) (by omega)
  clear k1 h
  go_enter Try.func30, Try.ntmps30
  go_wp2
  clear hmk
  go_loopw [6] (fun v6 wr => ∃ (k : Nat) (m : List Int), k ≤ n ∧ v6 = .int .i64 (k : Int) ∧ m.length = n ∧ Okay m ∧ Row wr w.heap.size (.slice (some ⟨w.heap.size, 0, none⟩) n n) m ∧ Below w.heap.size w wr) (fun v6 _ => n - (intOf v6).toNat)
  case atStart => exact ⟨0, List.replicate n 0, by omega, rfl, by simp, fun x hx => by rw [List.eq_of_mem_replicate hx]; omega, row_made w n (by omega), (Below.refl _ _).alloc (Nat.le_refl _) _⟩
  case round =>
    obtain ⟨k, m, hk, rfl, hm, hok, hr, hb⟩ := hrel
    have HOK := Lib.hid hok
    have HM := Lib.hid hm
    have hr' : Row wr w.heap.size (.slice (some ⟨w.heap.size, 0, none⟩) m.length n) m := by rw [hm]; exact hr
    have HR := Lib.hid hr'
    have HR0 := Lib.hid hr
    clear hok hr hr'
    by_cases hp : k < n
    · by_cases hp2 : k < l.length
      · have e1 : decide (k < n) = true := by simpa using hp
        have e2 : decide (k < l.length) = true := by simpa using hp2
        obtain ⟨b, o, rfl, hs⟩ := H1.out (by omega)
        have c0 := (hb.cell (World.block_lt_of_cell? w _ (hs k hp2))).trans (hs k hp2)
        have c1 := HR.out.at k (by omega)
        have f1 := HR.out.soft k
        have hlt : w.heap.size < wr.heap.size := World.block_lt_of_cell? wr _ c1
        have hbl : b < wr.heap.size := World.block_lt_of_cell? wr _ c0
        generalize l[k] = x at c0
        generalize m[k] = y at c1
        clear hs hm
        go_wp2_with fail
        refine (low_c x 1024 _ (by omega) (by omega)).mono ?_
        rintro e w3 ⟨p, rfl, hp0, hp1, rfl⟩
        go_wp2
        go_roundw
        case rel => exact ⟨k + 1, m.set k p, hp, by go_num, by rw [List.length_set]; exact HM.out, okay_set HOK.out k p ⟨hp0, by omega⟩, by have h3 := HR.out.set k p; rw [List.length_set, HM.out] at h3; exact h3, hb.setCell (by exact Nat.le_refl _) _⟩
        case measure => simp [intOf]; omega
      · have e1 : decide (k < n) = true := by simpa using hp
        have e2 : decide (k < l.length) = false := by simpa using hp2
        go_wp2
        go_ret
        exact ⟨_, m, rfl, HM.out, HOK.out, HR0.out, hb⟩
    · have e1 : decide (k < n) = false := by simpa using hp
      go_wp2
      go_ret
      exact ⟨_, m, rfl, HM.out, HOK.out, HR0.out, hb⟩

end Go.Proofs.Ytmdojflpnikhnaa
