/-
  Clone, Next, Count, by contract.
-/
import Derived.Test.YtcnpckdchjjeoaaDoorMFrmFirst
namespace Go.Proofs.YtcnpckdchjjeoaaDoor
open Go.RowKit Go.Lib
set_option maxRecDepth 100000
theorem results_tmp4 {fn : Func} {t u v x : Tmp} (h : fn.results = #[.tmp t, .tmp u, .tmp v, .tmp x]) (tmps : Array Value) (P : Program) (w : World) :
    (results fn tmps).run P w = .ok (.tuple #[tmps.getD t undef, tmps.getD u undef, tmps.getD v undef, tmps.getD x undef]) w := by
  simp [results, h]
theorem brow_empty (w : World) : (w.alloc (.cells #[] 5)).ownsRow w.heap.size 5 1 (.slice (some ⟨w.heap.size, 0, none⟩) 0 0) 0 [] :=
  ⟨rfl, .inr ⟨w.heap.size, 0, #[], rfl, Nat.le_refl _, heap_alloc_new w _, Nat.le_refl _, Nat.zero_le _, rfl, rfl⟩⟩

set_option maxHeartbeats 4000000 in
theorem clone_c (l : List Int) (v : Value) (w : World) (h : Bl w v l) (hn : l.length ≤ 1000000) : Calls Tryd.prog 74 #[v] w (rowB w.heap.size l w) := by
  rcases h with ⟨rfl, rfl⟩ | ⟨ad, cap, rfl, h⟩
  · have hq := fun W => Lib.run_eql_slice_nil (P := Tryd.prog) W 33 5 none 0 0 0 0 Tryd.underlying33
    go_enter Tryd.func74, Tryd.ntmps74
    go_wp2
    go_ret
    exact ⟨_, rfl, BRow.nil _ _, Below.refl _ _⟩
  · obtain ⟨i0, hi, hz0, hz1, hz2⟩ := info_parts byteInfo
    have HN : Hid (∀ i u, (bys l)[i]? = some u → (w.alloc (.cells #[] 5)).cell? (ad.add i) = some u) := Lib.hid (fun i u hu => by
      have h1 := Bl.news h i u hu
      exact (((Below.refl _ w).alloc (Nat.le_refl _) (.cells #[] 5)).cell (World.block_lt_of_cell? w _ h1)).trans h1)
    have HO := Lib.hid (brow_empty w)
    have hq := fun W => Lib.run_eql_slice_nil (P := Tryd.prog) W 33 5 (some ad) l.length cap 0 0 Tryd.underlying33
    clear h
    go_enter Tryd.func74, Tryd.ntmps74
    go_wp2_with (at_builtin; refine wpList_append_own _ rfl _ _ 33 rfl w.heap.size 5 i0 (.int .u8 0) 1 1 Tryd.underlying33 hi hz0 hz1 hz2 rfl (by decide) _ _ _ rfl HO.out ad l.length cap (bys l) rfl (by rw [bys_len, Nat.mul_one]) (by exact HN.out) (bys_one l) (by unfold maxLen; omega) (by omega) (by simp) ?_; intro v' w3 hown3 hgrow3 hnil3)
    go_ret
    refine ⟨_, rfl, by rw [Nat.zero_add, List.nil_append] at hown3; exact hown3, ?_⟩
    exact ((Below.refl _ w).alloc (Nat.le_refl _) _).trans (below_of_grown hgrow3 (by simp) (by intro g hg; cases hg; exact Nat.le_refl _))

theorem fsT_len {l : List Int} {k : Int} {n : Nat} (h : fsT l = some (k, n)) : n + 12 ≤ l.length ∧ 1 ≤ k := by
  by_cases h4 : l.length < 4
  · rw [fsT_short h4] at h; cases h
  · rw [fsT_long (by omega)] at h
    split at h
    · rename_i hh
      simp only [Option.some.injEq, Prod.mk.injEq] at h
      obtain ⟨rfl, rfl⟩ := h
      exact ⟨hh.2.2.1, hh.2.1⟩
    · cases h

/-- What frame begins at that place? -/
def nxT (l : List Int) (a : Int) : Option (Int × Nat) := if 0 ≤ a ∧ a ≤ (l.length : Int) then fsT (l.drop a.toNat) else none
def nxK : Option (Int × Nat) → Int
  | none => 0
  | some (k, _) => k
def nxE (a : Int) : Option (Int × Nat) → Int
  | none => 0
  | some (_, n) => a + ((n : Int) + 12)
def nxL (l : List Int) (a : Int) : Option (Int × Nat) → List Int
  | none => []
  | some (_, n) => ((l.drop a.toNat).drop 4).take n
def nextT (l : List Int) (a : Int) (w : World) (e : Ending) (w' : World) : Prop :=
  ∃ v, e = .returned (.tuple #[.int .i64 (nxK (nxT l a)), v, .int .i64 (nxE a (nxT l a)), .bool (nxT l a).isSome]) ∧ BRow w' w.heap.size v (nxL l a (nxT l a)) ∧ Below w.heap.size w w'
theorem nextT_no {l : List Int} {a : Int} {w w' : World} (h : nxT l a = none) (hb : Below w.heap.size w w') : nextT l a w (.returned (.tuple #[.int .i64 0, .slice none 0 0, .int .i64 0, .bool false])) w' := by
  unfold nextT
  rw [h]
  exact ⟨_, rfl, BRow.nil _ _, hb⟩
theorem nextT_yes {l : List Int} {a : Int} {w w' : World} {k : Int} {n : Nat} {v : Value} (h : nxT l a = some (k, n)) (hv : BRow w' w.heap.size v (((l.drop a.toNat).drop 4).take n)) (hb : Below w.heap.size w w') : nextT l a w (.returned (.tuple #[.int .i64 k, v, .int .i64 (a + ((n : Int) + 12)), .bool true])) w' := by
  unfold nextT
  rw [h]
  exact ⟨v, rfl, hv, hb⟩

set_option maxHeartbeats 8000000 in
theorem next_c (l : List Int) (v : Value) (a : Int) (w : World) (h : Bc w v l) (ho : OkB l) (hl : l.length ≤ 1000000) :
    Calls Tryd.prog 63 #[v, .int .i64 a] w (nextT l a w) := by
  obtain ⟨ad, cap, rfl, hcap⟩ := h.2
  by_cases h0 : 0 ≤ a
  · have e0 : decide (a < 0) = false := by simpa using h0
    by_cases h1 : a ≤ (l.length : Int)
    · obtain ⟨a, rfl⟩ := Int.eq_ofNat_of_zero_le h0
      have e1 : decide ((l.length : Int) < (a : Int)) = false := by simpa using h1
      have e2 : decide (l.length < a) = false := by simpa using h1
      have hal : a ≤ l.length := by omega
      obtain ⟨A1, C1, ep, p1⟩ := h.piece a l.length hal (Nat.le_refl _)
      have q1 : Bc w (.slice A1 (l.length - a) C1) (l.drop a) := by
        have := p1 w h
        rwa [List.take_of_length_le (by rw [List.length_drop]; omega)] at this
      have r1 : ∀ W, (Instr.sliceAt 33 (.slice ad l.length cap) (some (.int .i64 (a : Int))) none none).run Tryd.prog W = .ok (.slice A1 (l.length - a) C1) W := fun W => by
        rw [← ep]
        exact slice_any_run ad _ cap _ _ _ _ W (by simp [Instr.sliceBounds, run_sliceBound_if, hal])
      obtain ⟨N1, hN1⟩ : ∃ N1, l.length - a = N1 := ⟨_, rfl⟩
      rw [hN1] at q1 r1
      have HN1 := Lib.hid hN1
      have R1 := Lib.hid r1
      have HC := Lib.hid (first_c (l.drop a) _ w q1 (ho.drop a) (by rw [List.length_drop]; omega))
      have HX : Hid (nxT l (a : Int) = fsT (l.drop a)) := Lib.hid (by unfold nxT; rw [if_pos ⟨by omega, h1⟩, Int.toNat_natCast])
      clear ep p1 q1 r1 hN1 h ho
      cases hf : fsT (l.drop a) with
      | none =>
        rw [hf] at HX
        have HF := Lib.hid hf
        clear hf
        go_enter Tryd.func63, Tryd.ntmps63
        go_wp2_with (refine wpList_slice_run rfl 33 _ _ _ rfl _ (R1.out _) ?_)
        refine HC.out.mono ?_
        rintro e w1 hT
        unfold firstT at hT
        rw [HF.out] at hT
        obtain ⟨rfl, b1⟩ := hT
        go_wp2
        refine bodyPost_ret (results_tmp4 rfl _ _ _) rfl ?_
        exact nextT_no HX.out b1
      | some p =>
        obtain ⟨k, n⟩ := p
        rw [hf] at HX
        have hnl := (fsT_len hf).1
        rw [List.length_drop] at hnl
        have HF := Lib.hid hf
        clear hf
        go_enter Tryd.func63, Tryd.ntmps63
        go_wp2_with (refine wpList_slice_run rfl 33 _ _ _ rfl _ (R1.out _) ?_)
        refine HC.out.mono ?_
        rintro e w1 hT
        unfold firstT at hT
        rw [HF.out] at hT
        obtain ⟨⟨A2, C2, rfl, q2⟩, b1⟩ := hT
        have HL2 : Hid ((((l.drop a).drop 4).take n).length = n) := Lib.hid (by simp; omega)
        have HCL := Lib.hid (clone_c _ _ w1 q2.1 (by rw [HL2.out]; omega))
        have HB1 := Lib.hid b1
        clear q2 b1 HC R1
        go_wp2_with fail
        refine HCL.out.mono ?_
        rintro e w2 ⟨v2, rfl, h2, b2⟩
        have HB2 : Hid (Below w.heap.size w w2) := Lib.hid (bn HB1.out b2)
        have H2 := Lib.hid (h2.mono HB1.out.size)
        clear h2 b2 HB1 HCL
        go_wp2_with fail
        refine (length_c A2 n C2 w2 (by omega)).mono ?_
        rintro e w3 ⟨rfl, rfl⟩
        go_wp2
        refine bodyPost_ret (results_tmp4 rfl _ _ _) rfl ?_
        exact nextT_yes HX.out (by rw [Int.toNat_natCast]; exact H2.out) HB2.out
    · have e1 : decide ((l.length : Int) < a) = true := by simp; omega
      have HX := Lib.hid (show nxT l a = none by unfold nxT; rw [if_neg (fun hh => h1 hh.2)])
      go_enter Tryd.func63, Tryd.ntmps63
      go_wp2
      refine bodyPost_ret (results_tmp4 rfl _ _ _) rfl ?_
      exact nextT_no HX.out (Below.refl _ _)
  · have e0 : decide (a < 0) = true := by simp; omega
    have HX := Lib.hid (show nxT l a = none by unfold nxT; rw [if_neg (fun hh => h0 hh.1)])
    go_enter Tryd.func63, Tryd.ntmps63
    go_wp2
    refine bodyPost_ret (results_tmp4 rfl _ _ _) rfl ?_
    exact nextT_no HX.out (Below.refl _ _)
end Go.Proofs.YtcnpckdchjjeoaaDoor
