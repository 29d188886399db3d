/-
  SegmentTorn: what is read of entries that were laid, torn anywhere; pieces of lists of entries.
-/
import Derived.Test.YtcnpckdchjjeoaaDoorSegMath
import Derived.Test.YtcnpckdchjjeoaaDoorSegSame
import Derived.Test.YtcnpckdchjjeoaaDoorMFrmLay
namespace Go.Proofs.YtcnpckdchjjeoaaDoor
open Go.RowKit Go.Lib
set_option maxRecDepth 100000

theorem mayE_lens2 {e : En} {n : Int} (h : mayE e n = true) : e.v.length ≤ 8 ∧ e.w.length ≤ 8 := by
  have := someE_len (mayE_some h)
  exact ⟨this.1, this.2.1⟩
theorem rowsE_take_le (es : List En) (k : Nat) : (rowsE (es.take k)).length ≤ (rowsE es).length := by
  have h := rowsE_app (es.take k) (es.drop k)
  rw [List.take_append_drop] at h
  rw [h, List.length_append]
  omega
theorem rowsE_take_succ (es : List En) (k : Nat) (hk : k < es.length) : rowsE (es.take (k + 1)) = rowsE (es.take k) ++ layE es[k] := by
  rw [List.take_succ_eq_append_getElem hk, rowsE_app]
  simp [rowsE]
theorem rowsE_mono (es : List En) (j k : Nat) (h : j ≤ k) : (rowsE (es.take j)).length ≤ (rowsE (es.take k)).length := by
  have := rowsE_take_le (es.take k) j
  rwa [List.take_take, Nat.min_eq_left h] at this
theorem goodE_take (n : Int) : ∀ (es : List En) (c : Bool) (k : Nat), goodE n c es → goodE n c (es.take k)
  | [], _, k, _ => by rw [List.take_nil]; trivial
  | e :: t, c, 0, _ => trivial
  | e :: t, c, k + 1, h => by
    rw [List.take_succ_cons]
    exact ⟨h.1, h.2.1, goodE_take n t false k h.2.2⟩
theorem goodE_false (n : Int) : ∀ (es : List En), (∀ j (hj : j < es.length), mayE es[j] n = true ∧ (es[j].k == 1) = false) → goodE n false es
  | [], _ => trivial
  | e :: t, h => by
    have h0 := h 0 (by simp)
    simp only [List.getElem_cons_zero] at h0
    exact ⟨h0.1, h0.2.symm, goodE_false n t (fun j hj => by have := h (j + 1) (by simpa using hj); simpa using this)⟩
theorem goodE_true (n : Int) (es : List En) (h : ∀ j (hj : j < es.length), mayE es[j] n = true ∧ (es[j].k == 1) = decide (j = 0)) : goodE n true es := by
  cases es with
  | nil => trivial
  | cons e t =>
    have h0 := h 0 (by simp)
    simp only [List.getElem_cons_zero] at h0
    refine ⟨h0.1, by rw [h0.2]; rfl, goodE_false n t (fun j hj => ?_)⟩
    have := h (j + 1) (by simpa using hj)
    simpa using this
theorem stop_at {p t : List Int} {n : Int} {c : Bool} (h : fsT t = none) : stopE (p ++ t) n p.length c := stopE_none (by
  unfold nxT
  rw [if_pos ⟨by omega, by rw [List.length_append]; omega⟩, Int.toNat_natCast, List.drop_append_of_le_length (Nat.le_refl _), List.drop_of_length_le (Nat.le_refl _), List.nil_append]
  exact h)
theorem read_all {n : Int} {es : List En} (hg : goodE n true es) : readE (rowsE es) n = (es, (rowsE es).length) := by
  have h := readE_rows n es [] hg (by rw [List.append_nil]; exact stopE_none (nxT_end _))
  rwa [List.append_nil] at h
theorem read_behind {n : Int} {es : List En} (hg : goodE n true es) (wl : Nat) (t : List Int) (ht : fsT t = none) : readE (rowsE (es.take wl) ++ t) n = (es.take wl, (rowsE (es.take wl)).length) :=
  readE_rows n _ t (goodE_take n es true wl hg) (stop_at ht)
theorem goodE_some {n : Int} : ∀ {es : List En} {c : Bool}, goodE n c es → ∀ e ∈ es, mayE e n = true
  | e :: t, c, h, d, hd => by
    rcases List.mem_cons.1 hd with rfl | hd
    · exact h.1
    · exact goodE_some h.2.2 d hd
theorem read_torn {n : Int} {es : List En} (hg : goodE n true es) (wl c : Nat) (hw : wl ≤ es.length) (h1 : (rowsE (es.take wl)).length ≤ c) (_ : c ≤ (rowsE es).length) (h2 : wl < es.length → c < (rowsE (es.take (wl + 1))).length) :
    readE ((rowsE es).take c) n = (es.take wl, (rowsE (es.take wl)).length) := by
  by_cases hl : wl < es.length
  · have e1 : es = es.take wl ++ (es[wl] :: es.drop (wl + 1)) := by rw [← List.drop_eq_getElem_cons hl, List.take_append_drop]
    have e2 : rowsE es = rowsE (es.take wl) ++ (layE es[wl] ++ rowsE (es.drop (wl + 1))) := by
      have h := congrArg rowsE e1
      rw [rowsE_app, rowsE] at h
      exact h
    have h3 := h2 hl
    rw [rowsE_take_succ es wl hl, List.length_append] at h3
    have e3 : (rowsE es).take c = rowsE (es.take wl) ++ (layE es[wl]).take (c - (rowsE (es.take wl)).length) := by
      rw [e2, List.take_append, List.take_of_length_le h1, List.take_append_of_le_length (by omega)]
    rw [e3]
    refine read_behind hg wl _ ?_
    have hs := mayE_some (goodE_some hg es[wl] (List.getElem_mem hl))
    exact lay_cut (bodyE_okF hs) (by unfold layE at h3; omega)
  · obtain rfl : wl = es.length := by omega
    rw [List.take_of_length_le (Nat.le_refl _)] at h1 ⊢
    rw [List.take_of_length_le (by omega)]
    exact read_all hg

/-- The ends of entries that were laid. -/
def endsE (es : List En) : List Int := (List.range es.length).map fun j => ((rowsE (es.take (j + 1))).length : Int)
theorem endsE_len (es : List En) : (endsE es).length = es.length := by simp [endsE]
theorem endsE_at (es : List En) (k : Nat) (hk : k < (endsE es).length) : (endsE es)[k] = ((rowsE (es.take (k + 1))).length : Int) := by simp [endsE]
theorem endsE_succ (es : List En) (k : Nat) (hk : k < es.length) : endsE (es.take (k + 1)) = endsE (es.take k) ++ [((rowsE (es.take (k + 1))).length : Int)] := by
  unfold endsE
  have h1 : (es.take (k + 1)).length = k + 1 := by simp; omega
  have h2 : (es.take k).length = k := by simp; omega
  rw [h1, h2, List.range_succ, List.map_append]
  congr 1
  · apply List.map_congr_left
    intro j hj
    have : j < k := by simpa using hj
    rw [List.take_take, List.take_take, Nat.min_eq_left (by omega), Nat.min_eq_left (by omega)]
  · simp [List.take_take]

/-- A beginning of a list of entries. -/
theorem Er.take {w : World} {ad : Option Addr} {n cap : Nat} {l : List Ev} (h : Er w (.slice ad n cap) l) (k : Nat) (hk : k ≤ l.length) : Er w (.slice ad k cap) (l.take k) := by
  obtain ⟨ad', cap', e, hc, h2⟩ := h
  simp only [Value.slice.injEq] at e
  obtain ⟨rfl, rfl, rfl⟩ := e
  have hl : (l.take k).length = k := by simp; omega
  refine ⟨ad, cap, by rw [hl], by rw [hl]; omega, fun h0 => ?_⟩
  rw [hl] at h0
  obtain ⟨b, o, e, hs⟩ := h2 (by omega)
  refine ⟨b, o, e, fun j hj => ?_⟩
  rw [hl] at hj
  rw [List.getElem_take]
  exact hs j (by omega)
theorem slice_ents_run {W0 : World} {ad : Option Addr} {n cap : Nat} {l : List Ev} (h : Er W0 (.slice ad n cap) l) (k : Nat) (hk : k ≤ l.length) (W : World) : (Instr.sliceAt 47 (.slice ad n cap) none (some (.int .i64 (k : Int))) none).run Tryd.prog W = .ok (.slice ad k cap) W := by
  obtain ⟨ad', cap', e, hc, h2⟩ := h
  simp only [Value.slice.injEq] at e
  obtain ⟨rfl, rfl, rfl⟩ := e
  have hb : (Instr.sliceBounds true l.length cap none (some (.int .i64 (k : Int))) none).run Tryd.prog W = .ok (0, k, cap) W := by simp [Instr.sliceBounds, run_sliceBound_if, show k ≤ cap by omega]
  have hs : (sizeOf 30).run Tryd.prog W = .ok 8 W := by
    have := Tryd.sizeOf30
    simp [sizeOf]
    rfl
  rw [run_sliceAt_slice W _ _ _ _ _ Tryd.underlying47, run_slice_any W _ _ _ _ Tryd.underlying47, hb]
  simp only [Result.andThen]
  rw [show Tryd.prog.elem 47 = 30 by kernel_rfl, hs]
  have hz : sliced ad 0 k cap 8 = .slice ad k cap := by
    unfold sliced
    cases ad with
    | none => simp
    | some a =>
      obtain ⟨b, o, s⟩ := a
      by_cases hcap : cap = 0
      · simp [hcap]
      · simp [hcap, Addr.add]
  simp only [hz]
/-- A beginning of bytes. -/
theorem Bc.front {w : World} {ad : Option Addr} {n cap : Nat} {l : List Int} (h : Bc w (.slice ad n cap) l) (k : Nat) (hk : k ≤ l.length) :
    ∃ A C, (∀ W, (Instr.sliceAt 33 (.slice ad n cap) none (some (.int .i64 (k : Int))) none).run Tryd.prog W = .ok (.slice A k C) W) ∧ ∀ W, Bc W (.slice ad n cap) l → Bc W (.slice A k C) (l.take k) := by
  obtain ⟨A1, C1, e1, p1⟩ := h.piece 0 k (by omega) hk
  rw [Nat.sub_zero] at e1 p1
  obtain ⟨_, ad', cap', e, hc⟩ := h
  simp only [Value.slice.injEq] at e
  obtain ⟨rfl, rfl, rfl⟩ := e
  refine ⟨A1, C1, fun W => ?_, fun W hW => by have := p1 W hW; rwa [List.drop_zero] at this⟩
  rw [← e1]
  exact slice_any_run ad _ cap _ _ _ _ W (by simp [Instr.sliceBounds, run_sliceBound_if, show k ≤ cap by omega])
/-- append of bytes to a row of one's own: what else may have changed. -/
theorem bapp_grown (l m : List Int) (v u : Value) (w : World) (ty : TypeId) (B : Nat) (h : BRow w B v l) (hu : Bl w u m) (hn : l.length + m.length ≤ 1000000) (hB : B ≤ w.heap.size) :
    ∃ A N C w1, (Builtin.append_ #[33, 33] ty #[v, u]).run Tryd.prog w = .ok (.slice A N C) w1 ∧ BRow w1 B (.slice A N C) (l ++ m) ∧ w.grownBy w1 v.ownBlock := by
  rcases hu with ⟨rfl, rfl⟩ | ⟨ad, cap, rfl, hu⟩
  · obtain ⟨a, c, rfl, hc⟩ := h.bc.2
    have hc' : ¬ c < l.length := by omega
    refine ⟨a, _, c, w, ?_, by rw [List.append_nil]; exact h, grown_refl _ _⟩
    cases a <;> simp [hc', Builtin.append_, go_sem, run_underlying Tryd.underlying33]
  · obtain ⟨i0, hi, hz0, hz1, hz2⟩ := info_parts byteInfo
    obtain ⟨v', w', h1, h2, h3, _, _⟩ := run_append_own_at (P := Tryd.prog) w B 33 ty 5 i0 (.int .u8 0) 1 1 Tryd.underlying33 hi hz0 hz1 hz2 rfl (by decide) v l.length (bys l) h ad m.length cap (bys m) (by rw [bys_len, Nat.mul_one]) (Bl.news hu) (bys_one m) (by unfold maxLen; omega) (by omega) hB
    have hr : BRow w' B v' (l ++ m) := by
      unfold BRow
      rw [List.length_append, show bys (l ++ m) = bys l ++ bys m by simp [bys]]
      exact h2
    obtain ⟨a, c, rfl, _⟩ := hr.nl.form
    exact ⟨a, _, c, w', h1, hr, h3⟩
theorem tags_bytes {w : World} {B B' : Nat} {v a : Value} {l m : List Int} (hv : BRow w B v l) (ha : Row w B' a m) : apart v a ∧ apart a v := by
  have key : ∀ g, v.ownBlock = some g → a.ownBlock = some g → False := fun g hg hg' => by
    rcases hv.2 with ⟨rfl, _⟩ | ⟨g1, cap, cur, rfl, _, h1, _⟩
    · cases hg
    · rcases ha.2 with ⟨rfl, _⟩ | ⟨g2, cap', cur', rfl, _, h2, _⟩
      · cases hg'
      · simp only [Value.ownBlock, Option.some.injEq] at hg hg'
        subst hg
        subst hg'
        rw [h1] at h2
        simp only [Option.some.injEq, Obj.cells.injEq] at h2
        exact absurd h2.2.1 (by decide)
  exact ⟨fun g h h' => key g h h', fun g h h' => key g h' h⟩
end Go.Proofs.YtcnpckdchjjeoaaDoor
