/-
  Rows of Keys and of Posts of one's own: append.
-/
import Derived.Test.YtgdajnjfkokmdaaPstMay
namespace Go.Proofs.Ytgdajnjfkokmdaa
open Go.RowKit Go.Lib

theorem keyInfo : (Try.prog.info? 34).map (fun i => (i.zero, i.size, i.bytes)) = some (some (.agg #[.int .i64 0, .int .i64 0]), 2, 16) := by kernel_rfl
theorem postInfo : (Try.prog.info? 37).map (fun i => (i.zero, i.size, i.bytes)) = some (some (.agg #[.int .i64 0, .int .i64 0, .slice none 0 0]), 3, 40) := by kernel_rfl
theorem own_form {w : World} {B : Nat} {e : TypeId} {z : Nat} {v : Value} {n : Nat} {xs : List Value} (h : w.ownsRow B e z v n xs) : ∃ A C, v = .slice A n C ∧ n ≤ C := by
  rcases h.2 with ⟨rfl, h0⟩ | ⟨g, cap, cur, rfl, _, _, hn, _⟩
  · exact ⟨none, 0, by rw [h0], by omega⟩
  · exact ⟨_, _, rfl, hn⟩
/-- append of Keys to a row of one's own. -/
theorem kapp_run (l m : List Ky) (v u : Value) (w : World) (ty : TypeId) (B : Nat) (h : KRow w B v l) (hu : KRd w u m) (hn : l.length + m.length ≤ 1000000) (hB : B ≤ w.heap.size) :
    ∃ A C w1, (Builtin.append_ #[25, 25] ty #[v, u]).run Try.prog w = .ok (.slice A (l ++ m).length C) w1 ∧ KRow w1 B (.slice A (l ++ m).length C) (l ++ m) ∧ w.grownBy w1 v.ownBlock ∧ ((Value.slice A (l ++ m).length C).ownBlock = v.ownBlock ∨ (Value.slice A (l ++ m).length C).ownBlock = some w.heap.size) := by
  obtain ⟨i0, hi, hz0, hz1, hz2⟩ := info_parts keyInfo
  obtain ⟨ad, cap, rfl, hcap, h3⟩ := id hu
  have fin : ∀ a : Addr, (∀ j x, (cs2 m)[j]? = some x → w.cell? (a.add j) = some x) → ∃ A C w1, (Builtin.append_ #[25, 25] ty #[v, .slice (some a) m.length cap]).run Try.prog w = .ok (.slice A (l ++ m).length C) w1 ∧ KRow w1 B (.slice A (l ++ m).length C) (l ++ m) ∧ w.grownBy w1 v.ownBlock ∧ ((Value.slice A (l ++ m).length C).ownBlock = v.ownBlock ∨ (Value.slice A (l ++ m).length C).ownBlock = some w.heap.size) := fun a ha => by
    obtain ⟨v', w', h1, h2, h4, _, h5⟩ := run_append_own_at (P := Try.prog) w B 25 ty 34 i0 _ 2 16 Try.underlying25 hi hz0 hz1 hz2 rfl (by decide) v l.length (cs2 l) h a m.length cap (cs2 m) (cs2_len m) ha (cs2_one m) (by unfold maxLen; omega) (by omega) hB
    have hr : KRow w' B v' (l ++ m) := by
      unfold KRow
      rw [List.length_append, cs2_app]
      exact h2
    obtain ⟨A, C, rfl, _⟩ := own_form hr
    exact ⟨A, C, w', h1, hr, h4, h5⟩
  cases m with
  | nil =>
    cases ad with
    | some a => exact fin a (fun j x hj => by simp [cs2] at hj)
    | none =>
      obtain ⟨A, C, rfl, hc⟩ := own_form h
      refine ⟨A, C, w, ?_, ?_, grown_refl _ _, .inl ?_⟩
      · simp only [List.append_nil]
        cases A <;> simp [Builtin.append_, go_sem, run_underlying Try.underlying25, hc]
      · simp only [List.append_nil]
        exact h
      · simp only [List.append_nil]
  | cons k r =>
    obtain ⟨b, o, rfl, hat⟩ := h3 (by simp)
    refine fin ⟨b, o, none⟩ (fun j x hj => ?_)
    have hjl : j < (cs2 (k :: r)).length := by
      rcases Nat.lt_or_ge j (cs2 (k :: r)).length with h | h
      · exact h
      · rw [List.getElem?_eq_none h] at hj; cases hj
    rw [cs2_len] at hjl
    rw [Go.WideShapes.add_plain]
    obtain ⟨t, rfl | rfl⟩ : ∃ t, j = t * 2 ∨ j = t * 2 + 1 := ⟨j / 2, by omega⟩
    · rw [(cs2_at (k :: r) t (by omega)).1] at hj
      rw [← Option.some.inj hj]
      exact (hat t (by omega)).1
    · rw [(cs2_at (k :: r) t (by omega)).2] at hj
      rw [← Option.some.inj hj]
      exact (hat t (by omega)).2
/-- One Key just laid. -/
theorem KRd.one (w : World) (o s : Int) (T : TypeId) : KRd (w.alloc (.cells #[.int .i64 o, .int .i64 s] T)) (.slice (some ⟨w.heap.size, 0, none⟩) 1 1) [(o, s)] := by
  refine ⟨_, 1, rfl, by simp, fun _ => ⟨w.heap.size, 0, rfl, fun k hk => ?_⟩⟩
  have hx := Bx.new T w #[.int .i64 o, .int .i64 s]
  match k, hk with
  | 0, _ => exact ⟨hx.cell 0, hx.cell 1⟩
/-- One Key more behind a row of one's own. -/
theorem KRow.push {w : World} {B : Nat} {v : Value} {l : List Ky} (h : KRow w B v l) (o s : Int) (hn : l.length ≤ 100000) (hB : B ≤ w.heap.size) (ty T : TypeId) :
    ∃ A C w1, (Builtin.append_ #[25, 25] ty #[v, .slice (some ⟨w.heap.size, 0, none⟩) 1 1]).run Try.prog (w.alloc (.cells #[.int .i64 o, .int .i64 s] T)) = .ok (.slice A (l.length + 1) C) w1 ∧ KRow w1 B (.slice A (l.length + 1) C) (l ++ [(o, s)]) ∧ Below B w w1 := by
  have hal := alloc_below w (.cells #[.int .i64 o, .int .i64 s] T)
  obtain ⟨A, C, w1, h1, h2, h3, _⟩ := kapp_run l [(o, s)] v _ _ ty B (h.below hal) (KRd.one w o s T) (by simp; omega) (Nat.le_trans hB hal.size)
  simp only [List.length_append, List.length_singleton] at h1 h2
  refine ⟨A, C, w1, h1, h2, ?_⟩
  have hb := below_of_grown h3 (Nat.le_trans hB hal.size) (fun g hg => (World.ownsRow.lt h g hg).1)
  exact (hal.mono hB).trans hb
end Go.Proofs.Ytgdajnjfkokmdaa
