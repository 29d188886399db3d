/-
  The chapter's own sort: what an insertion makes; append of records that may be none.
-/
import Derived.Test.YtkmcieiglhdjeaaDoorVRecLend
namespace Go.Proofs.YtkmcieiglhdjeaaDoor
open Go.RowKit Go.Lib

theorem sorts_insert {l m : List Rc} {r : Rc} {k : Nat} (h : Sorts l m) (hk : k ≤ m.length) (hu : ∀ x ∈ m.drop k, lessR r x = true) (hl : ∀ (h0 : 0 < k), lessR r (m[k - 1]'(by omega)) = false) :
    Sorts (l ++ [r]) (m.take k ++ r :: m.drop k) := by
  obtain ⟨h1, h2, h3⟩ := h
  refine ⟨?_, ?_, by simp; omega⟩
  · have hp : (m.take k ++ m.drop k).Pairwise Le := by rw [List.take_append_drop]; exact h1
    rw [List.pairwise_append] at hp ⊢
    obtain ⟨p1, p2, p3⟩ := hp
    have hlow : ∀ x ∈ m.take k, Le x r := fun x hx => by
      obtain ⟨i, hi, rfl⟩ := List.mem_take_iff_getElem.1 hx
      have h0 : 0 < k := by omega
      have hr : Le (m[k - 1]'(by omega)) r := hl h0
      have hi2 : i < k := by omega
      by_cases hik : i = k - 1
      · subst hik; exact hr
      · exact le_trans (List.pairwise_iff_getElem.1 h1 i (k - 1) (by omega) (by omega) (by omega)) hr
    refine ⟨p1, ?_, ?_⟩
    · rw [List.pairwise_cons]
      exact ⟨fun y hy => le_of_less (hu y hy), p2⟩
    · intro x hx y hy
      rcases List.mem_cons.1 hy with rfl | hy
      · exact hlow x hx
      · exact p3 x hx y hy
  · have c1 : Cls (l ++ [r]) (m ++ [r]) := h2.append (Cls.refl _)
    have c2 : Cls (m.take k ++ (m.drop k ++ [r])) (m.take k ++ ([r] ++ m.drop k)) := (Cls.refl _).append (Cls.swap fun x hx y hy => by
      simp at hy
      subst hy
      exact hu x hx)
    rw [← List.append_assoc, List.take_append_drop] at c2
    exact c1.trans c2

/-- The row v, of one's own from block B on, holds the records l. -/
def ORow (w : World) (B : Nat) (v : Value) (l : List Rc) : Prop := w.ownsRow B 27 5 v l.length (cs5 l)
theorem ORow.nil (w : World) (B : Nat) : ORow w B (.slice none 0 0) [] := World.ownsRow_nil _ _ _ _
theorem ORow.below {w w' : World} {B : Nat} {v : Value} {l : List Rc} (h : ORow w B v l) (hb : Below w.heap.size w w') : ORow w' B v l := own_below h hb
theorem ORow.mono {w : World} {B B' : Nat} {v : Value} {l : List Rc} (h : ORow w B v l) (hb : B' ≤ B) : ORow w B' v l := own_mono h hb
theorem ORow.rl {w : World} {B : Nat} {v : Value} {l : List Rc} (h : ORow w B v l) : Rl w v l := by
  rcases h.2 with ⟨rfl, h0⟩ | ⟨g, cap, cur, rfl, _, _, hn, _⟩
  · exact .inl ⟨rfl, List.eq_nil_of_length_eq_zero h0⟩
  · refine .inr ⟨⟨g, 0, none⟩, cap, rfl, hn, fun _ => ⟨g, 0, rfl, fun k hk => ?_⟩⟩
    have h1 := cs5_at l k hk
    have f : ∀ j, j < l.length * 5 → w.cell? ⟨g, j, none⟩ = (cs5 l)[j]? := fun j hj => World.ownsRow.cellAt h j hj
    rw [Nat.zero_add]
    exact ⟨(f _ (by omega)).trans h1.1, (f _ (by omega)).trans h1.2.1, (f _ (by omega)).trans h1.2.2.1, (f _ (by omega)).trans h1.2.2.2.1, (f _ (by omega)).trans h1.2.2.2.2⟩

theorem rapp_run (m l : List Rc) (v u : Value) (B : Nat) (w : World) (ty : TypeId) (hv : ORow w B v m) (h : Rl w u l) (hn : m.length + l.length ≤ 1000000) (hB : B ≤ w.heap.size) :
    ∃ v' w1, (Builtin.append_ #[28, 28] ty #[v, u]).run Tryd.prog w = .ok v' w1 ∧ ORow w1 B v' (m ++ l) ∧ w.grownBy w1 v.ownBlock := by
  obtain ⟨i0, hi, hz0, hz1, hz2⟩ := info_parts recInfo
  rcases h with ⟨rfl, rfl⟩ | ⟨ad, cap, rfl, _, h⟩
  · refine ⟨v, w, ?_, by rw [List.append_nil]; exact hv, grown_refl _ _⟩
    rcases hv.2 with ⟨rfl, h0⟩ | ⟨g, cap, cur, rfl, _, _, hn, _⟩
    · simp [Builtin.append_, go_sem, run_underlying Tryd.underlying28]
    · simp [Builtin.append_, go_sem, run_underlying Tryd.underlying28]
      intro hh
      omega
  · obtain ⟨v', w', h1, h2, h3, _, _⟩ := run_append_own_at (P := Tryd.prog) w B 28 ty 27 i0 _ 5 48 Tryd.underlying28 hi hz0 hz1 hz2 rfl (by decide) v m.length (cs5 m) hv ad l.length cap (cs5 l) (cs5_len l) (fun j u hu => by
      have hj : j < l.length * 5 := by have := (List.getElem?_eq_some_iff.1 hu).1; rwa [cs5_len] at this
      obtain ⟨b, o, rfl, hR⟩ := h (by omega)
      exact hR.news j u hu) (cs5_one l) (by unfold maxLen; omega) (by omega) hB
    refine ⟨v', w', h1, ?_, h3⟩
    unfold ORow
    rw [List.length_append, cs5_app]
    exact h2

theorem step_rapp {w : World} {ops : Array Oper} {o : Oper} {a : Act} {K : Act → World → Prop} {Q : Exit → Act → World → Prop} {E : Prop} (hgd : o.guard = none) (s x : Operand)
    (ho : o.op = .call { callee := .builtin .append, args := #[s, x], argTypes := #[28, 28] })
    (B : Nat) (v u : Value) (m l : List Rc) (hs : a.eval s = v) (hx : a.eval x = u) (hv : ORow w B v m) (hu : Rl w u l) (hn : m.length + l.length ≤ 1000000) (hB : B ≤ w.heap.size)
    (h : ∀ v' w', ORow w' B v' (m ++ l) → w.grownBy w' v.ownBlock → K (a.put o.dst v') w') :
    if Region.wanted o (yielded ops a.tmps) = true then Oper.wp Tryd.prog o a w K Q else E := by
  have hw : Region.wanted o (yielded ops a.tmps) = true := by simp [Region.wanted, hgd]
  rw [if_pos hw]
  obtain ⟨v', w', hr, h2, h3⟩ := rapp_run m l v u B w o.type hv hu hn hB
  unfold Oper.wp execOp
  simp only [ho, resolve, invoke, builtin, Sem.run_bind, Sem.run_pure, Result.andThen_ok, List.map_toArray, List.map_cons, List.map_nil, hs, hx, hr]
  exact h v' w' h2 h3

/-- One record that has just been laid. -/
theorem rl_one (w : World) (B : Nat) (r : Rc) (h : Bx 27 w B #[.int .i64 r.o, .int .i64 r.s, .int .i64 r.w, .int .i64 r.c, .string r.t]) : Rl w (.slice (some ⟨B, 0, none⟩) 1 1) [r] := by
  obtain ⟨c0, c1, c2, c3, c4⟩ := h.five
  refine .inr ⟨_, 1, rfl, Nat.le_refl _, fun _ => ⟨B, 0, rfl, fun k hk => ?_⟩⟩
  have hk2 : k < 1 := hk
  match k, hk2 with
  | 0, _ => exact ⟨c0, c1, c2, c3, c4⟩

theorem Recs.take {w : World} {b o : Nat} {l : List Rc} (h : Recs w b o l) (k : Nat) : Recs w b o (l.take k) := fun j hj => by
  rw [List.length_take] at hj
  rw [List.getElem_take]
  exact h j (by omega)
theorem Recs.drop {w : World} {b o : Nat} {l : List Rc} (h : Recs w b o l) (k : Nat) : Recs w b (o + k * 5) (l.drop k) := fun j hj => by
  rw [List.length_drop] at hj
  rw [List.getElem_drop]
  have h1 := h (k + j) (by omega)
  rw [show o + k * 5 + j * 5 = o + (k + j) * 5 from by omega]
  exact h1
end Go.Proofs.YtkmcieiglhdjeaaDoor
