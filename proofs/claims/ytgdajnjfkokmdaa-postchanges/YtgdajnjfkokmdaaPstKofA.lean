/-
  keysOfAll of the program, by contract: And.
-/
import Derived.Test.YtgdajnjfkokmdaaPstKeep
import Derived.Test.YtgdajnjfkokmdaaPstBothC
import Derived.Test.YtgdajnjfkokmdaaPstPKeys
import Derived.Test.YtgdajnjfkokmdaaPstPAll
import Derived.Test.YtgdajnjfkokmdaaPstNew
namespace Go.Proofs.Ytgdajnjfkokmdaa
open Go.RowKit Go.Lib
set_option maxRecDepth 100000

theorem prsP_Q (l m : List Pv) : prs cmpQ (ps l) (ps m) = (prs cmpP l m).map fun z => (z.1.p, z.2.p) := prs_map cmpP cmpQ Pv.p Pv.p (fun _ _ => rfl) l m
theorem bothF_Q (kf : List Int → List Int → List Int) (l m : List Pv) : bothF kf (prs cmpP l m) = bothQ kf (ps l) (ps m) := by
  unfold bothQ bothF
  rw [prsP_Q, List.filterMap_map]
  rfl
theorem bothF_le (kf : List Int → List Int → List Int) (l m : List Pv) : (bothF kf (prs cmpP l m)).length ≤ l.length := Nat.le_trans (bothF_len _ _) (prs_len _ _ _)
theorem kyOf_ps (l : List Pv) : kyOf l = (ps l).map Po.k := by simp [kyOf, ps, Pv.p]
theorem kysOf_one (v : Value) (l : List Pv) : kysOf [⟨v, l⟩] = (ps l).map Po.k := by simp [kysOf, kyOf_ps]
theorem lrd_one {w : World} {v : Value} {l : List Pv} (h : PRd w v l) : LRd (w.alloc (.cells #[v] 30)) (.slice (some ⟨w.heap.size, 0, none⟩) 1 1) [⟨v, l⟩] :=
  lrd_new (w := w) (vs := [v]) (ls := [⟨v, l⟩]) rfl (fun x hx => by simp only [List.mem_singleton] at hx; subst hx; exact h) 30
theorem ps_eq_len {a b : List Pv} (h : ps a = ps b) : a.length = b.length := by
  have := congrArg List.length h
  simpa [ps] using this
/-- Places no longer than so many. -/
def nsLe (n : Nat) (l : List Po) : Prop := ∀ p ∈ l, p.ns.length ≤ n
theorem nsLe_ps {n : Nat} {l : List Pv} (h : ∀ x ∈ l, x.ns.length ≤ n) : nsLe n (ps l) := fun p hp => by
  obtain ⟨x, hx, rfl⟩ := List.mem_map.1 hp
  exact h x hx
theorem nsLe_of {n : Nat} {l : List Pv} (h : nsLe n (ps l)) : ∀ x ∈ l, x.ns.length ≤ n := fun x hx => h x.p (List.mem_map_of_mem hx)
theorem nsLe_both {n : Nat} {kf : List Int → List Int → List Int} (hk : ∀ a b, (kf a b).length ≤ a.length) {l m : List Po} (h : nsLe n l) : nsLe n (bothQ kf l m) := fun p hp => by
  obtain ⟨⟨x, y⟩, h1, h2⟩ := List.mem_filterMap.1 hp
  obtain ⟨_, rfl⟩ := keepQ_some.1 h2
  exact Nat.le_trans (hk _ _) (h x (prs_mem _ _ _ _ h1).1)
theorem foldK_step (kf : Int → List Int → List Int → List Int) : ∀ (r : List (List Po)) (on : Int) (l : List Po) (j : Nat) (hj : j < r.length), foldK kf on l (r.take (j + 1)) = bothQ (kf (on + (j : Int) + 1)) (foldK kf on l (r.take j)) r[j]
  | m :: r, on, l, 0, _ => by simp [foldK]
  | m :: r, on, l, j + 1, hj => by
    have ih := foldK_step kf r (on + 1) (bothQ (kf (on + 1)) l m) j (by simpa using hj)
    simp only [List.take_succ_cons, foldK, List.getElem_cons_succ]
    rw [ih, show on + 1 + (j : Int) + 1 = on + ((j + 1 : Nat) : Int) + 1 by omega]
theorem wpList_slice_run {P : Program} {w : World} {ops : Array Oper} {rest : List Oper} {o : Oper} {a : Act} {Q : Exit → Act → World → Prop} (hgd : o.guard = none) (t : TypeId) (s : Operand) (lo hi : Option Operand)
    (ho : o.op = .slice t s lo hi none) (v' : Value)
    (hr : (Instr.sliceAt t (a.eval s) (lo.map a.eval) (hi.map a.eval) none).run P w = .ok v' w) (h : wpList P ops Q rest (a.put o.dst v') w) : wpList P ops Q (o :: rest) a w :=
  wpList_plain hgd fun _ hK => by
    unfold Oper.wp execOp
    simp only [ho, Option.map_none, Sem.run_bind, Sem.run_pure, Result.andThen_ok, hr]
    exact hK _ _ h

theorem lslice_tail (g1 o1 n cap : Nat) (hn : 1 ≤ n) (hc : n ≤ cap) : ∃ A N C, (∀ W, (Instr.sliceAt 22 (.slice (some ⟨g1, o1, none⟩) n cap) (some (.int .i64 1)) none none).run Try.prog W = .ok (.slice A N C) W) ∧ N = n - 1 ∧ (1 < n → A = some ⟨g1, o1 + 1, none⟩) := by
  have hs : ∀ W, (sizeOf 30).run Try.prog W = .ok 1 W := fun W => by
    have := Try.sizeOf30
    simp [sizeOf]
    rfl
  refine ⟨if cap = 1 then some ⟨g1, o1, none⟩ else some ⟨g1, o1 + 1, none⟩, n - 1, cap - 1, fun W => ?_, rfl, fun h => by rw [if_neg (by omega)]⟩
  rw [run_sliceAt_slice W _ _ _ _ _ Try.underlying22, run_slice_any W _ _ _ _ Try.underlying22]
  have hb : (Instr.sliceBounds true n cap (some (.int .i64 1)) none none).run Try.prog W = .ok (1, n, cap) W := by
    have h1 : (1 : Int) ≤ (n : Int) := by omega
    simp [Instr.sliceBounds, run_sliceBound_if, go_sem, h1]
  rw [hb]
  simp only [Result.andThen]
  rw [show Try.prog.elem 22 = 30 by kernel_rfl, hs]
  simp only [sliced]
  by_cases h0 : cap = 1
  · simp [h0]
  · simp only [h0, if_false, Option.map_some]
    rw [Go.WideShapes.add_plain]
theorem phK_no {ls : List (List Po)} (h : allMay ls = false) : phK ls = [] := by unfold phK; rw [andK_no h]; rfl
end Go.Proofs.Ytgdajnjfkokmdaa
