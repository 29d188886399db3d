/-
  both of the program, by contract: the Posts that two lists share, with the places that are kept.
-/
import Derived.Test.YtgdajnjfkokmdaaPstPrsP
import Derived.Test.YtgdajnjfkokmdaaPstFol
import Derived.Test.YtgdajnjfkokmdaaPstDrop
namespace Go.Proofs.Ytgdajnjfkokmdaa
open Go.RowKit Go.Lib Go.Sort Go.Shelf
set_option maxRecDepth 100000

attribute [local go_sem] Oper.semAt_some

theorem row_nocells {W W' : World} {n₀ size k : Nat} {e : TypeId} {v : Value} {xs : List Value} {row : Option Nat} (hr : W.ownsRow n₀ e size v k xs) (hg : W.grownBy W' row) (hrow : ∀ r, row = some r → ∃ o : Obj, W.heap[r]? = some o ∧ o.isCells = false) : W'.ownsRow n₀ e size v k xs := by
  refine hr.kept hg ?_
  rcases hr.2 with ⟨rfl, _⟩ | ⟨g, cap, _, rfl, _, hgb, _⟩
  · exact .inl rfl
  · refine .inr fun e' => ?_
    obtain ⟨o, ho, hc⟩ := hrow g (by simpa [Value.ownBlock] using e'.symm)
    rw [hgb] at ho; cases ho; cases hc
theorem boxed_nocells {W W' : World} {B : Nat} {t : TypeId} {v : Value} {row : Option Nat} (hv : Boxed W B t v) (hg : W.grownBy W' row) (hrow : ∀ r, row = some r → ∃ o : Obj, W.heap[r]? = some o ∧ o.isCells = false) : Boxed W' B t v := by
  refine hv.kept hg fun e' => ?_
  obtain ⟨o, ho, hc⟩ := hrow B e'.symm
  rw [show W.heap[B]? = _ from hv] at ho; cases ho; cases hc
theorem bx_nocells {W W' : World} {B : Nat} {t : TypeId} {cs : Array Value} {row : Option Nat} (hv : Bx t W B cs) (hg : W.grownBy W' row) (hrow : ∀ r, row = some r → ∃ o : Obj, W.heap[r]? = some o ∧ o.isCells = false) : Bx t W' B cs := by
  refine (hg.block B hv.lt fun e' => ?_).trans hv
  obtain ⟨o, ho, hc⟩ := hrow B e'.symm
  rw [show W.heap[B]? = _ from hv] at ho; cases ho; cases hc
theorem rows_apart {w : World} {B B' size size' k k' : Nat} {e e' : TypeId} {v v' : Value} {xs xs' : List Value} (h : w.ownsRow B e size v k xs) (h' : w.ownsRow B' e' size' v' k' xs') (hne : e ≠ e') : ∀ g, v.ownBlock = some g → ∀ g', v'.ownBlock = some g' → g ≠ g' := by
  intro g hg g' hg' he
  rcases h.2 with ⟨rfl, _⟩ | ⟨b, cap, cur, rfl, _, hh, _⟩
  · cases hg
  · rcases h'.2 with ⟨rfl, _⟩ | ⟨b', cap', cur', rfl, _, hh', _⟩
    · cases hg'
    · simp only [Value.ownBlock, Option.some.injEq] at hg hg'
      subst hg hg' he
      rw [hh] at hh'
      simp only [Option.some.injEq, Obj.cells.injEq] at hh'
      exact hne hh'.2.1
/-- Places that lie where they lay at the call, or in a row of one's own. -/
def AtOk (w0 W : World) (v : Value) (ns : List Int) : Prop := Nl w0 v ns ∨ Row W w0.heap.size v ns
theorem AtOk.nl {w0 W : World} {v : Value} {ns : List Int} (h : AtOk w0 W v ns) (hb : Below w0.heap.size w0 W) : Nl W v ns := by
  rcases h with h | h
  · exact h.below hb
  · exact h.nl
theorem AtOk.below {w0 W W' : World} {v : Value} {ns : List Int} (h : AtOk w0 W v ns) (hb : Below W.heap.size W W') : AtOk w0 W' v ns := h.imp id fun h => Row.below h hb
theorem AtOk.nocells {w0 W W' : World} {v : Value} {ns : List Int} {row : Option Nat} (h : AtOk w0 W v ns) (hg : W.grownBy W' row) (hrow : ∀ r, row = some r → ∃ o : Obj, W.heap[r]? = some o ∧ o.isCells = false) : AtOk w0 W' v ns :=
  h.imp id fun h => row_nocells h hg hrow
theorem AtOk.form {w0 W : World} {v : Value} {ns : List Int} (h : AtOk w0 W v ns) : ∃ A C, v = .slice A ns.length C := by
  rcases h with h | h
  · obtain ⟨A, C, e, _⟩ := h.form
    exact ⟨A, C, e⟩
  · obtain ⟨A, C, e, _⟩ := h.nl.form
    exact ⟨A, C, e⟩
theorem AtOk.app {w0 W w1 : World} {n₀ Bk k : Nat} {u v v' : Value} {ns : List Int} {xs : List Value} {tmp : Obj} (h : AtOk w0 W u ns) (hv : Boxed W Bk 30 v) (hrow : W.ownsRow n₀ 37 3 v k xs) (hgrow : (W.alloc tmp).grownBy w1 v.ownBlock) :
    AtOk w0 (w1.setCell ⟨Bk, 0, none⟩ v') u ns := by
  refine h.imp id fun h => ?_
  have h1 : Row (W.alloc tmp) w0.heap.size u ns := h.below (alloc_below _ _)
  have h2 : Row w1 w0.heap.size u ns := h1.far hgrow (fun g hg g' hg' => (rows_apart (own_below hrow (alloc_below W tmp)) h1 (by decide)) g hg g' hg')
  refine h2.far (grownBy_setCell' w1 Bk v') (fun g hg g' hg' => ?_)
  cases hg
  have hb1 : Boxed w1 Bk 30 v := (hv.alloc tmp).kept hgrow (hv.not_row (by decide) hrow)
  exact fun e => hb1.not_row (by decide) h2 (by rw [hg', e])
theorem keeps_of_below {B : Nat} {W W' : World} (h : Below W.heap.size W W') : KeepsFrom B W W' := ⟨h.size, fun k _ _ hk _ => (h.block k (Array.getElem?_eq_some_iff.1 hk).1).trans hk⟩
theorem prspost_c (a1 a2 : Option Addr) (n1 c1 n2 c2 : Nat) (w : World) : Calls Try.prog 60 #[.slice a1 n1 c1, .slice a2 n2 c2, .func (.func 59) #[] #[]] w fun e w' =>
    e = .returned (.func (.func 74) #[] #[.pointer (some ⟨w.heap.size, 0, none⟩), .pointer (some ⟨w.heap.size + 1, 0, none⟩), .pointer (some ⟨w.heap.size + 1 + 1, 0, none⟩)]) ∧
    w' = ((w.alloc (.cells #[.slice a1 n1 c1] 30)).alloc (.cells #[.slice a2 n2 c2] 30)).alloc (.cells #[.func (.func 59) #[] #[]] 79) := by
  go_enter Try.func60, Try.ntmps60
  go_wp2
  go_ret
  exact ⟨by simp, rfl⟩
/-- What two lists share, with the places that are kept. -/
def bothF (kf : List Int → List Int → List Int) (pre : List (Pv × Pv)) : List Po :=
  pre.filterMap fun z => if (kf z.1.ns z.2.ns).isEmpty then none else some ⟨(z.1.o, z.1.s), kf z.1.ns z.2.ns⟩
theorem bothF_app (kf : List Int → List Int → List Int) (pre : List (Pv × Pv)) (z : Pv × Pv) : bothF kf (pre ++ [z]) = bothF kf pre ++ (if (kf z.1.ns z.2.ns).isEmpty then [] else [⟨(z.1.o, z.1.s), kf z.1.ns z.2.ns⟩]) := by
  unfold bothF
  rw [List.filterMap_append]
  congr 1
  simp only [List.filterMap_cons, List.filterMap_nil]
  split <;> rename_i h <;> split at h <;> simp_all
theorem bothF_len (kf : List Int → List Int → List Int) (pre : List (Pv × Pv)) : (bothF kf pre).length ≤ pre.length := List.length_filterMap_le _ _
/-- The Posts' row behind the loop so far. -/
def Held (w0 : World) (n₀ Bk : Nat) (qo : List Po) (W : World) : Prop := ∃ (v : Value) (qs : List Pv), Boxed W Bk 30 v ∧ PRow W n₀ v qs ∧ (∀ x ∈ qs, AtOk w0 W x.a x.ns) ∧ ps qs = qo
theorem Held.nocells {w0 W W' : World} {n₀ Bk : Nat} {qo : List Po} {row : Option Nat} (h : Held w0 n₀ Bk qo W) (hg : W.grownBy W' row) (hrow : ∀ r, row = some r → ∃ o : Obj, W.heap[r]? = some o ∧ o.isCells = false) : Held w0 n₀ Bk qo W' := by
  obtain ⟨v, qs, h1, h2, h3, h4⟩ := h
  exact ⟨v, qs, boxed_nocells h1 hg hrow, row_nocells h2 hg hrow, fun x hx => (h3 x hx).nocells hg hrow, h4⟩
theorem Held.below {w0 W W' : World} {n₀ Bk : Nat} {qo : List Po} (h : Held w0 n₀ Bk qo W) (hb : Below W.heap.size W W') : Held w0 n₀ Bk qo W' := by
  obtain ⟨v, qs, h1, h2, h3, h4⟩ := h
  exact ⟨v, qs, (hb.block Bk h1.lt).trans h1, h2.below hb, fun x hx => (h3 x hx).below hb, h4⟩
end Go.Proofs.Ytgdajnjfkokmdaa
