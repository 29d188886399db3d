/-
  And, Or, Phrase of lists that are written out one by one: what holds of a list of lists holds of one just laid.
-/
import Derived.Test.YtgdajnjfkokmdaaPstTellsLaw
namespace Go.Proofs.Ytgdajnjfkokmdaa
open Go.RowKit Go.Lib
set_option maxRecDepth 100000

theorem lrd_new {w : World} {vs : List Value} {ls : List Lv} (hv : ls.map Lv.v = vs) (h : ∀ x ∈ ls, PRd w x.v x.l) (T : TypeId) : LRd (w.alloc (.cells vs.toArray T)) (.slice (some ⟨w.heap.size, 0, none⟩) ls.length ls.length) ls := by
  have hx := Bx.new T w vs.toArray
  refine ⟨⟨_, ls.length, rfl, Nat.le_refl _, fun _ => ⟨w.heap.size, 0, rfl, fun k hk => ?_⟩⟩, fun x hx => (h x hx).below (alloc_below _ _)⟩
  rw [Nat.zero_add, hx.cell k, ← hv]
  simp [hk]
theorem keysT_of {l : List Ky} {w w1 : World} {e : Ending} {w' : World} (hb : Below w.heap.size w w1) (h : keysT l w1 e w') : keysT l w e w' := by
  obtain ⟨v, h1, h2, h3⟩ := h
  exact ⟨v, h1, own_mono h2 hb.size, bn hb h3⟩
def small1 (l : List Pv) : Prop := l.length ≤ 40 ∧ ∀ x ∈ l, x.ns.length ≤ 30
theorem lsC.one {f : FuncId} {F : List (List Po) → List Ky} (h : lsC f F) {w : World} {va : Value} {a : List Pv} (ha : PRd w va a) (sa : small1 a) (oa : okP (ps a)) :
    Calls Try.prog f #[.slice (some ⟨w.heap.size, 0, none⟩) 1 1] (w.alloc (.cells #[va] 30)) (keysT (F [ps a]) w) := by
  have hl := lrd_new (w := w) (vs := [va]) (ls := [⟨va, a⟩]) rfl (fun x hx => by simp only [List.mem_singleton] at hx; subst hx; exact ha) 30
  refine (h _ _ _ hl ⟨by simp, fun y hy => by simp only [List.mem_singleton] at hy; subst hy; exact sa⟩ (fun l hl => by simp only [pls, List.map_cons, List.map_nil, List.mem_singleton] at hl; subst hl; exact oa)).mono ?_
  exact fun e w' hh => keysT_of (alloc_below _ _) hh
theorem lsC.two {f : FuncId} {F : List (List Po) → List Ky} (h : lsC f F) {w : World} {va vb : Value} {a b : List Pv} (ha : PRd w va a) (hb : PRd w vb b) (sa : small1 a) (sb : small1 b) (oa : okP (ps a)) (ob : okP (ps b)) :
    Calls Try.prog f #[.slice (some ⟨w.heap.size, 0, none⟩) 2 2] (w.alloc (.cells #[va, vb] 30)) (keysT (F [ps a, ps b]) w) := by
  have hl := lrd_new (w := w) (vs := [va, vb]) (ls := [⟨va, a⟩, ⟨vb, b⟩]) rfl (fun x hx => by
    rcases List.mem_cons.1 hx with rfl | hx
    · exact ha
    · simp only [List.mem_singleton] at hx; subst hx; exact hb) 30
  refine (h _ _ _ hl ⟨by simp, fun y hy => by
    rcases List.mem_cons.1 hy with rfl | hy
    · exact sa
    · simp only [List.mem_singleton] at hy; subst hy; exact sb⟩ (fun l hl => by simp only [pls, List.map_cons, List.map_nil, List.mem_cons, List.not_mem_nil, or_false] at hl; rcases hl with rfl | rfl <;> assumption)).mono ?_
  exact fun e w' hh => keysT_of (alloc_below _ _) hh
theorem lsC.three {f : FuncId} {F : List (List Po) → List Ky} (h : lsC f F) {w : World} {va vb vc : Value} {a b c : List Pv} (ha : PRd w va a) (hb : PRd w vb b) (hc : PRd w vc c) (sa : small1 a) (sb : small1 b) (sc : small1 c) (oa : okP (ps a)) (ob : okP (ps b)) (oc : okP (ps c)) :
    Calls Try.prog f #[.slice (some ⟨w.heap.size, 0, none⟩) 3 3] (w.alloc (.cells #[va, vb, vc] 30)) (keysT (F [ps a, ps b, ps c]) w) := by
  have hl := lrd_new (w := w) (vs := [va, vb, vc]) (ls := [⟨va, a⟩, ⟨vb, b⟩, ⟨vc, c⟩]) rfl (fun x hx => by
    rcases List.mem_cons.1 hx with rfl | hx
    · exact ha
    · rcases List.mem_cons.1 hx with rfl | hx
      · exact hb
      · simp only [List.mem_singleton] at hx; subst hx; exact hc) 30
  refine (h _ _ _ hl ⟨by simp, fun y hy => by
    rcases List.mem_cons.1 hy with rfl | hy
    · exact sa
    · rcases List.mem_cons.1 hy with rfl | hy
      · exact sb
      · simp only [List.mem_singleton] at hy; subst hy; exact sc⟩ (fun l hl => by simp only [pls, List.map_cons, List.map_nil, List.mem_cons, List.not_mem_nil, or_false] at hl; rcases hl with rfl | rfl | rfl <;> assumption)).mono ?_
  exact fun e w' hh => keysT_of (alloc_below _ _) hh
/-- GreatPosts of two lists just laid. -/
theorem great_two {w : World} {va vb : Value} {a b : List Pv} (ha : PRd w va a) (hb : PRd w vb b) :
    Calls Try.prog 8 #[.slice (some ⟨w.heap.size, 0, none⟩) 2 2, .int .i64 2] (w.alloc (.cells #[va, vb] 30)) fun e w' => ∃ g : Bool, e = .returned (.bool g) ∧ Below w.heap.size w w' ∧ (g = false → small1 a ∧ small1 b) := by
  have hl := lrd_new (w := w) (vs := [va, vb]) (ls := [⟨va, a⟩, ⟨vb, b⟩]) rfl (fun x hx => by
    rcases List.mem_cons.1 hx with rfl | hx
    · exact ha
    · simp only [List.mem_singleton] at hx; subst hx; exact hb) 30
  refine (great_c _ _ 2 _ hl (by omega)).mono ?_
  rintro e w' ⟨g, h1, rfl, h2⟩
  exact ⟨g, h1, alloc_below _ _, fun h => ⟨(h2 h).2 ⟨va, a⟩ (by simp), (h2 h).2 ⟨vb, b⟩ (by simp)⟩⟩
end Go.Proofs.Ytgdajnjfkokmdaa
