/-
  Lists of numbers in memory.
-/
import Derived.Test.YtmhmdnlkkpjdjaaDrvStaysLaw
namespace Go.Proofs.Ytmhmdnlkkpjdjaa
open Go.RowKit Go.Lib

/-- From offset o of block b on the numbers l lie. -/
def Nums (w : World) (b o : Nat) (l : List Int) : Prop := ∀ k (hk : k < l.length), w.cell? ⟨b, o + k, none⟩ = some (.int .i64 l[k])
theorem Nums.below {w w' : World} {b o : Nat} {l : List Int} (h : Nums w b o l) (hb : Below w.heap.size w w') : Nums w' b o l := fun k hk =>
  (hb.cell (World.block_lt_of_cell? w _ (h k hk))).trans (h k hk)
/-- The slice v holds the numbers l. -/
def Nl (w : World) (v : Value) (l : List Int) : Prop :=
  (v = .slice none 0 0 ∧ l = []) ∨ ∃ ad cap, v = .slice (some ad) l.length cap ∧ (0 < l.length → ∃ b o, ad = ⟨b, o, none⟩ ∧ Nums w b o l)
theorem Nl.below {w w' : World} {v : Value} {l : List Int} (h : Nl w v l) (hb : Below w.heap.size w w') : Nl w' v l := by
  rcases h with h | ⟨ad, cap, h1, h2⟩
  · exact .inl h
  · exact .inr ⟨ad, cap, h1, fun h0 => by obtain ⟨b, o, e, hs⟩ := h2 h0; exact ⟨b, o, e, hs.below hb⟩⟩
theorem Nl.form {w : World} {v : Value} {l : List Int} (h : Nl w v l) : ∃ ad cap, v = .slice ad l.length cap ∧ (0 < l.length → ∃ b o, ad = some ⟨b, o, none⟩ ∧ Nums w b o l) := by
  rcases h with ⟨rfl, rfl⟩ | ⟨ad, cap, rfl, h2⟩
  · exact ⟨none, 0, rfl, fun h => by simp at h⟩
  · exact ⟨some ad, cap, rfl, fun h0 => by obtain ⟨b, o, e, hs⟩ := h2 h0; exact ⟨b, o, by rw [e], hs⟩⟩
end Go.Proofs.Ytmhmdnlkkpjdjaa
