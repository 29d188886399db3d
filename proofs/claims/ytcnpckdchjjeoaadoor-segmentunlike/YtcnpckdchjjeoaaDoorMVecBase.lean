/-
  Vectors in memory: lists of numbers, rows of one's own; what stays of them.
-/
import Derived.Test.YtcnpckdchjjeoaaDoorProg
import Derived.Test.YtcnpckdchjjeoaaDoorChecked
import Derived.WalkKit
import Derived.WalkMore
import Derived.BigCall
import Derived.Below
import Derived.Lib.Hide
import Derived.Deep.QuietTactic
import Derived.BigQuiet
import Derived.OwnWalk
import Derived.Laws.OwnMore
import Derived.WalkSmall
import Derived.Deep.AppendLies
import Derived.Deep.RegionHeld3
import Derived.Deep.DeepCutAuto
import Derived.Deep.OwnRows
import Derived.IntWalk
namespace Go.Proofs.YtcnpckdchjjeoaaDoor
open Go.RowKit Go.Lib
set_option maxRecDepth 100000
theorem below_drewN {B : Nat} {a w : World} (h : Below B a w) (n : Nat) : Below B a (w.drewN n) := ⟨h.os, h.tape, h.output, h.size, h.block⟩
theorem Below.next {W0 w w' : World} (h : Below W0.heap.size W0 w) (hb : Below w.heap.size w w') : Below W0.heap.size W0 w' := h.trans (hb.mono h.size)
theorem grown_refl (w : World) (r : Option Nat) : w.grownBy w r := ⟨rfl, rfl, rfl, Nat.le_refl _, fun _ _ _ => rfl⟩
theorem grown_trans {a b c : World} {r : Option Nat} (h : a.grownBy b r) (k : b.grownBy c r) : a.grownBy c r :=
  ⟨k.os.trans h.os, k.tape.trans h.tape, k.output.trans h.output, Nat.le_trans h.size k.size, fun i hi hne => (k.block i (Nat.lt_of_lt_of_le hi h.size) hne).trans (h.block i hi hne)⟩
theorem grown_below {a b : World} (h : Below a.heap.size a b) (r : Option Nat) : a.grownBy b r := ⟨h.os, h.tape, h.output, h.size, fun i hi _ => h.block i hi⟩
theorem below_of_grown {a b : World} {r : Option Nat} {B : Nat} (h : a.grownBy b r) (hB : B ≤ a.heap.size) (hg : ∀ g, r = some g → B ≤ g) : Below B a b :=
  ⟨h.os, h.tape, h.output, h.size, fun i hi => h.block i (by omega) (by intro e; have := hg i e.symm; omega)⟩
theorem grown_cell {a b : World} {r : Option Nat} (h : a.grownBy b r) {p : Addr} (hp : p.block < a.heap.size) (hne : some p.block ≠ r) : b.cell? p = a.cell? p :=
  World.cell?_of_block (h.block p.block hp hne)

/-- From offset o of block b on the numbers l lie. -/
def Nums (w : World) (b o : Nat) (l : List Int) : Prop := ∀ k (hk : k < l.length), w.cell? ⟨b, o + k, none⟩ = some (.int .i64 l[k])
theorem Nums.below {w w' : World} {b o : Nat} {l : List Int} (h : Nums w b o l) (hb : Below w.heap.size w w') : Nums w' b o l := fun k hk =>
  (hb.cell (World.block_lt_of_cell? w _ (h k hk))).trans (h k hk)
/-- The slice v holds the numbers l. -/
def Nl (w : World) (v : Value) (l : List Int) : Prop :=
  (v = .slice none 0 0 ∧ l = []) ∨ ∃ ad cap, v = .slice (some ad) l.length cap ∧ (0 < l.length → ∃ b o, ad = ⟨b, o, none⟩ ∧ Nums w b o l)
theorem Nl.below {w w' : World} {v : Value} {l : List Int} (h : Nl w v l) (hb : Below w.heap.size w w') : Nl w' v l := by
  rcases h with h | ⟨ad, cap, h1, h2⟩
  · exact .inl h
  · exact .inr ⟨ad, cap, h1, fun h0 => by obtain ⟨b, o, e, hs⟩ := h2 h0; exact ⟨b, o, e, hs.below hb⟩⟩
theorem Nl.drew {w : World} {v : Value} {l : List Int} (h : Nl w v l) (n : Nat) : Nl (w.drewN n) v l := h
theorem Nl.form {w : World} {v : Value} {l : List Int} (h : Nl w v l) : ∃ ad cap, v = .slice ad l.length cap ∧ (0 < l.length → ∃ b o, ad = some ⟨b, o, none⟩ ∧ Nums w b o l) := by
  rcases h with ⟨rfl, rfl⟩ | ⟨ad, cap, rfl, h2⟩
  · exact ⟨none, 0, rfl, fun h => by simp at h⟩
  · exact ⟨some ad, cap, rfl, fun h0 => by obtain ⟨b, o, e, hs⟩ := h2 h0; exact ⟨b, o, by rw [e], hs⟩⟩

def ints (l : List Int) : List Value := l.map (Value.int .i64)
theorem ints_len (l : List Int) : (ints l).length = l.length := List.length_map ..
theorem ints_one (l : List Int) : ∀ u ∈ ints l, u.oneCell' = true := by
  intro u hu
  obtain ⟨x, _, rfl⟩ := List.mem_map.1 hu
  rfl
theorem ints_at (l : List Int) (k : Nat) (hk : k < l.length) : (ints l)[k]? = some (.int .i64 l[k]) := by simp [ints, hk]
theorem Nums.news {w : World} {b o : Nat} {l : List Int} (h : Nums w b o l) : ∀ i u, (ints l)[i]? = some u → w.cell? ((⟨b, o, none⟩ : Addr).add i) = some u := by
  intro i u hu
  have hi : i < l.length := by have := (List.getElem?_eq_some_iff.1 hu).1; rwa [ints_len] at this
  rw [ints_at l i hi] at hu
  rw [Go.WideShapes.add_plain, h i hi, hu]

/-- The row v, of one's own from block B on, holds the numbers l. -/
def Row (w : World) (B : Nat) (v : Value) (l : List Int) : Prop := w.ownsRow B 3 1 v l.length (ints l)
theorem own_below {w w' : World} {base : Nat} {e : TypeId} {size : Nat} {v : Value} {n : Nat} {xs : List Value} (h : w.ownsRow base e size v n xs) (hb : Below w.heap.size w w') : w'.ownsRow base e size v n xs := by
  cases hv : v.ownBlock with
  | none => exact h.kept (row := none) ⟨hb.os, hb.tape, hb.output, hb.size, fun i hi _ => hb.block i hi⟩ (.inl hv)
  | some g => exact h.kept (row := none) ⟨hb.os, hb.tape, hb.output, hb.size, fun i hi _ => hb.block i hi⟩ (.inr (by rw [hv]; simp))
theorem own_mono {w : World} {base base' : Nat} {e : TypeId} {size : Nat} {v : Value} {n : Nat} {xs : List Value} (h : w.ownsRow base e size v n xs) (hb : base' ≤ base) : w.ownsRow base' e size v n xs :=
  ⟨h.1, h.2.imp id fun ⟨g, cap, cur, h1, h2, h3⟩ => ⟨g, cap, cur, h1, Nat.le_trans hb h2, h3⟩⟩
theorem Row.below {w w' : World} {B : Nat} {v : Value} {l : List Int} (h : Row w B v l) (hb : Below w.heap.size w w') : Row w' B v l := own_below h hb
theorem Row.mono {w : World} {B B' : Nat} {v : Value} {l : List Int} (h : Row w B v l) (hb : B' ≤ B) : Row w B' v l := own_mono h hb
theorem Row.nl {w : World} {B : Nat} {v : Value} {l : List Int} (h : Row w B v l) : Nl w v l := by
  rcases h.2 with ⟨rfl, h0⟩ | ⟨g, cap, cur, rfl, _⟩
  · exact .inl ⟨rfl, List.eq_nil_of_length_eq_zero h0⟩
  · refine .inr ⟨⟨g, 0, none⟩, cap, rfl, fun _ => ⟨g, 0, rfl, fun k hk => ?_⟩⟩
    rw [Nat.zero_add]
    exact (World.ownsRow.cellAt h k (by omega)).trans (ints_at l k hk)
theorem Row.nil (w : World) (B : Nat) : Row w B (.slice none 0 0) [] := World.ownsRow_nil _ _ _ _
theorem Row.far {w w' : World} {B : Nat} {v : Value} {l : List Int} {r : Option Nat} (h : Row w B v l) (hg : w.grownBy w' r) (hne : ∀ g, r = some g → ∀ g', v.ownBlock = some g' → g ≠ g') : Row w' B v l := by
  refine World.ownsRow.kept h hg ?_
  cases hv : v.ownBlock with
  | none => exact .inl rfl
  | some g' => exact .inr fun e => hne g' e.symm g' hv rfl

theorem intInfo : (Tryd.prog.info? 3).map (fun i => (i.zero, i.size, i.bytes)) = some (some (.int .i64 0), 1, 8) := by kernel_rfl

/-! What is answered. -/
def mx (a b : Int) : Int := if b > a then b else a
def mn (a b : Int) : Int := if b < a then b else a
def manyB (n : Int) : Bool := decide (1 ≤ n) && decide (n ≤ 8)
def okN : List Int → Bool
  | [] => true
  | x :: t => decide (0 ≤ x) && (decide (x ≤ 1023) && okN t)
def mayB (l : List Int) (n : Int) : Bool := manyB n && (decide ((l.length : Int) = n) && okN l)
def sameB : List Int → List Int → Bool
  | [], [] => true
  | x :: s, y :: t => (x == y) && sameB s t
  | _, _ => false
def leB : List Int → List Int → Bool
  | [], [] => true
  | x :: s, y :: t => decide (x ≤ y) && leB s t
  | _, _ => false
def sumL (s : Int) : List Int → Int
  | [] => s
  | x :: t => sumL (wrap64 (s + x)) t
theorem sameB_iff : ∀ (a b : List Int), sameB a b = true ↔ a = b
  | [], [] => by simp [sameB]
  | x :: s, y :: t => by simp [sameB, sameB_iff s t]
  | [], _ :: _ => by simp [sameB]
  | _ :: _, [] => by simp [sameB]
theorem sameB_len : ∀ (a b : List Int), a.length ≠ b.length → sameB a b = false
  | [], [], h => by simp at h
  | x :: s, y :: t, h => by rw [sameB, sameB_len s t (by simpa using h), Bool.and_false]
  | [], _ :: _, _ => rfl
  | _ :: _, [], _ => rfl
theorem leB_len : ∀ (a b : List Int), a.length ≠ b.length → leB a b = false
  | [], [], h => by simp at h
  | x :: s, y :: t, h => by rw [leB, leB_len s t (by simpa using h), Bool.and_false]
  | [], _ :: _, _ => rfl
  | _ :: _, [], _ => rfl
end Go.Proofs.YtcnpckdchjjeoaaDoor
