/-
  Vectors in memory: lists of numbers, rows of one's own; what stays of them.
-/
import Derived.Test.YtjmkphnppegegaaGreatDoorProg
import Derived.Test.YtjmkphnppegegaaGreatDoorChecked
import Derived.WalkKit
import Derived.WalkMore
import Derived.BigCall
import Derived.Below
import Derived.Lib.Hide
import Derived.Deep.QuietTactic
import Derived.BigQuiet
import Derived.OwnWalk
import Derived.Laws.OwnMore
import Derived.WalkSmall
import Derived.Deep.AppendLies
import Derived.Deep.RegionHeld3
import Derived.Deep.DeepCutAuto
import Derived.Deep.OwnRows
import Derived.IntWalk
import Derived.Lib.SliceRun
import Derived.Deep.DeepAppendRoom
import Derived.Maps.AppendAt
import Derived.BigRegion
import Derived.Laws.BitsAllLaws
import Derived.Laws.BytesArg
namespace Go.Proofs.YtjmkphnppegegaaGreatDoor
open Go.RowKit Go.Lib
set_option maxRecDepth 100000
theorem below_drewN {B : Nat} {a w : World} (h : Below B a w) (n : Nat) : Below B a (w.drewN n) := ⟨h.os, h.tape, h.output, h.size, h.block⟩
theorem Below.next {W0 w w' : World} (h : Below W0.heap.size W0 w) (hb : Below w.heap.size w w') : Below W0.heap.size W0 w' := h.trans (hb.mono h.size)
theorem grown_refl (w : World) (r : Option Nat) : w.grownBy w r := ⟨rfl, rfl, rfl, Nat.le_refl _, fun _ _ _ => rfl⟩
theorem grown_trans {a b c : World} {r : Option Nat} (h : a.grownBy b r) (k : b.grownBy c r) : a.grownBy c r :=
  ⟨k.os.trans h.os, k.tape.trans h.tape, k.output.trans h.output, Nat.le_trans h.size k.size, fun i hi hne => (k.block i (Nat.lt_of_lt_of_le hi h.size) hne).trans (h.block i hi hne)⟩
theorem grown_below {a b : World} (h : Below a.heap.size a b) (r : Option Nat) : a.grownBy b r := ⟨h.os, h.tape, h.output, h.size, fun i hi _ => h.block i hi⟩
theorem below_of_grown {a b : World} {r : Option Nat} {B : Nat} (h : a.grownBy b r) (hB : B ≤ a.heap.size) (hg : ∀ g, r = some g → B ≤ g) : Below B a b :=
  ⟨h.os, h.tape, h.output, h.size, fun i hi => h.block i (by omega) (by intro e; have := hg i e.symm; omega)⟩
theorem grown_cell {a b : World} {r : Option Nat} (h : a.grownBy b r) {p : Addr} (hp : p.block < a.heap.size) (hne : some p.block ≠ r) : b.cell? p = a.cell? p :=
  World.cell?_of_block (h.block p.block hp hne)

/-- From offset o of block b on the numbers l lie. -/
def Nums (w : World) (b o : Nat) (l : List Int) : Prop := ∀ k (hk : k < l.length), w.cell? ⟨b, o + k, none⟩ = some (.int .i64 l[k])
theorem Nums.below {w w' : World} {b o : Nat} {l : List Int} (h : Nums w b o l) (hb : Below w.heap.size w w') : Nums w' b o l := fun k hk =>
  (hb.cell (World.block_lt_of_cell? w _ (h k hk))).trans (h k hk)
/-- The slice v holds the numbers l. -/
def Nl (w : World) (v : Value) (l : List Int) : Prop :=
  (v = .slice none 0 0 ∧ l = []) ∨ ∃ ad cap, v = .slice (some ad) l.length cap ∧ (0 < l.length → ∃ b o, ad = ⟨b, o, none⟩ ∧ Nums w b o l)
theorem Nl.below {w w' : World} {v : Value} {l : List Int} (h : Nl w v l) (hb : Below w.heap.size w w') : Nl w' v l := by
  rcases h with h | ⟨ad, cap, h1, h2⟩
  · exact .inl h
  · exact .inr ⟨ad, cap, h1, fun h0 => by obtain ⟨b, o, e, hs⟩ := h2 h0; exact ⟨b, o, e, hs.below hb⟩⟩
theorem Nl.drew {w : World} {v : Value} {l : List Int} (h : Nl w v l) (n : Nat) : Nl (w.drewN n) v l := h
theorem Nl.form {w : World} {v : Value} {l : List Int} (h : Nl w v l) : ∃ ad cap, v = .slice ad l.length cap ∧ (0 < l.length → ∃ b o, ad = some ⟨b, o, none⟩ ∧ Nums w b o l) := by
  rcases h with ⟨rfl, rfl⟩ | ⟨ad, cap, rfl, h2⟩
  · exact ⟨none, 0, rfl, fun h => by simp at h⟩
  · exact ⟨some ad, cap, rfl, fun h0 => by obtain ⟨b, o, e, hs⟩ := h2 h0; exact ⟨b, o, by rw [e], hs⟩⟩

def ints (l : List Int) : List Value := l.map (Value.int .i64)
theorem ints_len (l : List Int) : (ints l).length = l.length := List.length_map ..
theorem ints_one (l : List Int) : ∀ u ∈ ints l, u.oneCell' = true := by
  intro u hu
  obtain ⟨x, _, rfl⟩ := List.mem_map.1 hu
  rfl
theorem ints_at (l : List Int) (k : Nat) (hk : k < l.length) : (ints l)[k]? = some (.int .i64 l[k]) := by simp [ints, hk]
theorem Nums.news {w : World} {b o : Nat} {l : List Int} (h : Nums w b o l) : ∀ i u, (ints l)[i]? = some u → w.cell? ((⟨b, o, none⟩ : Addr).add i) = some u := by
  intro i u hu
  have hi : i < l.length := by have := (List.getElem?_eq_some_iff.1 hu).1; rwa [ints_len] at this
  rw [ints_at l i hi] at hu
  rw [Go.WideShapes.add_plain, h i hi, hu]

/-- The row v, of one's own from block B on, holds the numbers l. -/
def Row (w : World) (B : Nat) (v : Value) (l : List Int) : Prop := w.ownsRow B 3 1 v l.length (ints l)
theorem own_below {w w' : World} {base : Nat} {e : TypeId} {size : Nat} {v : Value} {n : Nat} {xs : List Value} (h : w.ownsRow base e size v n xs) (hb : Below w.heap.size w w') : w'.ownsRow base e size v n xs := by
  cases hv : v.ownBlock with
  | none => exact h.kept (row := none) ⟨hb.os, hb.tape, hb.output, hb.size, fun i hi _ => hb.block i hi⟩ (.inl hv)
  | some g => exact h.kept (row := none) ⟨hb.os, hb.tape, hb.output, hb.size, fun i hi _ => hb.block i hi⟩ (.inr (by rw [hv]; simp))
theorem own_mono {w : World} {base base' : Nat} {e : TypeId} {size : Nat} {v : Value} {n : Nat} {xs : List Value} (h : w.ownsRow base e size v n xs) (hb : base' ≤ base) : w.ownsRow base' e size v n xs :=
  ⟨h.1, h.2.imp id fun ⟨g, cap, cur, h1, h2, h3⟩ => ⟨g, cap, cur, h1, Nat.le_trans hb h2, h3⟩⟩
theorem Row.below {w w' : World} {B : Nat} {v : Value} {l : List Int} (h : Row w B v l) (hb : Below w.heap.size w w') : Row w' B v l := own_below h hb
theorem Row.mono {w : World} {B B' : Nat} {v : Value} {l : List Int} (h : Row w B v l) (hb : B' ≤ B) : Row w B' v l := own_mono h hb
theorem Row.nl {w : World} {B : Nat} {v : Value} {l : List Int} (h : Row w B v l) : Nl w v l := by
  rcases h.2 with ⟨rfl, h0⟩ | ⟨g, cap, cur, rfl, _⟩
  · exact .inl ⟨rfl, List.eq_nil_of_length_eq_zero h0⟩
  · refine .inr ⟨⟨g, 0, none⟩, cap, rfl, fun _ => ⟨g, 0, rfl, fun k hk => ?_⟩⟩
    rw [Nat.zero_add]
    exact (World.ownsRow.cellAt h k (by omega)).trans (ints_at l k hk)
theorem Row.nil (w : World) (B : Nat) : Row w B (.slice none 0 0) [] := World.ownsRow_nil _ _ _ _
theorem Row.far {w w' : World} {B : Nat} {v : Value} {l : List Int} {r : Option Nat} (h : Row w B v l) (hg : w.grownBy w' r) (hne : ∀ g, r = some g → ∀ g', v.ownBlock = some g' → g ≠ g') : Row w' B v l := by
  refine World.ownsRow.kept h hg ?_
  cases hv : v.ownBlock with
  | none => exact .inl rfl
  | some g' => exact .inr fun e => hne g' e.symm g' hv rfl

theorem intInfo : (Tryz.prog.info? 3).map (fun i => (i.zero, i.size, i.bytes)) = some (some (.int .i64 0), 1, 8) := by kernel_rfl

/-! What is answered. -/
def mx (a b : Int) : Int := if b > a then b else a
def mn (a b : Int) : Int := if b < a then b else a
def manyB (n : Int) : Bool := decide (1 ≤ n) && decide (n ≤ 8)
def okN : List Int → Bool
  | [] => true
  | x :: t => decide (0 ≤ x) && (decide (x ≤ 1023) && okN t)
def mayB (l : List Int) (n : Int) : Bool := manyB n && (decide ((l.length : Int) = n) && okN l)
def sameB : List Int → List Int → Bool
  | [], [] => true
  | x :: s, y :: t => (x == y) && sameB s t
  | _, _ => false
def leB : List Int → List Int → Bool
  | [], [] => true
  | x :: s, y :: t => decide (x ≤ y) && leB s t
  | _, _ => false
def sumL (s : Int) : List Int → Int
  | [] => s
  | x :: t => sumL (wrap64 (s + x)) t
theorem sameB_iff : ∀ (a b : List Int), sameB a b = true ↔ a = b
  | [], [] => by simp [sameB]
  | x :: s, y :: t => by simp [sameB, sameB_iff s t]
  | [], _ :: _ => by simp [sameB]
  | _ :: _, [] => by simp [sameB]
theorem sameB_len : ∀ (a b : List Int), a.length ≠ b.length → sameB a b = false
  | [], [], h => by simp at h
  | x :: s, y :: t, h => by rw [sameB, sameB_len s t (by simpa using h), Bool.and_false]
  | [], _ :: _, _ => rfl
  | _ :: _, [], _ => rfl
theorem leB_len : ∀ (a b : List Int), a.length ≠ b.length → leB a b = false
  | [], [], h => by simp at h
  | x :: s, y :: t, h => by rw [leB, leB_len s t (by simpa using h), Bool.and_false]
  | [], _ :: _, _ => rfl
  | _ :: _, [], _ => rfl
end Go.Proofs.YtjmkphnppegegaaGreatDoor
/-
  mayNodes, Many, the two closures, Low, SameInts, May, Below, Sum, by contract.
-/
namespace Go.Proofs.YtjmkphnppegegaaGreatDoor
open Go.RowKit Go.Lib
set_option maxRecDepth 100000
theorem many_c (n : Int) (w : World) : Calls Tryz.prog 50 #[.int .i64 n] w fun e w' => e = .returned (.bool (manyB n)) ∧ w = w' := by
  unfold manyB
  by_cases h1 : 1 ≤ n
  · have e1 : decide (1 ≤ n) = true := by simpa using h1
    by_cases h2 : n ≤ 8
    · have e2 : decide (n ≤ 8) = true := by simpa using h2
      go_enter Tryz.func50, Tryz.ntmps50
      go_wp2
      go_ret
      first | (simp; done) | (simp; omega)
    · have e2 : decide (n ≤ 8) = false := by simpa using h2
      go_enter Tryz.func50, Tryz.ntmps50
      go_wp2
      go_ret
      first | (simp; done) | (simp; omega)
  · have e1 : decide (1 ≤ n) = false := by simpa using h1
    go_enter Tryz.func50, Tryz.ntmps50
    go_wp2
    go_ret
    first | (simp; done) | (simp; omega)

theorem refmany_c (n : Int) (w : World) : Calls Tryz.prog 13 #[.int .i64 n] w fun e w' => e = .returned (.bool (manyB n)) ∧ w = w' := by
  unfold manyB
  by_cases h1 : 1 ≤ n
  · have e1 : decide (1 ≤ n) = true := by simpa using h1
    by_cases h2 : n ≤ 8
    · have e2 : decide (n ≤ 8) = true := by simpa using h2
      go_enter Tryz.func13, Tryz.ntmps13
      go_wp2
      go_ret
      first | (simp; done) | (simp; omega)
    · have e2 : decide (n ≤ 8) = false := by simpa using h2
      go_enter Tryz.func13, Tryz.ntmps13
      go_wp2
      go_ret
      first | (simp; done) | (simp; omega)
  · have e1 : decide (1 ≤ n) = false := by simpa using h1
    go_enter Tryz.func13, Tryz.ntmps13
    go_wp2
    go_ret
    first | (simp; done) | (simp; omega)

def lowT (m : Int) (w : World) (e : Ending) (w' : World) : Prop := ∃ r : Int, e = .returned (.int .i64 r) ∧ 0 ≤ r ∧ r < m ∧ w = w'

theorem low_c (x m : Int) (w : World) (hm : 0 < m) (hm2 : m ≤ 4294967296) : Calls Tryz.prog 25 #[.int .i64 x, .int .i64 m] w (lowT m w) := by
  have hne : (m == 0) = false := by simp; omega
  go_enter Tryz.func25, Tryz.ntmps25
  go_wp2
  go_ret
  have h1 : 0 ≤ IntKind.u64.wrap x := by rw [IntKind.wrap_u64]; omega
  have h2 := Int.tmod_nonneg m h1
  have h3 := Int.tmod_lt_of_pos (IntKind.u64.wrap x) hm
  generalize (IntKind.u64.wrap x).tmod m = r at h2 h3
  have e : wrap64 r = r := by unfold wrap64; omega
  exact ⟨r, by rw [← e]; simp only [e]; rfl, h2, h3, rfl⟩

set_option maxHeartbeats 4000000 in
theorem same_c (l m : List Int) (v1 v2 : Value) (w : World) (h1 : Nl w v1 l) (h2 : Nl w v2 m) (hn : l.length ≤ 1000000) :
    Calls Tryz.prog 28 #[v1, v2] w fun e w' => e = .returned (.bool (sameB l m)) ∧ Below w.heap.size w w' := by
  obtain ⟨ad1, cap1, rfl, k1⟩ := h1.form
  obtain ⟨ad2, cap2, rfl, k2⟩ := h2.form
  have H1 := Lib.hid k1
  have H2 := Lib.hid k2
  clear h1 h2 k1 k2
  by_cases hl : l.length = m.length
  · have e0 : ((l.length : Int) != (m.length : Int)) = false := by simp [hl]
    have HL := Lib.hid hl
    clear hl
    go_enter Tryz.func28, Tryz.ntmps28
    go_wp2
    go_loopw [5] (fun v5 wr => ∃ k q : Nat, k ≤ l.length ∧ v5 = .int .i64 (k : Int) ∧ wr = w.drewN q ∧ Hid (sameB (l.drop k) (m.drop k) = sameB l m)) (fun v5 _ => l.length - (intOf v5).toNat)
    case atStart => exact ⟨0, 0, by omega, rfl, rfl, Lib.hid rfl⟩
    case round =>
      obtain ⟨k, q, hk, rfl, rfl, hs⟩ := hrel
      by_cases hp : k < l.length
      · obtain ⟨g1, o1, rfl, c1⟩ := H1.out (by omega)
        have hpm : k < m.length := by have := HL.out; omega
        obtain ⟨g2, o2, rfl, c2⟩ := H2.out (by omega)
        have c11 := c1 k hp
        have c21 := c2 k hpm
        have hs' := hs.out
        rw [List.drop_eq_getElem_cons hp, List.drop_eq_getElem_cons hpm, sameB] at hs'
        clear c1 c2 H1 H2 hs
        generalize l[k] = x at c11 hs'
        generalize m[k] = y at c21 hs'
        by_cases hxy : x = y
        · have f1 : (x != y) = false := by simpa using hxy
          have f2 : (x == y) = true := by simpa using hxy
          rw [f2, Bool.true_and] at hs'
          have HS := Lib.hid hs'
          clear hs' hxy f2
          go_wp2
          go_quiet (fail)
          go_wp2
          go_roundw
          case rel => exact ⟨k + 1, q + nq, hp, by go_num, rfl, HS⟩
          case measure => simp [intOf]; omega
        · have f1 : (x != y) = true := by simpa using hxy
          have f2 : (x == y) = false := by simpa using hxy
          rw [f2, Bool.false_and] at hs'
          have HS := Lib.hid hs'
          clear hs' hxy f2
          go_wp2
          go_quiet (fail)
          go_wp2
          go_ret
          exact ⟨by rw [← HS.out]; rfl, below_drewN (below_drewN (Below.refl _ _) q) nq⟩
      · have hs' := hs.out
        rw [List.drop_eq_nil_of_le (by omega), List.drop_eq_nil_of_le (by have := HL.out; omega), sameB] at hs'
        have HS := Lib.hid hs'
        clear hs' hs
        go_wp2
        go_ret
        exact ⟨by rw [← HS.out]; rfl, below_drewN (Below.refl _ _) q⟩
  · have e0 : ((l.length : Int) != (m.length : Int)) = true := by simp; omega
    rw [sameB_len l m hl]
    go_enter Tryz.func28, Tryz.ntmps28
    go_wp2
    go_ret
    exact ⟨rfl, Below.refl _ _⟩

set_option maxHeartbeats 4000000 in
theorem below_c (l m : List Int) (v1 v2 : Value) (w : World) (h1 : Nl w v1 l) (h2 : Nl w v2 m) (hn : l.length ≤ 1000000) :
    Calls Tryz.prog 56 #[v1, v2] w fun e w' => e = .returned (.bool (leB l m)) ∧ Below w.heap.size w w' := by
  obtain ⟨ad1, cap1, rfl, k1⟩ := h1.form
  obtain ⟨ad2, cap2, rfl, k2⟩ := h2.form
  have H1 := Lib.hid k1
  have H2 := Lib.hid k2
  clear h1 h2 k1 k2
  by_cases hl : l.length = m.length
  · have e0 : ((l.length : Int) != (m.length : Int)) = false := by simp [hl]
    have HL := Lib.hid hl
    clear hl
    go_enter Tryz.func56, Tryz.ntmps56
    go_wp2
    go_loopw [14] (fun vk wr => ∃ k q : Nat, k ≤ l.length ∧ vk = .int .i64 (k : Int) ∧ wr = w.drewN q ∧ Hid (leB (l.drop k) (m.drop k) = leB l m)) (fun vk _ => l.length - (intOf vk).toNat)
    case atStart => exact ⟨0, 0, by omega, rfl, rfl, Lib.hid rfl⟩
    case round =>
      obtain ⟨k, q, hk, rfl, rfl, hs⟩ := hrel
      by_cases hp : k < l.length
      · obtain ⟨g1, o1, rfl, c1⟩ := H1.out (by omega)
        have hpm : k < m.length := by have := HL.out; omega
        obtain ⟨g2, o2, rfl, c2⟩ := H2.out (by omega)
        have c11 := c1 k hp
        have c21 := c2 k hpm
        have hs' := hs.out
        rw [List.drop_eq_getElem_cons hp, List.drop_eq_getElem_cons hpm, leB] at hs'
        clear c1 c2 H1 H2 hs
        generalize l[k] = x at c11 hs'
        generalize m[k] = y at c21 hs'
        by_cases hxy : x ≤ y
        · have f1 : ¬ y < x := by omega
          have f2 : decide (x ≤ y) = true := by simpa using hxy
          have f3 : decide (y < x) = false := by simpa using f1
          rw [f2, Bool.true_and] at hs'
          have HS := Lib.hid hs'
          clear hs' hxy f2
          go_wp2
          go_roundw
          case rel => exact ⟨k + 1, q, hp, by go_num, rfl, HS⟩
          case measure => simp [intOf]; omega
        · have f1 : y < x := by omega
          have f2 : decide (x ≤ y) = false := by simpa using hxy
          have f3 : decide (y < x) = true := by simpa using f1
          rw [f2, Bool.false_and] at hs'
          have HS := Lib.hid hs'
          clear hs' hxy f2
          go_wp2
          go_ret
          exact ⟨by rw [← HS.out]; rfl, below_drewN (Below.refl _ _) q⟩
      · have hs' := hs.out
        rw [List.drop_eq_nil_of_le (by omega), List.drop_eq_nil_of_le (by have := HL.out; omega), leB] at hs'
        have HS := Lib.hid hs'
        clear hs' hs
        go_wp2
        go_ret
        exact ⟨by rw [← HS.out]; rfl, below_drewN (Below.refl _ _) q⟩
  · have e0 : ((l.length : Int) != (m.length : Int)) = true := by simp; omega
    rw [leB_len l m hl]
    go_enter Tryz.func56, Tryz.ntmps56
    go_wp2
    go_ret
    exact ⟨rfl, Below.refl _ _⟩

set_option maxHeartbeats 4000000 in
theorem refbelow_c (l m : List Int) (v1 v2 : Value) (w : World) (h1 : Nl w v1 l) (h2 : Nl w v2 m) (hn : l.length ≤ 1000000) :
    Calls Tryz.prog 15 #[v1, v2] w fun e w' => e = .returned (.bool (leB l m)) ∧ Below w.heap.size w w' := by
  obtain ⟨ad1, cap1, rfl, k1⟩ := h1.form
  obtain ⟨ad2, cap2, rfl, k2⟩ := h2.form
  have H1 := Lib.hid k1
  have H2 := Lib.hid k2
  clear h1 h2 k1 k2
  by_cases hl : l.length = m.length
  · have e0 : ((l.length : Int) != (m.length : Int)) = false := by simp [hl]
    have HL := Lib.hid hl
    clear hl
    go_enter Tryz.func15, Tryz.ntmps15
    go_wp2
    go_loopw [5] (fun vk wr => ∃ k q : Nat, k ≤ l.length ∧ vk = .int .i64 (k : Int) ∧ wr = w.drewN q ∧ Hid (leB (l.drop k) (m.drop k) = leB l m)) (fun vk _ => l.length - (intOf vk).toNat)
    case atStart => exact ⟨0, 0, by omega, rfl, rfl, Lib.hid rfl⟩
    case round =>
      obtain ⟨k, q, hk, rfl, rfl, hs⟩ := hrel
      by_cases hp : k < l.length
      · obtain ⟨g1, o1, rfl, c1⟩ := H1.out (by omega)
        have hpm : k < m.length := by have := HL.out; omega
        obtain ⟨g2, o2, rfl, c2⟩ := H2.out (by omega)
        have c11 := c1 k hp
        have c21 := c2 k hpm
        have hs' := hs.out
        rw [List.drop_eq_getElem_cons hp, List.drop_eq_getElem_cons hpm, leB] at hs'
        clear c1 c2 H1 H2 hs
        generalize l[k] = x at c11 hs'
        generalize m[k] = y at c21 hs'
        by_cases hxy : x ≤ y
        · have f1 : ¬ y < x := by omega
          have f2 : decide (x ≤ y) = true := by simpa using hxy
          have f3 : decide (y < x) = false := by simpa using f1
          rw [f2, Bool.true_and] at hs'
          have HS := Lib.hid hs'
          clear hs' hxy f2
          go_wp2
          go_quiet (fail)
          go_wp2
          go_roundw
          case rel => exact ⟨k + 1, q + nq, hp, by go_num, rfl, HS⟩
          case measure => simp [intOf]; omega
        · have f1 : y < x := by omega
          have f2 : decide (x ≤ y) = false := by simpa using hxy
          have f3 : decide (y < x) = true := by simpa using f1
          rw [f2, Bool.false_and] at hs'
          have HS := Lib.hid hs'
          clear hs' hxy f2
          go_wp2
          go_quiet (fail)
          go_wp2
          go_ret
          exact ⟨by rw [← HS.out]; rfl, below_drewN (below_drewN (Below.refl _ _) q) nq⟩
      · have hs' := hs.out
        rw [List.drop_eq_nil_of_le (by omega), List.drop_eq_nil_of_le (by have := HL.out; omega), leB] at hs'
        have HS := Lib.hid hs'
        clear hs' hs
        go_wp2
        go_ret
        exact ⟨by rw [← HS.out]; rfl, below_drewN (Below.refl _ _) q⟩
  · have e0 : ((l.length : Int) != (m.length : Int)) = true := by simp; omega
    rw [leB_len l m hl]
    go_enter Tryz.func15, Tryz.ntmps15
    go_wp2
    go_ret
    exact ⟨rfl, Below.refl _ _⟩

set_option maxHeartbeats 4000000 in
theorem may_c (l : List Int) (n : Int) (v : Value) (w : World) (h1 : Nl w v l) (hn : l.length ≤ 1000000) :
    Calls Tryz.prog 55 #[v, .int .i64 n] w fun e w' => e = .returned (.bool (mayB l n)) ∧ Below w.heap.size w w' := by
  obtain ⟨ad1, cap1, rfl, k1⟩ := h1.form
  have H1 := Lib.hid k1
  have cM := fun W => many_c n W
  clear h1 k1
  unfold mayB
  generalize manyB n = M at cM ⊢
  have HM := Lib.hid cM
  clear cM
  cases M
  · go_enter Tryz.func55, Tryz.ntmps55
    go_wp2_with (go_at_call 50; refine (HM.out _).mono ?_; rintro e w' ⟨rfl, rfl⟩)
    go_ret
    exact ⟨rfl, Below.refl _ _⟩
  · by_cases hl : (l.length : Int) = n
    · have e0 : ((l.length : Int) != n) = false := by simp [hl]
      have e1 : decide ((l.length : Int) = n) = true := by simpa using hl
      rw [e1, Bool.true_and, Bool.true_and]
      clear e1
      subst hl
      go_enter Tryz.func55, Tryz.ntmps55
      go_wp2_with (go_at_call 50; refine (HM.out _).mono ?_; rintro e w' ⟨rfl, rfl⟩)
      go_loopw [18] (fun vk wr => ∃ k : Nat, k ≤ l.length ∧ vk = .int .i64 (k : Int) ∧ wr = w ∧ Hid (okN (l.drop k) = okN l)) (fun vk _ => l.length - (intOf vk).toNat)
      case atStart => exact ⟨0, by omega, rfl, rfl, Lib.hid rfl⟩
      case round =>
        obtain ⟨k, hk, rfl, rfl, hs⟩ := hrel
        by_cases hp : k < l.length
        · obtain ⟨g1, o1, rfl, c1⟩ := H1.out (by omega)
          have c11 := c1 k hp
          have hs' := hs.out
          rw [List.drop_eq_getElem_cons hp, okN] at hs'
          clear c1 H1 hs
          generalize l[k] = x at c11 hs'
          by_cases h0 : 0 ≤ x
          · have f0 : decide (x < 0) = false := by simpa using h0
            have f0' : decide (0 ≤ x) = true := by simpa using h0
            by_cases h9 : x ≤ 1023
            · have f9 : decide (1023 < x) = false := by simpa using h9
              have f9' : decide (x ≤ 1023) = true := by simpa using h9
              rw [f0', f9', Bool.true_and, Bool.true_and] at hs'
              have HS := Lib.hid hs'
              clear hs' f0' f9' h0 h9
              go_wp2
              go_roundw
              case rel => exact ⟨k + 1, hp, by go_num, by trivial, HS⟩
              case measure => simp [intOf]; omega
            · have f9 : decide (1023 < x) = true := by simp; omega
              have f9' : decide (x ≤ 1023) = false := by simpa using h9
              rw [f9', Bool.false_and, Bool.and_false] at hs'
              have HS := Lib.hid hs'
              clear hs' f0' f9' h0 h9
              go_wp2
              go_ret
              exact ⟨by rw [← HS.out]; rfl, Below.refl _ _⟩
          · have f0 : decide (x < 0) = true := by simp; omega
            have f0' : decide (0 ≤ x) = false := by simpa using h0
            rw [f0', Bool.false_and] at hs'
            have HS := Lib.hid hs'
            clear hs' f0' h0
            go_wp2
            go_ret
            exact ⟨by rw [← HS.out]; rfl, Below.refl _ _⟩
        · have hs' := hs.out
          rw [List.drop_eq_nil_of_le (by omega), okN] at hs'
          have HS := Lib.hid hs'
          clear hs' hs
          go_wp2
          go_ret
          exact ⟨by rw [← HS.out]; rfl, Below.refl _ _⟩
    · have e0 : ((l.length : Int) != n) = true := by simpa using hl
      have e1 : decide ((l.length : Int) = n) = false := by simpa using hl
      rw [e1, Bool.false_and, Bool.true_and]
      clear e1
      go_enter Tryz.func55, Tryz.ntmps55
      go_wp2_with (go_at_call 50; refine (HM.out _).mono ?_; rintro e w' ⟨rfl, rfl⟩)
      go_ret
      exact ⟨rfl, Below.refl _ _⟩

set_option maxHeartbeats 4000000 in
theorem refmay_c (l : List Int) (n : Int) (v : Value) (w : World) (h1 : Nl w v l) (hn : l.length ≤ 1000000) :
    Calls Tryz.prog 14 #[v, .int .i64 n] w fun e w' => e = .returned (.bool (mayB l n)) ∧ Below w.heap.size w w' := by
  obtain ⟨ad1, cap1, rfl, k1⟩ := h1.form
  have H1 := Lib.hid k1
  have cM := fun W => refmany_c n W
  clear h1 k1
  unfold mayB
  generalize manyB n = M at cM ⊢
  have HM := Lib.hid cM
  clear cM
  cases M
  · go_enter Tryz.func14, Tryz.ntmps14
    go_wp2_with (go_at_call 13; refine (HM.out _).mono ?_; rintro e w' ⟨rfl, rfl⟩)
    go_ret
    exact ⟨rfl, Below.refl _ _⟩
  · by_cases hl : (l.length : Int) = n
    · have e0 : ((l.length : Int) != n) = false := by simp [hl]
      have e1 : decide ((l.length : Int) = n) = true := by simpa using hl
      rw [e1, Bool.true_and, Bool.true_and]
      clear e1
      subst hl
      go_enter Tryz.func14, Tryz.ntmps14
      go_wp2_with (go_at_call 13; refine (HM.out _).mono ?_; rintro e w' ⟨rfl, rfl⟩)
      go_loopw [5] (fun vk wr => ∃ k : Nat, k ≤ l.length ∧ vk = .int .i64 (k : Int) ∧ wr = w ∧ Hid (okN (l.drop k) = okN l)) (fun vk _ => l.length - (intOf vk).toNat)
      case atStart => exact ⟨0, by omega, rfl, rfl, Lib.hid rfl⟩
      case round =>
        obtain ⟨k, hk, rfl, rfl, hs⟩ := hrel
        by_cases hp : k < l.length
        · obtain ⟨g1, o1, rfl, c1⟩ := H1.out (by omega)
          have c11 := c1 k hp
          have hs' := hs.out
          rw [List.drop_eq_getElem_cons hp, okN] at hs'
          clear c1 H1 hs
          generalize l[k] = x at c11 hs'
          by_cases h0 : 0 ≤ x
          · have f0 : decide (x < 0) = false := by simpa using h0
            have f0' : decide (0 ≤ x) = true := by simpa using h0
            by_cases h9 : x ≤ 1023
            · have f9 : decide (1023 < x) = false := by simpa using h9
              have f9' : decide (x ≤ 1023) = true := by simpa using h9
              rw [f0', f9', Bool.true_and, Bool.true_and] at hs'
              have HS := Lib.hid hs'
              clear hs' f0' f9' h0 h9
              go_wp2
              go_roundw
              case rel => exact ⟨k + 1, hp, by go_num, by trivial, HS⟩
              case measure => simp [intOf]; omega
            · have f9 : decide (1023 < x) = true := by simp; omega
              have f9' : decide (x ≤ 1023) = false := by simpa using h9
              rw [f9', Bool.false_and, Bool.and_false] at hs'
              have HS := Lib.hid hs'
              clear hs' f0' f9' h0 h9
              go_wp2
              go_ret
              exact ⟨by rw [← HS.out]; rfl, Below.refl _ _⟩
          · have f0 : decide (x < 0) = true := by simp; omega
            have f0' : decide (0 ≤ x) = false := by simpa using h0
            rw [f0', Bool.false_and] at hs'
            have HS := Lib.hid hs'
            clear hs' f0' h0
            go_wp2
            go_ret
            exact ⟨by rw [← HS.out]; rfl, Below.refl _ _⟩
        · have hs' := hs.out
          rw [List.drop_eq_nil_of_le (by omega), okN] at hs'
          have HS := Lib.hid hs'
          clear hs' hs
          go_wp2
          go_ret
          exact ⟨by rw [← HS.out]; rfl, Below.refl _ _⟩
    · have e0 : ((l.length : Int) != n) = true := by simpa using hl
      have e1 : decide ((l.length : Int) = n) = false := by simpa using hl
      rw [e1, Bool.false_and, Bool.true_and]
      clear e1
      go_enter Tryz.func14, Tryz.ntmps14
      go_wp2_with (go_at_call 13; refine (HM.out _).mono ?_; rintro e w' ⟨rfl, rfl⟩)
      go_ret
      exact ⟨rfl, Below.refl _ _⟩
end Go.Proofs.YtjmkphnppegegaaGreatDoor
/-
  Rows of numbers: made, stored into, written over (OverInts by contract).
-/
namespace Go.Proofs.YtjmkphnppegegaaGreatDoor
open Go.RowKit Go.Lib
set_option maxRecDepth 100000

/-- What is answered: a row of one's own. -/
def rowT (l : List Int) (w : World) (e : Ending) (w' : World) : Prop := ∃ v, e = .returned v ∧ Row w' w.heap.size v l ∧ Below w.heap.size w w'
theorem Nl.news {w : World} {ad : Addr} {l : List Int} (h : 0 < l.length → ∃ b o, ad = ⟨b, o, none⟩ ∧ Nums w b o l) : ∀ i u, (ints l)[i]? = some u → w.cell? (ad.add i) = some u := by
  intro i u hu
  have hi : i < l.length := by have := (List.getElem?_eq_some_iff.1 hu).1; rwa [ints_len] at this
  obtain ⟨b, o, rfl, hs⟩ := h (by omega)
  exact hs.news i u hu
theorem row_made (w : World) (n : Nat) (hn : n ≤ 1000000) : Row (w.alloc (.cells (madeCells #[.int .i64 0] n) 3)) w.heap.size (.slice (some ⟨w.heap.size, 0, none⟩) n n) (List.replicate n 0) := by
  have e : ints (List.replicate n 0) = List.replicate n (.int .i64 0) := by simp [ints]
  unfold Row
  rw [e, List.length_replicate]
  refine ⟨by simp, .inr ⟨w.heap.size, n, _, rfl, Nat.le_refl _, heap_alloc_new w _, Nat.le_refl _, by unfold maxLen; omega, by rw [size_madeCells, Nat.mul_one], ?_⟩⟩
  rw [toList_madeCells_one, Nat.mul_one, List.take_of_length_le (by simp)]
theorem Row.at {w : World} {B g cap : Nat} {l : List Int} (h : Row w B (.slice (some ⟨g, 0, none⟩) l.length cap) l) (k : Nat) (hk : k < l.length) : w.cell? ⟨g, k, none⟩ = some (.int .i64 l[k]) :=
  (World.ownsRow.cellAt h k (by omega)).trans (ints_at l k hk)
theorem Row.soft {w : World} {B g cap : Nat} {l : List Int} (h : Row w B (.slice (some ⟨g, 0, none⟩) l.length cap) l) (k : Nat) : w.frozen? ⟨g, k, none⟩ = false := World.ownsRow.frozenAt h k
theorem ints_set (l : List Int) (k : Nat) (x : Int) : (ints l).set k (.int .i64 x) = ints (l.set k x) := by simp [ints, List.map_set]
theorem Row.set {w : World} {B g cap : Nat} {l : List Int} (h : Row w B (.slice (some ⟨g, 0, none⟩) l.length cap) l) (k : Nat) (x : Int) : Row (w.setCell ⟨g, k, none⟩ (.int .i64 x)) B (.slice (some ⟨g, 0, none⟩) (l.set k x).length cap) (l.set k x) := by
  have h1 := (World.ownsRow.stored h k (.int .i64 x)).1
  rw [ints_set] at h1
  unfold Row
  rw [List.length_set]
  exact h1
theorem Row.form {w : World} {B : Nat} {v : Value} {l : List Int} (h : Row w B v l) (hn : 0 < l.length) : ∃ g cap, v = .slice (some ⟨g, 0, none⟩) l.length cap ∧ B ≤ g ∧ g < w.heap.size := by
  obtain ⟨g, cap, e, h1, h2⟩ := World.ownsRow.form h hn
  exact ⟨g, cap, e, h1, h2⟩
theorem Row.at2 {w : World} {B g cap n : Nat} {l : List Int} (h : Row w B (.slice (some ⟨g, 0, none⟩) n cap) l) (hn : l.length = n) (k : Nat) (x : Int) (hk : l[k]? = some x) : w.cell? ⟨g, k, none⟩ = some (.int .i64 x) := by
  subst hn
  obtain ⟨hk', rfl⟩ := List.getElem?_eq_some_iff.1 hk
  exact h.at k hk'
theorem Row.soft2 {w : World} {B g cap n : Nat} {l : List Int} (h : Row w B (.slice (some ⟨g, 0, none⟩) n cap) l) (hn : l.length = n) (k : Nat) : w.frozen? ⟨g, k, none⟩ = false := by
  subst hn
  exact h.soft k
theorem Row.set2 {w : World} {B g cap n : Nat} {l : List Int} (h : Row w B (.slice (some ⟨g, 0, none⟩) n cap) l) (hn : l.length = n) (k : Nat) (x : Int) : Row (w.setCell ⟨g, k, none⟩ (.int .i64 x)) B (.slice (some ⟨g, 0, none⟩) n cap) (l.set k x) := by
  subst hn
  have h1 := h.set k x
  rw [List.length_set] at h1
  exact h1
set_option maxHeartbeats 4000000 in
theorem over_c (l : List Int) (v : Value) (w : World) (B : Nat) (h : Row w B v l) (hn : l.length ≤ 1000000) (hB : B ≤ w.heap.size) :
    Calls Tryz.prog 41 #[v] w fun e w' => e = .returned (.tuple #[]) ∧ w.grownBy w' v.ownBlock := by
  obtain ⟨i0, hi, hz0, hz1, hz2⟩ := info_parts intInfo
  have HI := Lib.hid hi
  have HZ0 := Lib.hid hz0
  have HZ1 := Lib.hid hz1
  have HZ2 := Lib.hid hz2
  clear hi hz0 hz1 hz2
  obtain ⟨ad, cap, rfl, _⟩ := h.nl.form
  have H := Lib.hid h
  clear h
  go_enter Tryz.func41, Tryz.ntmps41
  go_wp2
  go_loopw [2] (fun v2 wr => ∃ (k : Nat) (m : List Int), k ≤ l.length ∧ v2 = .int .i64 (k : Int) ∧ m.length = l.length ∧ Hid (Row wr B (.slice ad l.length cap) m) ∧ Hid (w.grownBy wr (Value.slice ad l.length cap).ownBlock)) (fun v2 _ => l.length - (intOf v2).toNat)
  case atStart => exact ⟨0, l, by omega, rfl, rfl, H, Lib.hid (grown_refl _ _)⟩
  case round =>
    obtain ⟨k, m, hk, rfl, hm, HM, HG⟩ := hrel
    have HML := Lib.hid hm
    have hsz := HG.out.size
    clear hm H
    by_cases hp : k < l.length
    · obtain ⟨g, cap2, he, hg, hlt⟩ := HM.out.form (by have := HML.out; omega)
      simp only [Value.slice.injEq] at he
      obtain ⟨rfl, e4, e5⟩ := he
      clear e4 e5
      have hc := HM.out.at2 HML.out k _ (List.getElem?_eq_getElem (by have := HML.out; omega))
      have hf := HM.out.soft2 HML.out k
      have HM2 := Lib.hid (HM.out.set2 HML.out k (-999))
      have HG2 : Hid (w.grownBy (wr.setCell ⟨g, k, none⟩ (.int .i64 (-999))) (Value.slice (some ⟨g, 0, none⟩) l.length cap).ownBlock) := Lib.hid (grown_trans HG.out (by
        have h1 : Row wr B (.slice (some ⟨g, 0, none⟩) m.length cap) m := by rw [HML.out]; exact HM.out
        exact (World.ownsRow.stored h1 k _).2))
      generalize m[k]'(by have := HML.out; omega) = y at hc
      go_wp2
      go_roundw
      case rel => exact ⟨k + 1, m.set k (-999), hp, by go_num, by rw [List.length_set]; exact HML.out, HM2, HG2⟩
      case measure => simp [intOf]; omega
    · have HO : Hid (wr.ownsRow B 3 1 (.slice ad l.length cap) l.length (ints m)) := Lib.hid (by have h1 := HM.out; unfold Row at h1; rw [HML.out] at h1; exact h1)
      go_wp2_with (at_builtin; refine wpList_append_own _ rfl _ _ 23 rfl B 3 i0 (.int .i64 0) 1 8 Tryz.underlying23 HI.out HZ0.out HZ1.out HZ2.out rfl (by decide) _ _ _ rfl (World.ownsRow.alloc HO.out _) ⟨wr.heap.size, 0, none⟩ 1 1 [.int .i64 (-999)] rfl rfl (cell_one_new _ _ _) (fun x hx => by simp at hx; subst hx; rfl) (by unfold maxLen; omega) (by omega) (by simp; omega) ?_; intro v' w3 hown3 hgrow3 hnil3)
      go_end0
      exact ⟨rfl, grown_trans HG.out (grown_trans (World.grownBy_alloc _ _ _) hgrow3)⟩
end Go.Proofs.YtjmkphnppegegaaGreatDoor
/-
  Lists of bytes, of digests, of parts in memory; rows of bytes of one's own; what stays of them.
-/
namespace Go.Proofs.YtjmkphnppegegaaGreatDoor
open Go.RowKit Go.Lib
set_option maxRecDepth 100000
/-- From offset o of block b on the numbers l lie. -/
def Byts (w : World) (b o : Nat) (l : List Int) : Prop := ∀ k (hk : k < l.length), w.cell? ⟨b, o + k, none⟩ = some (.int .u8 l[k])
theorem Byts.below {w w' : World} {b o : Nat} {l : List Int} (h : Byts w b o l) (hb : Below w.heap.size w w') : Byts w' b o l := fun k hk =>
  (hb.cell (World.block_lt_of_cell? w _ (h k hk))).trans (h k hk)
/-- The slice v holds the numbers l. -/
def Bl (w : World) (v : Value) (l : List Int) : Prop :=
  (v = .slice none 0 0 ∧ l = []) ∨ ∃ ad cap, v = .slice (some ad) l.length cap ∧ (0 < l.length → ∃ b o, ad = ⟨b, o, none⟩ ∧ Byts w b o l)
theorem Bl.below {w w' : World} {v : Value} {l : List Int} (h : Bl w v l) (hb : Below w.heap.size w w') : Bl w' v l := by
  rcases h with h | ⟨ad, cap, h1, h2⟩
  · exact .inl h
  · exact .inr ⟨ad, cap, h1, fun h0 => by obtain ⟨b, o, e, hs⟩ := h2 h0; exact ⟨b, o, e, hs.below hb⟩⟩
theorem Bl.drew {w : World} {v : Value} {l : List Int} (h : Bl w v l) (n : Nat) : Bl (w.drewN n) v l := h
theorem Bl.form {w : World} {v : Value} {l : List Int} (h : Bl w v l) : ∃ ad cap, v = .slice ad l.length cap ∧ (0 < l.length → ∃ b o, ad = some ⟨b, o, none⟩ ∧ Byts w b o l) := by
  rcases h with ⟨rfl, rfl⟩ | ⟨ad, cap, rfl, h2⟩
  · exact ⟨none, 0, rfl, fun h => by simp at h⟩
  · exact ⟨some ad, cap, rfl, fun h0 => by obtain ⟨b, o, e, hs⟩ := h2 h0; exact ⟨b, o, by rw [e], hs⟩⟩

def bys (l : List Int) : List Value := l.map (Value.int .u8)
theorem bys_len (l : List Int) : (bys l).length = l.length := List.length_map ..
theorem bys_one (l : List Int) : ∀ u ∈ bys l, u.oneCell' = true := by
  intro u hu
  obtain ⟨x, _, rfl⟩ := List.mem_map.1 hu
  rfl
theorem bys_at (l : List Int) (k : Nat) (hk : k < l.length) : (bys l)[k]? = some (.int .u8 l[k]) := by simp [bys, hk]
theorem Byts.news {w : World} {b o : Nat} {l : List Int} (h : Byts w b o l) : ∀ i u, (bys l)[i]? = some u → w.cell? ((⟨b, o, none⟩ : Addr).add i) = some u := by
  intro i u hu
  have hi : i < l.length := by have := (List.getElem?_eq_some_iff.1 hu).1; rwa [bys_len] at this
  rw [bys_at l i hi] at hu
  rw [Go.WideShapes.add_plain, h i hi, hu]

/-- The row v, of one's own from block B on, holds the numbers l. -/
def BRow (w : World) (B : Nat) (v : Value) (l : List Int) : Prop := w.ownsRow B 5 1 v l.length (bys l)
theorem BRow.below {w w' : World} {B : Nat} {v : Value} {l : List Int} (h : BRow w B v l) (hb : Below w.heap.size w w') : BRow w' B v l := own_below h hb
theorem BRow.mono {w : World} {B B' : Nat} {v : Value} {l : List Int} (h : BRow w B v l) (hb : B' ≤ B) : BRow w B' v l := own_mono h hb
theorem BRow.nl {w : World} {B : Nat} {v : Value} {l : List Int} (h : BRow w B v l) : Bl w v l := by
  rcases h.2 with ⟨rfl, h0⟩ | ⟨g, cap, cur, rfl, _⟩
  · exact .inl ⟨rfl, List.eq_nil_of_length_eq_zero h0⟩
  · refine .inr ⟨⟨g, 0, none⟩, cap, rfl, fun _ => ⟨g, 0, rfl, fun k hk => ?_⟩⟩
    rw [Nat.zero_add]
    exact (World.ownsRow.cellAt h k (by omega)).trans (bys_at l k hk)
theorem BRow.nil (w : World) (B : Nat) : BRow w B (.slice none 0 0) [] := World.ownsRow_nil _ _ _ _
theorem BRow.far {w w' : World} {B : Nat} {v : Value} {l : List Int} {r : Option Nat} (h : BRow w B v l) (hg : w.grownBy w' r) (hne : ∀ g, r = some g → ∀ g', v.ownBlock = some g' → g ≠ g') : BRow w' B v l := by
  refine World.ownsRow.kept h hg ?_
  cases hv : v.ownBlock with
  | none => exact .inl rfl
  | some g' => exact .inr fun e => hne g' e.symm g' hv rfl

theorem byteInfo : (Tryz.prog.info? 5).map (fun i => (i.zero, i.size, i.bytes)) = some (some (.int .u8 0), 1, 1) := by kernel_rfl
theorem Bl.news {w : World} {ad : Addr} {l : List Int} (h : 0 < l.length → ∃ b o, ad = ⟨b, o, none⟩ ∧ Byts w b o l) : ∀ i u, (bys l)[i]? = some u → w.cell? (ad.add i) = some u := by
  intro i u hu
  have hi : i < l.length := by have := (List.getElem?_eq_some_iff.1 hu).1; rwa [bys_len] at this
  obtain ⟨b, o, rfl, hs⟩ := h (by omega)
  exact hs.news i u hu

/-- append, as a step whose answer is known. -/
theorem wpList_append_run {P : Program} {w : World} {ops : Array Oper} {rest : List Oper} {o : Oper} {a : Act} {Q : Exit → Act → World → Prop} (hgd : o.guard = none) (s x : Operand) (t : TypeId)
    (ho : o.op = .call { callee := .builtin .append, args := #[s, x], argTypes := #[t, t] }) (v' : Value) (w' : World)
    (hr : (Builtin.append_ #[t, t] o.type #[a.eval s, a.eval x]).run P w = .ok v' w') (h : wpList P ops Q rest (a.put o.dst v') w') : wpList P ops Q (o :: rest) a w :=
  wpList_plain hgd fun _ hK => by
    unfold Oper.wp execOp
    simp only [ho, resolve, invoke, builtin, Sem.run_bind, Sem.run_pure, Result.andThen_ok, List.map_toArray, List.map_cons, List.map_nil, hr]
    exact hK _ _ h

theorem bcopy_run (l : List Int) (u : Value) (w : World) (ty : TypeId) (h : Bl w u l) (hn : l.length ≤ 1000000) :
    ∃ vm w1, (Builtin.append_ #[78, 78] ty #[.slice none 0 0, u]).run Tryz.prog w = .ok vm w1 ∧ BRow w1 w.heap.size vm l ∧ Below w.heap.size w w1 := by
  rcases h with ⟨rfl, rfl⟩ | ⟨ad, cap, rfl, h⟩
  · refine ⟨.slice none 0 0, w, ?_, BRow.nil _ _, Below.refl _ _⟩
    simp [Builtin.append_, go_sem, run_underlying Tryz.underlying78]
  · obtain ⟨i0, hi, hz0, hz1, hz2⟩ := info_parts byteInfo
    obtain ⟨v', w', h1, h2, h3, _, _⟩ := run_append_own_at (P := Tryz.prog) w w.heap.size 78 ty 5 i0 (.int .u8 0) 1 1 Tryz.underlying78 hi hz0 hz1 hz2 rfl (by decide) (.slice none 0 0) 0 [] (World.ownsRow_nil _ _ _ _) ad l.length cap (bys l) (by rw [bys_len, Nat.mul_one]) (Bl.news h) (bys_one l) (by unfold maxLen; omega) (by omega) (Nat.le_refl _)
    refine ⟨v', w', h1, by rw [Nat.zero_add, List.nil_append] at h2; exact h2, below_of_grown h3 (Nat.le_refl _) (by intro g hg; cases hg)⟩

theorem bys_set (l : List Int) (k : Nat) (x : Int) : (bys l).set k (.int .u8 x) = bys (l.set k x) := by simp [bys, List.map_set]
theorem BRow.at {w : World} {B g cap : Nat} {l : List Int} (h : BRow w B (.slice (some ⟨g, 0, none⟩) l.length cap) l) (k : Nat) (hk : k < l.length) : w.cell? ⟨g, k, none⟩ = some (.int .u8 l[k]) :=
  (World.ownsRow.cellAt h k (by omega)).trans (bys_at l k hk)
theorem BRow.soft {w : World} {B g cap : Nat} {l : List Int} (h : BRow w B (.slice (some ⟨g, 0, none⟩) l.length cap) l) (k : Nat) : w.frozen? ⟨g, k, none⟩ = false := World.ownsRow.frozenAt h k
theorem BRow.set {w : World} {B g cap : Nat} {l : List Int} (h : BRow w B (.slice (some ⟨g, 0, none⟩) l.length cap) l) (k : Nat) (x : Int) : BRow (w.setCell ⟨g, k, none⟩ (.int .u8 x)) B (.slice (some ⟨g, 0, none⟩) (l.set k x).length cap) (l.set k x) := by
  have h1 := (World.ownsRow.stored h k (.int .u8 x)).1
  rw [bys_set] at h1
  unfold BRow
  rw [List.length_set]
  exact h1
theorem BRow.form {w : World} {B : Nat} {v : Value} {l : List Int} (h : BRow w B v l) (hn : 0 < l.length) : ∃ g cap, v = .slice (some ⟨g, 0, none⟩) l.length cap ∧ B ≤ g ∧ g < w.heap.size := by
  obtain ⟨g, cap, e, h1, h2⟩ := World.ownsRow.form h hn
  exact ⟨g, cap, e, h1, h2⟩
theorem BRow.at2 {w : World} {B g cap n : Nat} {l : List Int} (h : BRow w B (.slice (some ⟨g, 0, none⟩) n cap) l) (hn : l.length = n) (k : Nat) (x : Int) (hk : l[k]? = some x) : w.cell? ⟨g, k, none⟩ = some (.int .u8 x) := by
  subst hn
  obtain ⟨hk', rfl⟩ := List.getElem?_eq_some_iff.1 hk
  exact h.at k hk'
theorem BRow.soft2 {w : World} {B g cap n : Nat} {l : List Int} (h : BRow w B (.slice (some ⟨g, 0, none⟩) n cap) l) (hn : l.length = n) (k : Nat) : w.frozen? ⟨g, k, none⟩ = false := by
  subst hn
  exact h.soft k
theorem BRow.set2 {w : World} {B g cap n : Nat} {l : List Int} (h : BRow w B (.slice (some ⟨g, 0, none⟩) n cap) l) (hn : l.length = n) (k : Nat) (x : Int) : BRow (w.setCell ⟨g, k, none⟩ (.int .u8 x)) B (.slice (some ⟨g, 0, none⟩) n cap) (l.set k x) := by
  subst hn
  have h1 := h.set k x
  rw [List.length_set] at h1
  exact h1

/-- From offset o of block b on the digests l lie. -/
def Digs (w : World) (b o : Nat) (l : List Int) : Prop := ∀ k (hk : k < l.length), w.cell? ⟨b, o + k, none⟩ = some (.int .u64 l[k])
theorem Digs.below {w w' : World} {b o : Nat} {l : List Int} (h : Digs w b o l) (hb : Below w.heap.size w w') : Digs w' b o l := fun k hk =>
  (hb.cell (World.block_lt_of_cell? w _ (h k hk))).trans (h k hk)
/-- The slice v holds the digests l. -/
def Dl (w : World) (v : Value) (l : List Int) : Prop :=
  ∃ ad cap, v = .slice ad l.length cap ∧ (0 < l.length → ∃ b o, ad = some ⟨b, o, none⟩ ∧ Digs w b o l)
theorem Dl.below {w w' : World} {v : Value} {l : List Int} (h : Dl w v l) (hb : Below w.heap.size w w') : Dl w' v l := by
  obtain ⟨ad, cap, h1, h2⟩ := h
  exact ⟨ad, cap, h1, fun h0 => by obtain ⟨b, o, e, hs⟩ := h2 h0; exact ⟨b, o, e, hs.below hb⟩⟩
theorem Dl.nil (w : World) : Dl w (.slice none 0 0) [] := ⟨none, 0, rfl, fun h => by simp at h⟩

/-- From offset o of block b on the parts ps lie. -/
def Prts (w : World) (b o : Nat) (ps : List (List Int)) : Prop := ∀ k (hk : k < ps.length), ∃ u, w.cell? ⟨b, o + k, none⟩ = some u ∧ Bl w u ps[k]
theorem Prts.below {w w' : World} {b o : Nat} {l : List (List Int)} (h : Prts w b o l) (hb : Below w.heap.size w w') : Prts w' b o l := fun k hk => by
  obtain ⟨u, h1, h2⟩ := h k hk
  exact ⟨u, (hb.cell (World.block_lt_of_cell? w _ h1)).trans h1, h2.below hb⟩
/-- The slice v holds the parts ps. -/
def Pl (w : World) (v : Value) (ps : List (List Int)) : Prop :=
  ∃ ad cap, v = .slice ad ps.length cap ∧ (0 < ps.length → ∃ b o, ad = some ⟨b, o, none⟩ ∧ Prts w b o ps)
theorem Pl.below {w w' : World} {v : Value} {l : List (List Int)} (h : Pl w v l) (hb : Below w.heap.size w w') : Pl w' v l := by
  obtain ⟨ad, cap, h1, h2⟩ := h
  exact ⟨ad, cap, h1, fun h0 => by obtain ⟨b, o, e, hs⟩ := h2 h0; exact ⟨b, o, e, hs.below hb⟩⟩
theorem Pl.nil (w : World) : Pl w (.slice none 0 0) [] := ⟨none, 0, rfl, fun h => by simp at h⟩
end Go.Proofs.YtjmkphnppegegaaGreatDoor
/-
  add, and chapter 5's own more, by contract: a sum with bytes behind it.
-/
namespace Go.Proofs.YtjmkphnppegegaaGreatDoor
open Go.RowKit Go.Lib
set_option maxRecDepth 100000
def stp (h b : Int) : Int := IntKind.u64.wrap (bits .xor .u64 h (IntKind.u64.wrap b) * 1099511628211)
def fnv (h : Int) : List Int → Int
  | [] => h
  | b :: t => fnv (stp h b) t

set_option maxHeartbeats 4000000 in
theorem add_c (h : Int) (l : List Int) (v : Value) (w : World) (h1 : Bl w v l) (hn : l.length ≤ 1000000) :
    Calls Tryz.prog 121 #[.int .u64 h, v] w fun e w' => e = .returned (.int .u64 (fnv h l)) ∧ w = w' := by
  obtain ⟨ad1, cap1, rfl, k1⟩ := h1.form
  have H1 := Lib.hid k1
  clear h1 k1
  go_enter Tryz.func121, Tryz.ntmps121
  go_wp2
  go_loopw [0, 9] (fun vs vk wr => ∃ (k : Nat) (s : Int), k ≤ l.length ∧ vk = .int .i64 (k : Int) ∧ vs = .int .u64 s ∧ wr = w ∧ Hid (fnv s (l.drop k) = fnv h l)) (fun _ vk _ => l.length - (RowKit.intOf vk).toNat)
  case atStart => exact ⟨0, h, by omega, rfl, rfl, rfl, Lib.hid rfl⟩
  case round =>
    obtain ⟨k, s, hk, rfl, rfl, rfl, hs⟩ := hrel
    by_cases hp : k < l.length
    · obtain ⟨g1, o1, rfl, c1⟩ := H1.out (by omega)
      have c11 := c1 k hp
      have hs' := hs.out
      rw [List.drop_eq_getElem_cons hp, fnv] at hs'
      clear c1 H1 hs
      generalize l[k] = x at c11 hs'
      have HS := Lib.hid hs'
      clear hs'
      go_wp2
      go_roundw
      case rel => exact ⟨k + 1, stp s x, hp, by go_num, rfl, by trivial, HS⟩
      case measure => simp [RowKit.intOf]; omega
    · have hs' := hs.out
      rw [List.drop_eq_nil_of_le (by omega), fnv] at hs'
      have HS := Lib.hid hs'
      clear hs' hs
      go_wp2
      go_ret
      exact ⟨by rw [← HS.out]; rfl, rfl⟩
end Go.Proofs.YtjmkphnppegegaaGreatDoor
/-
  Of, and chapter 5's own Of, by contract: the digest of parts.
-/
namespace Go.Proofs.YtjmkphnppegegaaGreatDoor
open Go.RowKit Go.Lib
set_option maxRecDepth 100000
def fnvs (h : Int) : List (List Int) → Int
  | [] => h
  | p :: t => fnvs (fnv h p) t

set_option maxHeartbeats 4000000 in
theorem of_c (ps : List (List Int)) (v : Value) (w : World) (h1 : Pl w v ps) (hn : ps.length ≤ 1000000) (hl : ∀ p ∈ ps, p.length ≤ 1000000) :
    Calls Tryz.prog 100 #[v] w fun e w' => e = .returned (.int .u64 (fnvs 14695981039346656037 ps)) ∧ w = w' := by
  obtain ⟨ad1, cap1, rfl, k1⟩ := h1
  have H1 := Lib.hid k1
  have HL := Lib.hid hl
  clear k1 hl
  go_enter Tryz.func100, Tryz.ntmps100
  go_wp2
  go_loopw [3, 8] (fun vs vk wr => ∃ (k : Nat) (s : Int), k ≤ ps.length ∧ vk = .int .i64 (k : Int) ∧ vs = .int .u64 s ∧ wr = w ∧ Hid (fnvs s (ps.drop k) = fnvs 14695981039346656037 ps)) (fun _ vk _ => ps.length - (RowKit.intOf vk).toNat)
  case atStart => exact ⟨0, _, by omega, rfl, rfl, rfl, Lib.hid rfl⟩
  case round =>
    obtain ⟨k, s, hk, rfl, rfl, rfl, hs⟩ := hrel
    by_cases hp : k < ps.length
    · obtain ⟨g1, o1, rfl, c1⟩ := H1.out (by omega)
      obtain ⟨u, c11, hu⟩ := c1 k hp
      have hlk := HL.out _ (List.getElem_mem hp)
      have hs' := hs.out
      rw [List.drop_eq_getElem_cons hp, fnvs] at hs'
      clear c1 H1 hs
      generalize ps[k] = x at hu hs' hlk
      have HS := Lib.hid hs'
      have HC := Lib.hid (add_c s x u wr hu hlk)
      obtain ⟨ad2, cap2, rfl, _⟩ := hu.form
      clear hs' hu hlk
      go_wp2_with fail
      refine HC.out.mono ?_
      rintro e w1 ⟨rfl, rfl⟩
      go_wp2
      go_roundw
      case rel => exact ⟨k + 1, fnv s x, hp, by go_num, rfl, by trivial, HS⟩
      case measure => simp [RowKit.intOf]; omega
    · have hs' := hs.out
      rw [List.drop_eq_nil_of_le (by omega), fnvs] at hs'
      have HS := Lib.hid hs'
      clear hs' hs
      go_wp2
      go_ret
      exact ⟨by rw [← HS.out]; rfl, rfl⟩
end Go.Proofs.YtjmkphnppegegaaGreatDoor
/-
  Bytes: boxes, pieces, numbers in bytes there and back, sums of pieces.
-/
namespace Go.Proofs.YtjmkphnppegegaaGreatDoor
open Go.RowKit Go.Lib
set_option maxRecDepth 100000
theorem alloc_below (w : World) (o : Obj) : Below w.heap.size w (w.alloc o) := (Below.refl _ _).alloc (Nat.le_refl _) _
/-- A box of one's own. -/
def Bx (T : TypeId) (w : World) (g : Nat) (cs : Array Value) : Prop := w.heap[g]? = some (.cells cs T (0, 0))
theorem Bx.lt {T : TypeId} {w : World} {g : Nat} {cs : Array Value} (h : Bx T w g cs) : g < w.heap.size := (Array.getElem?_eq_some_iff.1 h).1
theorem Bx.new (T : TypeId) (w : World) (cs : Array Value) : Bx T (w.alloc (.cells cs T (0, 0))) w.heap.size cs := heap_alloc_new w _
theorem Bx.cell {T : TypeId} {w : World} {g : Nat} {cs : Array Value} (h : Bx T w g cs) (k : Nat) : w.cell? ⟨g, k, none⟩ = cs[k]? := cell_of_row w g k _ _ _ h
theorem Bx.soft {T : TypeId} {w : World} {g : Nat} {cs : Array Value} (h : Bx T w g cs) (k : Nat) : w.frozen? ⟨g, k, none⟩ = false := by
  unfold Bx at h
  simp [World.frozen?, h]
theorem Bx.below {T : TypeId} {w w' : World} {g : Nat} {cs : Array Value} (h : Bx T w g cs) (hb : Below w.heap.size w w') : Bx T w' g cs := (hb.block g h.lt).trans h
theorem Bx.far {T : TypeId} {w w' : World} {g : Nat} {r : Option Nat} {cs : Array Value} (h : Bx T w g cs) (hg : w.grownBy w' r) (hne : some g ≠ r) : Bx T w' g cs := (hg.block g h.lt hne).trans h
theorem Bx.alloc {T : TypeId} {w : World} {g : Nat} {cs : Array Value} (h : Bx T w g cs) (o : Obj) : Bx T (w.alloc o) g cs := (Below.heap_alloc w o g h.lt).trans h
theorem Bx.set {T : TypeId} {w : World} {g : Nat} {cs : Array Value} (h : Bx T w g cs) (k : Nat) (u : Value) : Bx T (w.setCell ⟨g, k, none⟩ u) g (cs.setIfInBounds k u) := by
  unfold Bx at h ⊢
  simp [World.setCell, Array.getElem?_modify, h]
theorem Bx.setFar {T : TypeId} {w : World} {g : Nat} {cs : Array Value} (h : Bx T w g cs) {p : Addr} (hp : g ≠ p.block) (u : Value) : Bx T (w.setCell p u) g cs := (Below.heap_setCell w p u g hp).trans h
theorem alloc_below_of {B : Nat} {w : World} (h : B ≤ w.heap.size) (o : Obj) : Below B w (w.alloc o) := (Below.refl _ _).alloc h _
theorem bn {w a b : World} (h : Below w.heap.size w a) (k : Below a.heap.size a b) : Below w.heap.size w b := h.trans (k.mono h.size)

theorem bl_of_box {T : TypeId} {w : World} {g cap : Nat} {l : List Int} {cs : Array Value} (h : Bx T w g cs) (he : ∀ k (hk : k < l.length), cs[k]? = some (.int .u8 l[k])) : Bl w (.slice (some ⟨g, 0, none⟩) l.length cap) l :=
  .inr ⟨⟨g, 0, none⟩, cap, rfl, fun _ => ⟨g, 0, rfl, fun k hk => by rw [Nat.zero_add, h.cell k, he k hk]⟩⟩
def numB (n : Int) : Nat → List Int
  | 0 => []
  | k + 1 => (n / 2 ^ (8 * k)) % 256 :: numB n k
theorem numB_len (n : Int) : ∀ k, (numB n k).length = k
  | 0 => rfl
  | k + 1 => by simp [numB, numB_len n k]
theorem fnv_append : ∀ (a b : List Int) (h : Int), fnv h (a ++ b) = fnv (fnv h a) b
  | [], b, h => rfl
  | x :: t, b, h => by simp [fnv, fnv_append t b]
/-- A list of one part, just laid. -/
theorem pl_one {T : TypeId} {w : World} {g cap : Nat} {u : Value} {l : List Int} (h : Bx T w g #[u]) (hu : Bl w u l) : Pl w (.slice (some ⟨g, 0, none⟩) 1 cap) [l] :=
  ⟨some ⟨g, 0, none⟩, cap, rfl, fun _ => ⟨g, 0, rfl, fun k hk => by
    match k, hk with
    | 0, _ => exact ⟨u, by rw [Nat.zero_add, h.cell 0]; rfl, hu⟩⟩⟩
theorem pl_one_at {T : TypeId} {w : World} {g cap : Nat} {u : Value} {l : List Int} (hg : g = w.heap.size) (hu : Bl w u l) : Pl (w.alloc (.cells #[u] T (0, 0))) (.slice (some ⟨g, 0, none⟩) 1 cap) [l] := by
  subst hg
  exact pl_one (Bx.new T w _) (hu.below (alloc_below _ _))
def unB (n : Int) : List Int → Int
  | [] => n
  | x :: t => unB (n * 256 + x) t
def OkB (l : List Int) : Prop := ∀ x ∈ l, 0 ≤ x ∧ x < 256
theorem OkB.at {l : List Int} (h : OkB l) (k : Nat) (hk : k < l.length) : 0 ≤ l[k] ∧ l[k] < 256 := h _ (List.getElem_mem hk)
theorem OkB.take {l : List Int} (h : OkB l) (k : Nat) : OkB (l.take k) := fun x hx => h x (List.mem_of_mem_take hx)
theorem OkB.drop {l : List Int} (h : OkB l) (k : Nat) : OkB (l.drop k) := fun x hx => h x (List.mem_of_mem_drop hx)
theorem unB_append (n : Int) : ∀ (a b : List Int), unB n (a ++ b) = unB (unB n a) b
  | [], b => rfl
  | x :: a, b => by rw [List.cons_append, unB, unB, unB_append]
termination_by a => a.length
theorem unB_bound : ∀ (l : List Int) (n : Int), OkB l → 0 ≤ n → 0 ≤ unB n l ∧ unB n l < (n + 1) * 256 ^ l.length
  | [], n, _, h => by simp [unB]; omega
  | x :: t, n, hl, h => by
    have hx := hl x (List.mem_cons_self ..)
    have ih := unB_bound t (n * 256 + x) (fun y hy => hl y (List.mem_cons_of_mem _ hy)) (by omega)
    rw [unB, List.length_cons, Int.pow_succ]
    refine ⟨ih.1, Int.lt_of_lt_of_le ih.2 ?_⟩
    rw [Int.mul_comm (256 ^ t.length) 256, ← Int.mul_assoc]
    exact Int.mul_le_mul_of_nonneg_right (by omega) (Int.pow_nonneg (by omega))
theorem unB_lt (l : List Int) (h : OkB l) (hn : l.length ≤ 6) : 0 ≤ unB 0 l ∧ unB 0 l < 281474976710656 := by
  have h1 := unB_bound l 0 h (by omega)
  refine ⟨h1.1, Int.lt_of_lt_of_le h1.2 ?_⟩
  have h2 : (256 : Nat) ^ l.length ≤ 256 ^ 6 := Nat.pow_le_pow_right (by decide) hn
  have h3 : ((256 ^ l.length : Nat) : Int) ≤ ((256 ^ 6 : Nat) : Int) := Int.ofNat_le.2 h2
  simpa using h3
theorem unB_lt5 (l : List Int) (h : OkB l) (hn : l.length ≤ 5) : 0 ≤ unB 0 l ∧ unB 0 l < 1099511627776 := by
  have h1 := unB_bound l 0 h (by omega)
  refine ⟨h1.1, Int.lt_of_lt_of_le h1.2 ?_⟩
  have h2 : (256 : Nat) ^ l.length ≤ 256 ^ 5 := Nat.pow_le_pow_right (by decide) hn
  have h3 : ((256 ^ l.length : Nat) : Int) ≤ ((256 ^ 5 : Nat) : Int) := Int.ofNat_le.2 h2
  simpa using h3
theorem unB_step (l : List Int) (k : Nat) (hk : k < l.length) : unB 0 (l.take (k + 1)) = unB 0 (l.take k) * 256 + l[k] := by
  rw [List.take_succ_eq_append_getElem hk, unB_append]
  rfl


theorem Byts.drop {w : World} {b o : Nat} {l : List Int} (h : Byts w b o l) (k : Nat) : Byts w b (o + k) (l.drop k) := fun j hj => by
  rw [List.length_drop] at hj
  have h1 := h (k + j) (by omega)
  rw [List.getElem_drop, Nat.add_assoc]
  exact h1
theorem Byts.take {w : World} {b o : Nat} {l : List Int} (h : Byts w b o l) (k : Nat) : Byts w b o (l.take k) := fun j hj => by
  rw [List.length_take] at hj
  have h1 := h j (by omega)
  rw [List.getElem_take]
  exact h1


theorem unB_numB (m : Int) (N : Nat) : ∀ k, unB m (numB (N : Int) k) = m * 256 ^ k + ((N % 256 ^ k : Nat) : Int)
  | 0 => by simp [numB, unB, Nat.mod_one]
  | k + 1 => by
    rw [numB, unB]
    rw [unB_numB _ N k]
    have e : ((N : Int) / 2 ^ (8 * k)) % 256 = ((N / 256 ^ k % 256 : Nat) : Int) := by
      rw [show (2 : Int) ^ (8 * k) = ((256 ^ k : Nat) : Int) from by rw [Int.pow_mul]; simp]
      simp
    rw [e, Nat.pow_succ, Nat.mod_mul, Int.pow_succ, Int.add_mul, Int.mul_assoc m 256, Int.mul_comm 256 (256 ^ k)]
    simp only [Int.natCast_add, Int.natCast_mul, Int.natCast_pow]
    rw [Int.mul_comm ((256 : Nat) ^ k : Int) _]
    simp
    omega
theorem un_num (n : Int) (k : Nat) (h0 : 0 ≤ n) (h1 : n < 256 ^ k) : unB 0 (numB n k) = n := by
  obtain ⟨N, rfl⟩ := Int.eq_ofNat_of_zero_le h0
  rw [unB_numB, Int.zero_mul, Int.zero_add, Nat.mod_eq_of_lt]
  have : ((N : Nat) : Int) < ((256 ^ k : Nat) : Int) := by simpa using h1
  exact Int.ofNat_lt.1 this
theorem numB_ok (n : Int) : ∀ k, OkB (numB n k)
  | 0 => fun x hx => by simp [numB] at hx
  | k + 1 => fun x hx => by
    rw [numB, List.mem_cons] at hx
    rcases hx with rfl | hx
    · omega
    · exact numB_ok n k x hx
theorem OkB.append {a b : List Int} (h : OkB a) (k : OkB b) : OkB (a ++ b) := fun x hx => by
  rcases List.mem_append.1 hx with hx | hx
  · exact h x hx
  · exact k x hx

/-- A piece of bytes holds the piece of them. -/
theorem bl_sliced {w : World} {ad : Option Addr} {cap : Nat} {l : List Int} (h : Bl w (.slice ad l.length cap) l) (hcap : l.length ≤ cap) (lo hi : Nat) (hlh : lo ≤ hi) (hhi : hi ≤ l.length) : Bl w (sliced ad lo hi cap 1) ((l.drop lo).take (hi - lo)) := by
  have hlen : ((l.drop lo).take (hi - lo)).length = hi - lo := by simp; omega
  have hlen2 : (List.take (hi - lo) (List.drop lo l)).length = hi - lo := hlen
  rcases h with ⟨e, rfl⟩ | ⟨a, c, e, h2⟩
  · simp only [Value.slice.injEq] at e
    obtain ⟨rfl, _, rfl⟩ := e
    simp at hhi
    subst hhi
    obtain rfl : lo = 0 := by omega
    exact .inl ⟨rfl, rfl⟩
  · simp only [Value.slice.injEq] at e
    obtain ⟨rfl, _, rfl⟩ := e
    refine .inr ⟨if cap = lo then a else a.add (lo * 1), cap - lo, ?_, fun h0 => ?_⟩
    · rw [hlen2]
      unfold sliced
      split <;> rfl
    · rw [hlen2] at h0
      obtain ⟨b, o, rfl, hs⟩ := h2 (by omega)
      by_cases hc : cap = lo
      · omega
      · rw [if_neg hc]
        refine ⟨b, o + lo, by rw [Nat.mul_one]; exact Go.WideShapes.add_plain .., fun k hk => ?_⟩
        rw [hlen2] at hk
        rw [List.getElem_take, List.getElem_drop, Nat.add_assoc]
        exact hs (lo + k) (by omega)
theorem slice_any_run (ad : Option Addr) (n cap : Nat) (lo hi : Option Value) (l h : Nat) (W : World) (hb : (Instr.sliceBounds true n cap lo hi none).run Tryz.prog W = .ok (l, h, cap) W) : (Instr.sliceAt 78 (.slice ad n cap) lo hi none).run Tryz.prog W = .ok (sliced ad l h cap 1) W := by
  have hs : (sizeOf 5).run Tryz.prog W = .ok 1 W := by
    simp [sizeOf]
    rfl
  rw [run_sliceAt_slice W _ _ _ _ _ Tryz.underlying78, run_slice_any W _ _ _ _ Tryz.underlying78, hb]
  simp only [Result.andThen]
  rw [show Tryz.prog.elem 78 = 5 by kernel_rfl, hs]


def U64 (h : Int) : Prop := 0 ≤ h ∧ h < 18446744073709551616
theorem stp_u64 (h b : Int) : U64 (stp h b) := by
  unfold stp U64
  rw [IntKind.wrap_u64]
  omega
theorem mul_back {x y : Int} (hx : U64 x) (hy : U64 y) (h : IntKind.u64.wrap (x * 1099511628211) = IntKind.u64.wrap (y * 1099511628211)) : x = y := by
  rw [IntKind.wrap_u64, IntKind.wrap_u64] at h
  have key : ∀ z : Int, U64 z → (z * 1099511628211 % 18446744073709551616) * 14886173955864302971 % 18446744073709551616 = z := by
    intro z hz
    obtain ⟨h0, h1⟩ := hz
    omega
  have h1 := key x hx
  have h2 := key y hy
  rw [h] at h1
  exact h1.symm.trans h2
theorem byte_wrap {b : Int} (h : 0 ≤ b ∧ b < 256) : IntKind.u64.wrap b = b := by rw [IntKind.wrap_u64]; omega
theorem stp_eq {h b : Int} (hh : U64 h) (hb : 0 ≤ b ∧ b < 256) : stp h b = IntKind.u64.wrap (((h.toNat ^^^ b.toNat : Nat) : Int) * 1099511628211) := by
  unfold stp
  rw [byte_wrap hb, u64_xor h b hh.1 hh.2 hb.1 (by omega)]
theorem xor_u64 {h b : Int} (hh : U64 h) (hb : 0 ≤ b ∧ b < 256) : U64 ((h.toNat ^^^ b.toNat : Nat) : Int) := by
  have hx : h.toNat ^^^ b.toNat < 2 ^ 64 := Nat.xor_lt_two_pow (by have := hh.2; omega) (by omega)
  exact ⟨by omega, by omega⟩
theorem xor_left {a b c : Nat} (h : a ^^^ b = a ^^^ c) : b = c := by
  have h2 := congrArg (a ^^^ ·) h
  simpa [← Nat.xor_assoc] using h2
theorem stp_left {h h' b : Int} (hh : U64 h) (hh' : U64 h') (hb : 0 ≤ b ∧ b < 256) (e : stp h b = stp h' b) : h = h' := by
  rw [stp_eq hh hb, stp_eq hh' hb] at e
  have e2 := mul_back (xor_u64 hh hb) (xor_u64 hh' hb) e
  have e3 : h.toNat ^^^ b.toNat = h'.toNat ^^^ b.toNat := by omega
  rw [Nat.xor_comm, Nat.xor_comm h'.toNat] at e3
  have := xor_left e3
  have := hh.1
  have := hh'.1
  omega
theorem stp_right {h b b' : Int} (hh : U64 h) (hb : 0 ≤ b ∧ b < 256) (hb' : 0 ≤ b' ∧ b' < 256) (e : stp h b = stp h b') : b = b' := by
  rw [stp_eq hh hb, stp_eq hh hb'] at e
  have e2 := mul_back (xor_u64 hh hb) (xor_u64 hh hb') e
  have e3 : h.toNat ^^^ b.toNat = h.toNat ^^^ b'.toNat := by omega
  have := xor_left e3
  omega
theorem fnv_u64 : ∀ (l : List Int) (h : Int), U64 h → U64 (fnv h l)
  | [], _, hh => hh
  | x :: t, h, _ => fnv_u64 t _ (stp_u64 h x)
theorem fnv_left : ∀ (l : List Int) (h h' : Int), OkB l → U64 h → U64 h' → fnv h l = fnv h' l → h = h'
  | [], _, _, _, _, _, e => e
  | x :: t, _, _, ok, hh, hh', e =>
    stp_left hh hh' (ok x (List.mem_cons_self ..)) (fnv_left t _ _ (fun y hy => ok y (List.mem_cons_of_mem _ hy)) (stp_u64 _ _) (stp_u64 _ _) e)
theorem begin_u64 : U64 14695981039346656037 := ⟨by decide, by decide⟩

/-- With one byte another one it is another one. -/
theorem fnv_unlike (l : List Int) (n : Nat) (hn : n < l.length) (y : Int) (ok : OkB l) (hy : 0 ≤ y ∧ y < 256) (hne : y ≠ l[n]) : fnv 14695981039346656037 (l.set n y) ≠ fnv 14695981039346656037 l := by
  intro e
  have e1 : l.set n y = l.take n ++ y :: l.drop (n + 1) := List.set_eq_take_append_cons_drop .. |>.trans (if_pos hn)
  have e2 : l = l.take n ++ l[n] :: l.drop (n + 1) := by rw [← List.drop_eq_getElem_cons hn, List.take_append_drop]
  rw [e1] at e
  have e3 : fnv 14695981039346656037 l = fnv 14695981039346656037 (l.take n ++ l[n] :: l.drop (n + 1)) := by rw [← e2]
  rw [e3, fnv_append, fnv_append, fnv, fnv] at e
  have okd : OkB (l.drop (n + 1)) := fun x hx => ok x (List.mem_of_mem_drop hx)
  have h1 := fnv_left _ _ _ okd (stp_u64 _ _) (stp_u64 _ _) e
  exact hne (stp_right (fnv_u64 _ _ begin_u64) hy (ok _ (List.getElem_mem hn)) h1)
theorem xor_byte {x d : Int} (hx : 0 ≤ x ∧ x < 256) (hd : 0 ≤ d ∧ d < 256) (h0 : d ≠ 0) : (0 ≤ bits .xor .u8 x d ∧ bits .xor .u8 x d < 256) ∧ bits .xor .u8 x d ≠ x := by
  rw [u8_xor x d hx.1 hx.2 hd.1 hd.2]
  have hl : x.toNat ^^^ d.toNat < 2 ^ 8 := Nat.xor_lt_two_pow (by omega) (by omega)
  refine ⟨⟨by omega, by omega⟩, fun e => ?_⟩
  have e1 : x.toNat ^^^ d.toNat = x.toNat ^^^ 0 := by rw [Nat.xor_zero]; omega
  have := xor_left e1
  omega


/-- Bytes with their room. -/
def Bc (w : World) (v : Value) (l : List Int) : Prop := Bl w v l ∧ ∃ ad cap, v = .slice ad l.length cap ∧ l.length ≤ cap
theorem Bc.below {w w' : World} {v : Value} {l : List Int} (h : Bc w v l) (hb : Below w.heap.size w w') : Bc w' v l := ⟨h.1.below hb, h.2⟩
theorem Bc.nil (w : World) : Bc w (.slice none 0 0) [] := ⟨.inl ⟨rfl, rfl⟩, none, 0, rfl, Nat.le_refl _⟩
theorem BRow.bc {w : World} {B : Nat} {v : Value} {l : List Int} (h : BRow w B v l) : Bc w v l := by
  refine ⟨h.nl, ?_⟩
  rcases h.2 with ⟨rfl, h0⟩ | ⟨g, cap, cur, rfl, _, _, hn, _⟩
  · exact ⟨none, 0, by rw [h0], by omega⟩
  · exact ⟨_, cap, rfl, hn⟩
/-- A piece, as a slice of letters. -/
theorem Bc.piece {w : World} {ad : Option Addr} {cap n : Nat} {l : List Int} (h : Bc w (.slice ad n cap) l) (lo hi : Nat) (hlh : lo ≤ hi) (hhi : hi ≤ l.length) :
    ∃ A C, sliced ad lo hi cap 1 = .slice A (hi - lo) C ∧ ∀ W, Bc W (.slice ad n cap) l → Bc W (.slice A (hi - lo) C) ((l.drop lo).take (hi - lo)) := by
  obtain ⟨h1, a2, c2, e, hc⟩ := h
  simp only [Value.slice.injEq] at e
  obtain ⟨rfl, rfl, rfl⟩ := e
  have hlen : ((l.drop lo).take (hi - lo)).length = hi - lo := by simp; omega
  exact ⟨_, _, rfl, fun W hW => ⟨bl_sliced hW.1 hc lo hi hlh hhi, _, _, by rw [hlen], by rw [hlen]; omega⟩⟩
/-- A piece of a slice, as a step whose answer is known. -/
theorem wpList_slice_run {P : Program} {w : World} {ops : Array Oper} {rest : List Oper} {o : Oper} {a : Act} {Q : Exit → Act → World → Prop} (hgd : o.guard = none) (t : TypeId) (s : Operand) (lo hi : Option Operand)
    (ho : o.op = .slice t s lo hi none) (v' : Value)
    (hr : (Instr.sliceAt t (a.eval s) (lo.map a.eval) (hi.map a.eval) none).run P w = .ok v' w) (h : wpList P ops Q rest (a.put o.dst v') w) : wpList P ops Q (o :: rest) a w :=
  wpList_plain hgd fun _ hK => by
    unfold Oper.wp execOp
    simp only [ho, Option.map_none, Sem.run_bind, Sem.run_pure, Result.andThen_ok, hr]
    exact hK _ _ h
/-- Is there a frame in front, of which kind, and of how many bytes? -/
def fsT : List Int → Option (Int × Nat)
  | a :: k :: h :: m :: r => if a = 71 ∧ 1 ≤ k ∧ (h * 256 + m).toNat + 8 ≤ r.length ∧ unB 0 ((r.drop (h * 256 + m).toNat).take 8) = fnv 14695981039346656037 (a :: k :: h :: m :: r.take (h * 256 + m).toNat) then some (k, (h * 256 + m).toNat) else none
  | _ => none
end Go.Proofs.YtjmkphnppegegaaGreatDoor
/-
  Put, of both kinds of numbers, chapter 4's own Num, chapter 5's own One, chapter 6's own seal, by contract.
-/
namespace Go.Proofs.YtjmkphnppegegaaGreatDoor
open Go.RowKit Go.Lib
set_option maxRecDepth 100000
/-- What is answered: a row of one's own. -/
def rowB (B : Nat) (l : List Int) (w : World) (e : Ending) (w' : World) : Prop := ∃ v, e = .returned v ∧ BRow w' B v l ∧ Below B w w'

set_option maxHeartbeats 4000000 in
theorem put_c (l : List Int) (v : Value) (n : Int) (many : Nat) (w : World) (B : Nat) (h : BRow w B v l) (hm : many ≤ 8) (hl : l.length ≤ 1000000) (hB : B ≤ w.heap.size) :
    Calls Tryz.prog 98 #[v, .int .i64 n, .int .i64 (many : Int)] w (rowB B (l ++ numB n many) w) := by
  obtain ⟨i0, hi, hz0, hz1, hz2⟩ := info_parts byteInfo
  have HI := Lib.hid hi
  have HZ0 := Lib.hid hz0
  have HZ1 := Lib.hid hz1
  have HZ2 := Lib.hid hz2
  clear hi hz0 hz1 hz2
  have H := Lib.hid h
  clear h
  go_enter Tryz.func98, Tryz.ntmps98
  go_wp2
  go_loopw [0, 7] (fun v0 v7 wr => ∃ (k : Nat) (acc : List Int), k ≤ many ∧ v7 = .int .i64 ((k : Int) - 1) ∧ acc.length + k = l.length + many ∧ Hid (acc ++ numB n k = l ++ numB n many) ∧ Hid (BRow wr B v0 acc) ∧ Hid (Below B w wr)) (fun _ v7 _ => ((RowKit.intOf v7) + 1).toNat)
  case atStart => exact ⟨many, l, Nat.le_refl _, by go_num, rfl, Lib.hid rfl, H, Lib.hid (Below.refl _ _)⟩
  case round =>
    obtain ⟨k, acc, hk, rfl, hacc, hx, HR, HB⟩ := hrel
    have hsz := HB.out.size
    cases k with
    | zero =>
      have e0 : decide ((0 : Int) ≤ ((0 : Nat) : Int) - 1) = false := by decide
      have HX := Lib.hid (show acc = l ++ numB n many by have := hx.out; simpa [numB] using this)
      clear hx
      go_wp2
      go_ret
      exact ⟨_, rfl, by rw [← HX.out]; exact HR.out, HB.out⟩
    | succ j =>
      have e0 : decide ((0 : Int) ≤ ((j + 1 : Nat) : Int) - 1) = true := by simp
      obtain ⟨ad, cap, rfl, _⟩ := HR.out.nl.form
      have HX := Lib.hid (show (acc ++ [(n / 2 ^ (8 * j)) % 256]) ++ numB n j = l ++ numB n many by have := hx.out; rw [numB] at this; rw [← this]; simp)
      clear hx
      go_wp2_with (at_builtin; refine wpList_append_own _ rfl _ _ 78 rfl B 5 i0 (.int .u8 0) 1 1 Tryz.underlying78 HI.out HZ0.out HZ1.out HZ2.out rfl (by decide) _ _ _ rfl (World.ownsRow.alloc HR.out _) ⟨wr.heap.size, 0, none⟩ 1 1 [.int .u8 (n / 2 ^ (8 * j) % 256)] rfl rfl (cell_one_new _ _ _) (fun x hx => by simp at hx; subst hx; rfl) (by unfold maxLen; omega) (by omega) (by simp; omega) ?_; intro v' w3 hown3 hgrow3 hnil3)
      go_roundw
      case rel => exact ⟨j, acc ++ [n / 2 ^ (8 * j) % 256], by omega, by go_num, by simp; omega, HX, Lib.hid (by
          unfold BRow
          have e : bys (acc ++ [n / 2 ^ (8 * j) % 256]) = bys acc ++ [.int .u8 (n / 2 ^ (8 * j) % 256)] := by simp [bys]
          rw [e, List.length_append]
          exact hown3), Lib.hid (HB.out.trans ((alloc_below_of (by omega) _).trans (below_of_grown hgrow3 (by simp; omega) (fun g hg => (World.ownsRow.lt HR.out g hg).1))))⟩
      case measure => simp [RowKit.intOf]
set_option maxHeartbeats 4000000 in
theorem putu_c (l : List Int) (v : Value) (n : Int) (many : Nat) (w : World) (B : Nat) (h : BRow w B v l) (hm : many ≤ 8) (hl : l.length ≤ 1000000) (hB : B ≤ w.heap.size) :
    Calls Tryz.prog 99 #[v, .int .u64 n, .int .i64 (many : Int)] w (rowB B (l ++ numB n many) w) := by
  obtain ⟨i0, hi, hz0, hz1, hz2⟩ := info_parts byteInfo
  have HI := Lib.hid hi
  have HZ0 := Lib.hid hz0
  have HZ1 := Lib.hid hz1
  have HZ2 := Lib.hid hz2
  clear hi hz0 hz1 hz2
  have H := Lib.hid h
  clear h
  go_enter Tryz.func99, Tryz.ntmps99
  go_wp2
  go_loopw [0, 7] (fun v0 v7 wr => ∃ (k : Nat) (acc : List Int), k ≤ many ∧ v7 = .int .i64 ((k : Int) - 1) ∧ acc.length + k = l.length + many ∧ Hid (acc ++ numB n k = l ++ numB n many) ∧ Hid (BRow wr B v0 acc) ∧ Hid (Below B w wr)) (fun _ v7 _ => ((RowKit.intOf v7) + 1).toNat)
  case atStart => exact ⟨many, l, Nat.le_refl _, by go_num, rfl, Lib.hid rfl, H, Lib.hid (Below.refl _ _)⟩
  case round =>
    obtain ⟨k, acc, hk, rfl, hacc, hx, HR, HB⟩ := hrel
    have hsz := HB.out.size
    cases k with
    | zero =>
      have e0 : decide ((0 : Int) ≤ ((0 : Nat) : Int) - 1) = false := by decide
      have HX := Lib.hid (show acc = l ++ numB n many by have := hx.out; simpa [numB] using this)
      clear hx
      go_wp2
      go_ret
      exact ⟨_, rfl, by rw [← HX.out]; exact HR.out, HB.out⟩
    | succ j =>
      have e0 : decide ((0 : Int) ≤ ((j + 1 : Nat) : Int) - 1) = true := by simp
      obtain ⟨ad, cap, rfl, _⟩ := HR.out.nl.form
      have HX := Lib.hid (show (acc ++ [(n / 2 ^ (8 * j)) % 256]) ++ numB n j = l ++ numB n many by have := hx.out; rw [numB] at this; rw [← this]; simp)
      clear hx
      go_wp2_with (at_builtin; refine wpList_append_own _ rfl _ _ 78 rfl B 5 i0 (.int .u8 0) 1 1 Tryz.underlying78 HI.out HZ0.out HZ1.out HZ2.out rfl (by decide) _ _ _ rfl (World.ownsRow.alloc HR.out _) ⟨wr.heap.size, 0, none⟩ 1 1 [.int .u8 (n / 2 ^ (8 * j) % 256)] rfl rfl (cell_one_new _ _ _) (fun x hx => by simp at hx; subst hx; rfl) (by unfold maxLen; omega) (by omega) (by simp; omega) ?_; intro v' w3 hown3 hgrow3 hnil3)
      go_roundw
      case rel => exact ⟨j, acc ++ [n / 2 ^ (8 * j) % 256], by omega, by go_num, by simp; omega, HX, Lib.hid (by
          unfold BRow
          have e : bys (acc ++ [n / 2 ^ (8 * j) % 256]) = bys acc ++ [.int .u8 (n / 2 ^ (8 * j) % 256)] := by simp [bys]
          rw [e, List.length_append]
          exact hown3), Lib.hid (HB.out.trans ((alloc_below_of (by omega) _).trans (below_of_grown hgrow3 (by simp; omega) (fun g hg => (World.ownsRow.lt HR.out g hg).1))))⟩
      case measure => simp [RowKit.intOf]
end Go.Proofs.YtjmkphnppegegaaGreatDoor
/-
  SameBytes, LendBytes, KeptBytes, OverBytes, Low, by contract.
-/
namespace Go.Proofs.YtjmkphnppegegaaGreatDoor
open Go.RowKit Go.Lib
set_option maxRecDepth 100000
theorem sameB_self (l : List Int) : sameB l l = true := (sameB_iff l l).2 rfl
/-- The numbers l, lent: three marks lie behind them. -/
def BLent (w : World) (g : Nat) (l : List Int) : Prop := w.ownsRow g 5 1 (.slice (some ⟨g, 0, none⟩) (l.length + 3) (l.length + 3)) (l.length + 3) (bys (l ++ [119, 119, 119]))
theorem BLent.below {w w' : World} {g : Nat} {l : List Int} (h : BLent w g l) (hb : Below w.heap.size w w') : BLent w' g l := own_below h hb
theorem BLent.lt {w : World} {g : Nat} {l : List Int} (h : BLent w g l) : g < w.heap.size := (World.ownsRow.lt h g rfl).2
theorem BLent.far {w w' : World} {g : Nat} {l : List Int} {r : Option Nat} (h : BLent w g l) (hg : w.grownBy w' r) (hne : r ≠ some g) : BLent w' g l :=
  World.ownsRow.kept h hg (.inr (fun e => hne e.symm))
theorem BLent.at {w : World} {g : Nat} {l : List Int} (h : BLent w g l) (k : Nat) (x : Int) (hk : (l ++ [119, 119, 119])[k]? = some x) : w.cell? ⟨g, k, none⟩ = some (.int .u8 x) := by
  have hl : k < (l ++ [119, 119, 119]).length := (List.getElem?_eq_some_iff.1 hk).1
  refine (World.ownsRow.cellAt h k (by simp at hl; omega)).trans ?_
  rw [bys, List.getElem?_map, hk]
  rfl
theorem BLent.nl {w : World} {g : Nat} {l : List Int} (h : BLent w g l) : Bl w (.slice (some ⟨g, 0, none⟩) l.length (l.length + 3)) l :=
  .inr ⟨⟨g, 0, none⟩, l.length + 3, rfl, fun _ => ⟨g, 0, rfl, fun k hk => by
    rw [Nat.zero_add]
    exact h.at k l[k] (by rw [List.getElem?_append_left hk, List.getElem?_eq_getElem hk])⟩⟩

/-- A row with its room. -/
theorem brow_whole {w : World} {B g n cap : Nat} {xs : List Value} (h : w.ownsRow B 5 1 (.slice (some ⟨g, 0, none⟩) n cap) n xs) : ∃ zs, zs.length = cap - n ∧ w.ownsRow B 5 1 (.slice (some ⟨g, 0, none⟩) cap cap) cap (xs ++ zs) := by
  obtain ⟨h1, h2⟩ := h
  rcases h2 with ⟨h0, _⟩ | ⟨g', cap', cur, hv, hg, hh, hn, hcap, hsz, htake⟩
  · cases h0
  · cases hv
    rw [Nat.mul_one] at hsz h1 htake
    refine ⟨cur.toList.drop n, by simp; omega, ?_, .inr ⟨g, cap, cur, rfl, hg, hh, Nat.le_refl _, hcap, by rw [Nat.mul_one]; exact hsz, ?_⟩⟩
    · simp [h1]; omega
    · rw [Nat.mul_one, List.take_of_length_le (by simp; omega), ← htake, List.take_append_drop]

def blendT (l : List Int) (w : World) (e : Ending) (w' : World) : Prop := ∃ g, e = .returned (.slice (some ⟨g, 0, none⟩) l.length (l.length + 3)) ∧ BLent w' g l ∧ w.heap.size ≤ g ∧ Below w.heap.size w w'

theorem blend_set (l : List Int) (k : Nat) (zs : List Value) (h : zs.length = 3 - k) (hk : k < 3) : ∃ zs', zs'.length = 3 - (k + 1) ∧ (bys l ++ (List.replicate k (Value.int .u8 119) ++ zs)).set (l.length + k) (Value.int .u8 119) = bys l ++ (List.replicate (k + 1) (Value.int .u8 119) ++ zs') := by
  cases zs with
  | nil => simp at h; omega
  | cons z t =>
    refine ⟨t, by simp at h; omega, ?_⟩
    rw [List.set_append_right _ _ (by rw [bys_len]; omega), bys_len, Nat.add_sub_cancel_left, List.set_append_right _ _ (by simp), List.length_replicate, Nat.sub_self, List.set_cons_zero, List.replicate_succ']
    simp

theorem blend_run (l : List Int) (u : Value) (w : World) (ty : TypeId) (h : Bl w u l) (_ : l.length ≤ 1000000) (B : Nat) (g : Nat) (hown : w.ownsRow B 5 1 (.slice (some ⟨g, 0, none⟩) 0 (l.length + 3)) 0 []) :
    ∃ w1, (Builtin.append_ #[78, 78] ty #[.slice (some ⟨g, 0, none⟩) 0 (l.length + 3), u]).run Tryz.prog w = .ok (.slice (some ⟨g, 0, none⟩) l.length (l.length + 3)) w1 ∧ w1.ownsRow B 5 1 (.slice (some ⟨g, 0, none⟩) l.length (l.length + 3)) l.length (bys l) ∧ w.grownBy w1 (some g) := by
  rcases h with ⟨rfl, rfl⟩ | ⟨ad, cap, rfl, h⟩
  · refine ⟨w, ?_, hown, grown_refl _ _⟩
    simp [Builtin.append_, go_sem, run_underlying Tryz.underlying78]
  · obtain ⟨i0, hi, hz0, hz1, hz2⟩ := info_parts byteInfo
    obtain ⟨w', h1, h2, h3⟩ := run_append_own_spare (P := Tryz.prog) w B 78 ty 5 i0 1 Tryz.underlying78 hi hz1 g 0 (l.length + 3) [] hown ad l.length cap (bys l) (by rw [bys_len, Nat.mul_one]) (Bl.news h) (bys_one l) (by omega)
    rw [Nat.zero_add] at h1 h2
    exact ⟨w', h1, h2, h3⟩
end Go.Proofs.YtjmkphnppegegaaGreatDoor
/-
  Take, of both kinds of numbers, by contract.
-/
namespace Go.Proofs.YtjmkphnppegegaaGreatDoor
open Go.RowKit Go.Lib
set_option maxRecDepth 100000
theorem or_i64 (n x : Int) (h0 : 0 ≤ n) (h1 : n < 1099511627776) (h2 : 0 ≤ x) (h3 : x < 256) : bits .or .i64 (n * 256) x = n * 256 + x := by
  obtain ⟨N, rfl⟩ := Int.eq_ofNat_of_zero_le h0
  obtain ⟨X, rfl⟩ := Int.eq_ofNat_of_zero_le h2
  show IntKind.i64.wrap ((BitVec.ofInt 64 ((N : Int) * 256) ||| BitVec.ofInt 64 (X : Int)).toNat : Int) = _
  have e : ((N : Int) * 256) = ((N * 256 : Nat) : Int) := by simp
  rw [e, BitVec.toNat_or, ofInt_u64 (N * 256) (by omega), ofInt_u64 X (by omega), IntKind.wrap_i64]
  have h := Nat.shiftLeft_add_eq_or_of_lt (show X < 2 ^ 8 by omega) N
  rw [Nat.shiftLeft_eq] at h
  rw [show N * 256 ||| X = N * 256 + X from h.symm]
  omega

theorem unB_lt7 (l : List Int) (h : OkB l) (hn : l.length ≤ 7) : 0 ≤ unB 0 l ∧ unB 0 l < 72057594037927936 := by
  have h1 := unB_bound l 0 h (by omega)
  refine ⟨h1.1, Int.lt_of_lt_of_le h1.2 ?_⟩
  have h2 : (256 : Nat) ^ l.length ≤ 256 ^ 7 := Nat.pow_le_pow_right (by decide) hn
  have h3 : ((256 ^ l.length : Nat) : Int) ≤ ((256 ^ 7 : Nat) : Int) := Int.ofNat_le.2 h2
  simpa using h3
theorem or_u64 (n x : Int) (h0 : 0 ≤ n) (h1 : n < 72057594037927936) (h2 : 0 ≤ x) (h3 : x < 256) : bits .or .u64 (n * 256) x = n * 256 + x := by
  obtain ⟨N, rfl⟩ := Int.eq_ofNat_of_zero_le h0
  obtain ⟨X, rfl⟩ := Int.eq_ofNat_of_zero_le h2
  show IntKind.u64.wrap ((BitVec.ofInt 64 ((N : Int) * 256) ||| BitVec.ofInt 64 (X : Int)).toNat : Int) = _
  have e : ((N : Int) * 256) = ((N * 256 : Nat) : Int) := by simp
  rw [e, BitVec.toNat_or, ofInt_u64 (N * 256) (by omega), ofInt_u64 X (by omega), IntKind.wrap_u64]
  have h := Nat.shiftLeft_add_eq_or_of_lt (show X < 2 ^ 8 by omega) N
  rw [Nat.shiftLeft_eq] at h
  rw [show N * 256 ||| X = N * 256 + X from h.symm]
  omega
def takeT (K : IntKind) (l : List Int) (many : Nat) (w : World) (e : Ending) (w' : World) : Prop :=
  ∃ A C, e = .returned (.tuple #[.int K (unB 0 (l.take many)), .slice A (l.length - many) C]) ∧ Bc w' (.slice A (l.length - many) C) (l.drop many) ∧ Below w.heap.size w w'

set_option maxHeartbeats 4000000 in
theorem take_c (l : List Int) (v : Value) (many : Nat) (w : World) (h : Bc w v l) (ho : OkB l) (hm : many ≤ l.length) (hm6 : many ≤ 6) (h0 : 0 < many) (hl : l.length ≤ 1000000) :
    Calls Tryz.prog 140 #[v, .int .i64 (many : Int)] w (takeT .i64 l many w) := by
  obtain ⟨ad, cap, rfl, hcap⟩ := h.2
  obtain ⟨A1, C1, e1, p1⟩ := h.piece 0 many (by omega) hm
  obtain ⟨A2, C2, e2, p2⟩ := h.piece many l.length hm (Nat.le_refl _)
  rw [Nat.sub_zero] at e1 p1
  have r1 : ∀ W, (Instr.sliceAt 78 (.slice ad l.length cap) none (some (.int .i64 (many : Int))) none).run Tryz.prog W = .ok (.slice A1 many C1) W := fun W => by
    rw [← e1]
    exact slice_any_run ad _ cap _ _ _ _ W (by simp [Instr.sliceBounds, run_sliceBound_if, show many ≤ cap by omega])
  have r2 : ∀ W, (Instr.sliceAt 78 (.slice ad l.length cap) (some (.int .i64 (many : Int))) none none).run Tryz.prog W = .ok (.slice A2 (l.length - many) C2) W := fun W => by
    rw [← e2]
    exact slice_any_run ad _ cap _ _ _ _ W (by simp [Instr.sliceBounds, run_sliceBound_if, hm])
  have hp := (p1 w h).1
  obtain ⟨ad', cap', e', hb⟩ := hp.form
  have hlen : ((l.drop 0).take many).length = many := by simp; omega
  rw [hlen] at e' hb
  simp only [Value.slice.injEq] at e'
  obtain ⟨rfl, _, rfl⟩ := e'
  obtain ⟨b, o, rfl, hby⟩ := hb h0
  rw [List.drop_zero] at hby
  have P2 : Hid (Bc w (.slice A2 (l.length - many) C2) (l.drop many)) := Lib.hid (by have := p2 w h; rwa [List.take_of_length_le (by simp)] at this)
  have H : Hid (Byts w b o (l.take many)) := Lib.hid hby
  have HO := Lib.hid ho
  have R1 := Lib.hid r1
  clear e1 e2 p1 p2 hp hlen hb hby ho h r1
  go_enter Tryz.func140, Tryz.ntmps140
  go_wp2_with (refine wpList_slice_run rfl 78 _ _ _ rfl _ (R1.out _) ?_)
  go_loopw [6, 13] (fun v6 v13 wr => ∃ (k : Nat) (N : Int), k ≤ many ∧ v13 = .int .i64 (k : Int) ∧ v6 = .int .i64 N ∧ Hid (N = unB 0 (l.take k)) ∧ wr = w) (fun _ v13 _ => many - (RowKit.intOf v13).toNat)
  case atStart => exact ⟨0, 0, by omega, rfl, rfl, Lib.hid rfl, rfl⟩
  case round =>
    obtain ⟨k, N, hk, rfl, rfl, hN, rfl⟩ := hrel
    by_cases hp : k < many
    · have hkl : k < l.length := by omega
      have c0 := H.out k (by rw [List.length_take]; omega)
      rw [List.getElem_take] at c0
      have hx := HO.out.at k hkl
      have hn := unB_lt5 (l.take k) (HO.out.take k) (by rw [List.length_take]; omega)
      rw [← hN.out] at hn
      have hs := unB_step l k hkl
      rw [← hN.out] at hs
      generalize l[k] = x at c0 hx hs
      have hor := or_i64 N x hn.1 hn.2 hx.1 hx.2
      have HS := Lib.hid hs
      obtain ⟨n0, n1⟩ := hn
      obtain ⟨x0, x1⟩ := hx
      have hbl : b < wr.heap.size := World.block_lt_of_cell? wr _ c0
      clear hs hN
      go_wp2
      go_roundw
      case rel => exact ⟨k + 1, N * 256 + x, hp, by go_num, rfl, Lib.hid HS.out.symm, trivial⟩
      case measure => simp [RowKit.intOf]; omega
    · have hkk : k = many := by omega
      subst hkk
      go_wp2
      go_quiet (fail)
      go_wp2
      go_ret2
      exact ⟨A2, C2, by rw [← hN.out]; rfl, P2.out.below (below_drewN (Below.refl _ _) nq), below_drewN (Below.refl _ _) nq⟩
set_option maxHeartbeats 4000000 in
theorem takeu_c (l : List Int) (v : Value) (many : Nat) (w : World) (h : Bc w v l) (ho : OkB l) (hm : many ≤ l.length) (hm6 : many ≤ 8) (h0 : 0 < many) (hl : l.length ≤ 1000000) :
    Calls Tryz.prog 141 #[v, .int .i64 (many : Int)] w (takeT .u64 l many w) := by
  obtain ⟨ad, cap, rfl, hcap⟩ := h.2
  obtain ⟨A1, C1, e1, p1⟩ := h.piece 0 many (by omega) hm
  obtain ⟨A2, C2, e2, p2⟩ := h.piece many l.length hm (Nat.le_refl _)
  rw [Nat.sub_zero] at e1 p1
  have r1 : ∀ W, (Instr.sliceAt 78 (.slice ad l.length cap) none (some (.int .i64 (many : Int))) none).run Tryz.prog W = .ok (.slice A1 many C1) W := fun W => by
    rw [← e1]
    exact slice_any_run ad _ cap _ _ _ _ W (by simp [Instr.sliceBounds, run_sliceBound_if, show many ≤ cap by omega])
  have r2 : ∀ W, (Instr.sliceAt 78 (.slice ad l.length cap) (some (.int .i64 (many : Int))) none none).run Tryz.prog W = .ok (.slice A2 (l.length - many) C2) W := fun W => by
    rw [← e2]
    exact slice_any_run ad _ cap _ _ _ _ W (by simp [Instr.sliceBounds, run_sliceBound_if, hm])
  have hp := (p1 w h).1
  obtain ⟨ad', cap', e', hb⟩ := hp.form
  have hlen : ((l.drop 0).take many).length = many := by simp; omega
  rw [hlen] at e' hb
  simp only [Value.slice.injEq] at e'
  obtain ⟨rfl, _, rfl⟩ := e'
  obtain ⟨b, o, rfl, hby⟩ := hb h0
  rw [List.drop_zero] at hby
  have P2 : Hid (Bc w (.slice A2 (l.length - many) C2) (l.drop many)) := Lib.hid (by have := p2 w h; rwa [List.take_of_length_le (by simp)] at this)
  have H : Hid (Byts w b o (l.take many)) := Lib.hid hby
  have HO := Lib.hid ho
  have R1 := Lib.hid r1
  clear e1 e2 p1 p2 hp hlen hb hby ho h r1
  go_enter Tryz.func141, Tryz.ntmps141
  go_wp2_with (refine wpList_slice_run rfl 78 _ _ _ rfl _ (R1.out _) ?_)
  go_loopw [6, 13] (fun v6 v13 wr => ∃ (k : Nat) (N : Int), k ≤ many ∧ v13 = .int .i64 (k : Int) ∧ v6 = .int .u64 N ∧ Hid (N = unB 0 (l.take k)) ∧ wr = w) (fun _ v13 _ => many - (RowKit.intOf v13).toNat)
  case atStart => exact ⟨0, 0, by omega, rfl, rfl, Lib.hid rfl, rfl⟩
  case round =>
    obtain ⟨k, N, hk, rfl, rfl, hN, rfl⟩ := hrel
    by_cases hp : k < many
    · have hkl : k < l.length := by omega
      have c0 := H.out k (by rw [List.length_take]; omega)
      rw [List.getElem_take] at c0
      have hx := HO.out.at k hkl
      have hn := unB_lt7 (l.take k) (HO.out.take k) (by rw [List.length_take]; omega)
      rw [← hN.out] at hn
      have hs := unB_step l k hkl
      rw [← hN.out] at hs
      generalize l[k] = x at c0 hx hs
      have hor := or_u64 N x hn.1 hn.2 hx.1 hx.2
      have HS := Lib.hid hs
      obtain ⟨n0, n1⟩ := hn
      obtain ⟨x0, x1⟩ := hx
      have hbl : b < wr.heap.size := World.block_lt_of_cell? wr _ c0
      clear hs hN
      go_wp2
      go_roundw
      case rel => exact ⟨k + 1, N * 256 + x, hp, by go_num, rfl, Lib.hid HS.out.symm, trivial⟩
      case measure => simp [RowKit.intOf]; omega
    · have hkk : k = many := by omega
      subst hkk
      go_wp2
      go_quiet (fail)
      go_wp2
      go_ret2
      exact ⟨A2, C2, by rw [← hN.out]; rfl, P2.out.below (below_drewN (Below.refl _ _) nq), below_drewN (Below.refl _ _) nq⟩
end Go.Proofs.YtjmkphnppegegaaGreatDoor
/-
  length, first, by contract.
-/
namespace Go.Proofs.YtjmkphnppegegaaGreatDoor
open Go.RowKit Go.Lib
set_option maxRecDepth 100000
def kd (l : List Int) : Int := unB 0 ((l.drop 1).take 1)
def sz (l : List Int) : Nat := (unB 0 ((l.drop 2).take 2)).toNat
theorem fsT_short {l : List Int} (h : l.length < 4) : fsT l = none := by
  match l, h with
  | [], _ => rfl
  | [_], _ => rfl
  | [_, _], _ => rfl
  | [_, _, _], _ => rfl
theorem fsT_long {l : List Int} (h : 4 ≤ l.length) : fsT l = if unB 0 (l.take 1) = 71 ∧ 1 ≤ kd l ∧ sz l + 12 ≤ l.length ∧ unB 0 ((l.drop (4 + sz l)).take 8) = fnv 14695981039346656037 (l.take (4 + sz l)) then some (kd l, sz l) else none := by
  match l, h with
  | a :: k :: x :: m :: r, _ =>
    have e1 : kd (a :: k :: x :: m :: r) = k := by simp [kd, unB]
    have e2 : sz (a :: k :: x :: m :: r) = (x * 256 + m).toNat := by simp [sz, unB]
    have e3 : unB 0 ((a :: k :: x :: m :: r).take 1) = a := by simp [unB]
    rw [e1, e2, e3, fsT]
    generalize (x * 256 + m).toNat = n
    have e4 : (a :: k :: x :: m :: r).take (4 + n) = a :: k :: x :: m :: r.take n := by rw [Nat.add_comm]; rfl
    have e5 : (a :: k :: x :: m :: r).drop (4 + n) = r.drop n := by rw [Nat.add_comm]; rfl
    rw [e4, e5]
    have e6 : (n + 12 ≤ (a :: k :: x :: m :: r).length) ↔ (n + 8 ≤ r.length) := by simp
    simp only [e6]
theorem kd_bound {l : List Int} (h : 4 ≤ l.length) (ho : OkB l) : 0 ≤ kd l ∧ kd l < 256 := by
  match l, h with
  | a :: k :: x :: m :: r, _ =>
    have := ho k (by simp)
    simp [kd, unB]; omega
theorem sz_bound {l : List Int} (h : 4 ≤ l.length) (ho : OkB l) : unB 0 ((l.drop 2).take 2) = (sz l : Int) ∧ sz l < 65536 := by
  match l, h with
  | a :: k :: x :: m :: r, _ =>
    have := ho x (by simp)
    have := ho m (by simp)
    simp [sz, unB]; omega

theorem length_c (ad : Option Addr) (n cap : Nat) (w : World) (hn : n ≤ 1000000) :
    Calls Tryz.prog 97 #[.slice ad n cap] w fun e w' => e = .returned (.int .i64 ((n : Int) + 12)) ∧ w = w' := by
  go_enter Tryz.func97, Tryz.ntmps97
  go_wp2
  go_ret
  refine ⟨?_, rfl⟩
  show Ending.returned (.int .i64 (4 + (n : Int) + 8)) = _
  congr 2
  omega

/-- Take, somewhere in bytes. -/
theorem take_at (l : List Int) (A : Option Addr) (N C k m : Nat) (w : World) (h : Bc w (.slice A N C) (l.drop k)) (ho : OkB l) (hN : N + k = l.length) (hm : k + m ≤ l.length) (hm6 : m ≤ 6) (h0 : 0 < m) (hl : l.length ≤ 1000000) :
    Calls Tryz.prog 140 #[.slice A N C, .int .i64 (m : Int)] w fun e w' => ∃ A' N' C', e = .returned (.tuple #[.int .i64 (unB 0 ((l.drop k).take m)), .slice A' N' C']) ∧ Hid (N' + (k + m) = l.length) ∧ Hid (Bc w' (.slice A' N' C') (l.drop (k + m))) ∧ Hid (Below w.heap.size w w') := by
  refine (take_c (l.drop k) _ m w h (ho.drop k) (by rw [List.length_drop]; omega) hm6 h0 (by rw [List.length_drop]; omega)).mono ?_
  rintro e w' ⟨A', C', rfl, h1, h2⟩
  rw [List.drop_drop] at h1
  exact ⟨A', _, C', rfl, Lib.hid (by rw [List.length_drop]; omega), Lib.hid h1, Lib.hid h2⟩

theorem takeu_at (l : List Int) (A : Option Addr) (N C k : Nat) (w : World) (h : Bc w (.slice A N C) (l.drop k)) (ho : OkB l) (hm : k + 8 ≤ l.length) (hl : l.length ≤ 1000000) :
    Calls Tryz.prog 141 #[.slice A N C, .int .i64 8] w fun e w' => ∃ A' N' C', e = .returned (.tuple #[.int .u64 (unB 0 ((l.drop k).take 8)), .slice A' N' C']) ∧ Hid (Below w.heap.size w w') := by
  refine (takeu_c (l.drop k) _ 8 w h (ho.drop k) (by rw [List.length_drop]; omega) (by omega) (by omega) (by rw [List.length_drop]; omega)).mono ?_
  rintro e w' ⟨A', C', rfl, h1, h2⟩
  exact ⟨A', _, C', rfl, Lib.hid h2⟩

def firstT (l : List Int) (w : World) (e : Ending) (w' : World) : Prop :=
  (match fsT l with
  | none => e = .returned (.tuple #[.int .i64 0, .slice none 0 0, .bool false])
  | some (k, n) => ∃ A C, e = .returned (.tuple #[.int .i64 k, .slice A n C, .bool true]) ∧ Bc w' (.slice A n C) ((l.drop 4).take n)) ∧ Below w.heap.size w w'

theorem firstT_no {l : List Int} {w w' : World} (h : fsT l = none) (hb : Below w.heap.size w w') : firstT l w (.returned (.tuple #[.int .i64 0, .slice none 0 0, .bool false])) w' := by
  unfold firstT
  rw [h]
  exact ⟨rfl, hb⟩
theorem firstT_yes {l : List Int} {w w' : World} {k : Int} {n : Nat} {A : Option Addr} {C : Nat} (h : fsT l = some (k, n)) (hc : Bc w' (.slice A n C) ((l.drop 4).take n)) (hb : Below w.heap.size w w') : firstT l w (.returned (.tuple #[.int .i64 k, .slice A n C, .bool true])) w' := by
  unfold firstT
  rw [h]
  exact ⟨⟨A, C, rfl, hc⟩, hb⟩

set_option maxHeartbeats 8000000 in
theorem first_c (l : List Int) (v : Value) (w : World) (h : Bc w v l) (ho : OkB l) (hl : l.length ≤ 1000000) :
    Calls Tryz.prog 113 #[v] w (firstT l w) := by
  obtain ⟨ad, cap, rfl, hcap⟩ := h.2
  by_cases h4 : l.length < 4
  · have HF := Lib.hid (fsT_short h4)
    have e0 : decide ((l.length : Int) < 4) = true := by simp; omega
    go_enter Tryz.func113, Tryz.ntmps113
    go_wp2
    go_ret3
    exact firstT_no HF.out (Below.refl _ _)
  · have h4' : 4 ≤ l.length := by omega
    have e0 : decide ((l.length : Int) < 4) = false := by simp; omega
    obtain ⟨hs1, hs2⟩ := sz_bound h4' ho
    obtain ⟨hk1, hk2⟩ := kd_bound h4' ho
    have HT1 := Lib.hid (fun W (hW : Bc W (.slice ad l.length cap) (l.drop 0)) => take_at l ad l.length cap 0 1 W hW ho (by omega) (by omega) (by omega) (by omega) hl)
    have HT2 := Lib.hid (fun W A N C (hW : Bc W (.slice A N C) (l.drop 1)) (hN : N + 1 = l.length) => take_at l A N C 1 1 W hW ho hN (by omega) (by omega) (by omega) hl)
    have HT3 := Lib.hid (fun W A N C (hW : Bc W (.slice A N C) (l.drop 2)) (hN : N + 2 = l.length) => take_at l A N C 2 2 W hW ho hN (by omega) (by omega) (by omega) hl)
    have HF := Lib.hid (fsT_long h4')
    have H := Lib.hid h
    have HO := Lib.hid ho
    rw [List.drop_zero] at HT1
    rw [hs1] at HT3
    have HK : unB 0 ((l.drop 1).take 1) = kd l := rfl
    rw [HK] at HT2
    generalize unB 0 (l.take 1) = a0 at HT1 HF
    generalize kd l = k0 at HT2 HF hk1 hk2
    generalize sz l = n0 at HT3 HF hs2
    clear hs1 HK h ho
    go_enter Tryz.func113, Tryz.ntmps113
    go_wp2_with fail
    refine (HT1.out w H.out).mono ?_
    rintro e w1 ⟨A1, N1, C1, rfl, hN1, P1, B1⟩
    clear HT1
    go_wp2_with fail
    refine (HT2.out w1 A1 N1 C1 P1.out hN1.out).mono ?_
    rintro e w2 ⟨A2, N2, C2, rfl, hN2, P2, B2⟩
    clear HT2
    go_wp2_with fail
    refine (HT3.out w2 A2 N2 C2 P2.out hN2.out).mono ?_
    rintro e w3 ⟨A3, N3, C3, rfl, hN3, P3, B3⟩
    have HB3 : Hid (Below w.heap.size w w3) := Lib.hid (bn (bn B1.out B2.out) B3.out)
    clear HT3 P1 P2 B1 B2 B3 hN1 hN2
    by_cases c1 : a0 = 71
    · subst c1
      by_cases c2 : 1 ≤ k0
      · have f2 : decide (k0 < 1) = false := by simp; omega
        by_cases c3 : n0 + 8 ≤ N3
        · have f3 : decide ((N3 : Int) < (n0 : Int) + 8) = false := by simp; omega
          have hN3' := hN3.out
          have hcap3 : N3 ≤ C3 := by
            obtain ⟨_, a, c, e, hc⟩ := P3.out
            simp only [Value.slice.injEq] at e
            obtain ⟨_, e2, rfl⟩ := e
            omega
          have hl4 : (l.drop (2 + 2)).length = N3 := by rw [List.length_drop]; omega
          obtain ⟨A4, C4, e4, p4⟩ := P3.out.piece n0 N3 (by omega) (by omega)
          obtain ⟨A5, C5, e5, p5⟩ := H.out.piece 0 (4 + n0) (by omega) (by omega)
          obtain ⟨A6, C6, e6, p6⟩ := P3.out.piece 0 n0 (by omega) (by omega)
          have q4 : Bc w3 (.slice A4 (N3 - n0) C4) (l.drop (4 + n0)) := by
            have := p4 w3 P3.out
            rwa [List.drop_drop, List.take_of_length_le (by rw [List.length_drop]; omega)] at this
          have q5 : ∀ W, Bc W (.slice ad l.length cap) l → Bc W (.slice A5 (4 + n0) C5) (l.take (4 + n0)) := fun W hW => by
            have := p5 W hW
            rwa [List.drop_zero] at this
          have q6 : ∀ W, Bc W (.slice A3 N3 C3) (l.drop (2 + 2)) → Bc W (.slice A6 n0 C6) ((l.drop 4).take n0) := fun W hW => by
            have := p6 W hW
            rwa [List.drop_zero] at this
          have r4 : ∀ W, (Instr.sliceAt 78 (.slice A3 N3 C3) (some (.int .i64 (n0 : Int))) none none).run Tryz.prog W = .ok (.slice A4 (N3 - n0) C4) W := fun W => by
            rw [← e4]
            exact slice_any_run A3 _ C3 _ _ _ _ W (by simp [Instr.sliceBounds, run_sliceBound_if, show n0 ≤ N3 by omega])
          have r5 : ∀ W, (Instr.sliceAt 78 (.slice ad l.length cap) none (some (.int .i64 (4 + (n0 : Int)))) none).run Tryz.prog W = .ok (.slice A5 (4 + n0) C5) W := fun W => by
            obtain ⟨N, hN, hN2⟩ : ∃ N : Nat, 4 + n0 = N ∧ (4 + (n0 : Int)) = (N : Int) := ⟨_, rfl, by omega⟩
            rw [hN2, show (.slice A5 (4 + n0) C5 : Value) = .slice A5 (4 + n0 - 0) C5 from rfl, ← e5, hN]
            exact slice_any_run ad _ cap _ _ _ _ W (by simp [Instr.sliceBounds, run_sliceBound_if, show N ≤ cap by omega])
          have r6 : ∀ W, (Instr.sliceAt 78 (.slice A3 N3 C3) none (some (.int .i64 (n0 : Int))) none).run Tryz.prog W = .ok (.slice A6 n0 C6) W := fun W => by
            rw [show (.slice A6 n0 C6 : Value) = .slice A6 (n0 - 0) C6 from rfl, ← e6]
            exact slice_any_run A3 _ C3 _ _ _ _ W (by simp [Instr.sliceBounds, run_sliceBound_if, show n0 ≤ C3 by omega])
          obtain ⟨N4, hN4⟩ : ∃ N4, N3 - n0 = N4 := ⟨_, rfl⟩
          obtain ⟨N5, hN5⟩ : ∃ N5, 4 + n0 = N5 := ⟨_, rfl⟩
          rw [hN4] at q4 r4
          have HQ5 := Lib.hid q5
          have HQ6 := Lib.hid q6
          have HTU := Lib.hid (takeu_at l A4 N4 C4 (4 + n0) w3 q4 HO.out (by omega) hl)
          have hc3 : n0 + 12 ≤ l.length := by omega
          rw [hN5] at r5 HQ5 HTU
          have HOF : Hid (∀ W, Bc W (.slice ad l.length cap) l → Calls Tryz.prog 100 #[.slice (some ⟨W.heap.size, 0, none⟩) 1 1] (W.alloc (.cells #[.slice A5 N5 C5] 78)) fun e w' => e = .returned (.int .u64 (fnv 14695981039346656037 (l.take N5))) ∧ W.alloc (.cells #[.slice A5 N5 C5] 78) = w') := Lib.hid (fun W hW => by
            have h := of_c [l.take N5] _ _ (pl_one_at (T := 78) (cap := 1) (w := W) (g := W.heap.size) rfl (HQ5.out W hW).1) (by simp) (by simp; omega)
            exact h)
          rw [hN5] at HF
          generalize unB 0 ((l.drop N5).take 8) = S at HTU HF
          generalize fnv 14695981039346656037 (l.take N5) = D at HOF HF
          have R4 := Lib.hid r4
          have R5 := Lib.hid r5
          clear hl4 e4 e5 e6 p4 p5 p6 q4 q5 q6 r4 r5 hN4 hN5 hN3' HQ5 hN3 hcap3
          go_wp2_with (refine wpList_slice_run rfl 78 _ _ _ rfl _ (R4.out _) ?_)
          refine HTU.out.mono ?_
          rintro e w4 ⟨A7, N7, C7, rfl, B4⟩
          have HB4 : Hid (Below w.heap.size w w4) := Lib.hid (bn HB3.out B4.out)
          have P4 := Lib.hid (P3.out.below B4.out)
          clear B4 HTU HB3 P3
          go_wp2_with (refine wpList_slice_run rfl 78 _ _ _ rfl _ (R5.out _) ?_)
          refine (HOF.out w4 (H.out.below HB4.out)).mono ?_
          rintro e w5 ⟨rfl, rfl⟩
          have HB5 : Hid (Below w.heap.size w (w4.alloc (.cells #[.slice A5 N5 C5] 78))) := Lib.hid (HB4.out.alloc HB4.out.size _)
          have P5 := Lib.hid (HQ6.out _ (P4.out.below (alloc_below _ (.cells #[.slice A5 N5 C5] 78))))
          clear HB4 P4 HOF R4 R5
          generalize w4.alloc (.cells #[.slice A5 N5 C5] 78) = W5 at HB5 P5 ⊢
          by_cases c4 : S = D
          · have f4 : (S != D) = false := by simpa using c4
            have HF2 := Lib.hid (HF.out.trans (if_pos ⟨trivial, c2, hc3, c4⟩))
            clear c4 HF
            go_wp2
            go_quiet (fail)
            go_wp2
            go_ret3
            exact firstT_yes HF2.out (P5.out.below (below_drewN (Below.refl _ _) nq)) (below_drewN HB5.out nq)
          · have f4 : (S != D) = true := by simpa using c4
            have HF2 := Lib.hid (HF.out.trans (if_neg (fun h => c4 h.2.2.2)))
            go_wp2
            go_ret3
            exact firstT_no HF2.out HB5.out
        · have f3 : decide ((N3 : Int) < (n0 : Int) + 8) = true := by simp; omega
          have HF2 := Lib.hid (HF.out.trans (if_neg (by have := hN3.out; omega)))
          go_wp2
          go_ret3
          exact firstT_no HF2.out HB3.out
      · have f2 : decide (k0 < 1) = true := by simp; omega
        have HF2 := Lib.hid (HF.out.trans (if_neg (by omega)))
        go_wp2
        go_ret3
        exact firstT_no HF2.out HB3.out
    · have f1 : (a0 != 71) = true := by simpa using c1
      have HF2 := Lib.hid (HF.out.trans (if_neg (by omega)))
      go_wp2
      go_ret3
      exact firstT_no HF2.out HB3.out
end Go.Proofs.YtjmkphnppegegaaGreatDoor
/-
  Clone, Next, Count, by contract.
-/
namespace Go.Proofs.YtjmkphnppegegaaGreatDoor
open Go.RowKit Go.Lib
set_option maxRecDepth 100000
theorem results_tmp4 {fn : Func} {t u v x : Tmp} (h : fn.results = #[.tmp t, .tmp u, .tmp v, .tmp x]) (tmps : Array Value) (P : Program) (w : World) :
    (results fn tmps).run P w = .ok (.tuple #[tmps.getD t undef, tmps.getD u undef, tmps.getD v undef, tmps.getD x undef]) w := by
  simp [results, h]
theorem brow_empty (w : World) : (w.alloc (.cells #[] 5)).ownsRow w.heap.size 5 1 (.slice (some ⟨w.heap.size, 0, none⟩) 0 0) 0 [] :=
  ⟨rfl, .inr ⟨w.heap.size, 0, #[], rfl, Nat.le_refl _, heap_alloc_new w _, Nat.le_refl _, Nat.zero_le _, rfl, rfl⟩⟩

set_option maxHeartbeats 4000000 in
theorem clone_c (l : List Int) (v : Value) (w : World) (h : Bl w v l) (hn : l.length ≤ 1000000) : Calls Tryz.prog 68 #[v] w (rowB w.heap.size l w) := by
  rcases h with ⟨rfl, rfl⟩ | ⟨ad, cap, rfl, h⟩
  · have hq := fun W => Lib.run_eql_slice_nil (P := Tryz.prog) W 78 5 none 0 0 0 0 Tryz.underlying78
    go_enter Tryz.func68, Tryz.ntmps68
    go_wp2
    go_ret
    exact ⟨_, rfl, BRow.nil _ _, Below.refl _ _⟩
  · obtain ⟨i0, hi, hz0, hz1, hz2⟩ := info_parts byteInfo
    have HN : Hid (∀ i u, (bys l)[i]? = some u → (w.alloc (.cells #[] 5)).cell? (ad.add i) = some u) := Lib.hid (fun i u hu => by
      have h1 := Bl.news h i u hu
      exact (((Below.refl _ w).alloc (Nat.le_refl _) (.cells #[] 5)).cell (World.block_lt_of_cell? w _ h1)).trans h1)
    have HO := Lib.hid (brow_empty w)
    have hq := fun W => Lib.run_eql_slice_nil (P := Tryz.prog) W 78 5 (some ad) l.length cap 0 0 Tryz.underlying78
    clear h
    go_enter Tryz.func68, Tryz.ntmps68
    go_wp2_with (at_builtin; refine wpList_append_own _ rfl _ _ 78 rfl w.heap.size 5 i0 (.int .u8 0) 1 1 Tryz.underlying78 hi hz0 hz1 hz2 rfl (by decide) _ _ _ rfl HO.out ad l.length cap (bys l) rfl (by rw [bys_len, Nat.mul_one]) (by exact HN.out) (bys_one l) (by unfold maxLen; omega) (by omega) (by simp) ?_; intro v' w3 hown3 hgrow3 hnil3)
    go_ret
    refine ⟨_, rfl, by rw [Nat.zero_add, List.nil_append] at hown3; exact hown3, ?_⟩
    exact ((Below.refl _ w).alloc (Nat.le_refl _) _).trans (below_of_grown hgrow3 (by simp) (by intro g hg; cases hg; exact Nat.le_refl _))

theorem fsT_len {l : List Int} {k : Int} {n : Nat} (h : fsT l = some (k, n)) : n + 12 ≤ l.length ∧ 1 ≤ k := by
  by_cases h4 : l.length < 4
  · rw [fsT_short h4] at h; cases h
  · rw [fsT_long (by omega)] at h
    split at h
    · rename_i hh
      simp only [Option.some.injEq, Prod.mk.injEq] at h
      obtain ⟨rfl, rfl⟩ := h
      exact ⟨hh.2.2.1, hh.2.1⟩
    · cases h

/-- What frame begins at that place? -/
def nxT (l : List Int) (a : Int) : Option (Int × Nat) := if 0 ≤ a ∧ a ≤ (l.length : Int) then fsT (l.drop a.toNat) else none
def nxK : Option (Int × Nat) → Int
  | none => 0
  | some (k, _) => k
def nxE (a : Int) : Option (Int × Nat) → Int
  | none => 0
  | some (_, n) => a + ((n : Int) + 12)
def nxL (l : List Int) (a : Int) : Option (Int × Nat) → List Int
  | none => []
  | some (_, n) => ((l.drop a.toNat).drop 4).take n
def nextT (l : List Int) (a : Int) (w : World) (e : Ending) (w' : World) : Prop :=
  ∃ v, e = .returned (.tuple #[.int .i64 (nxK (nxT l a)), v, .int .i64 (nxE a (nxT l a)), .bool (nxT l a).isSome]) ∧ BRow w' w.heap.size v (nxL l a (nxT l a)) ∧ Below w.heap.size w w'
theorem nextT_no {l : List Int} {a : Int} {w w' : World} (h : nxT l a = none) (hb : Below w.heap.size w w') : nextT l a w (.returned (.tuple #[.int .i64 0, .slice none 0 0, .int .i64 0, .bool false])) w' := by
  unfold nextT
  rw [h]
  exact ⟨_, rfl, BRow.nil _ _, hb⟩
theorem nextT_yes {l : List Int} {a : Int} {w w' : World} {k : Int} {n : Nat} {v : Value} (h : nxT l a = some (k, n)) (hv : BRow w' w.heap.size v (((l.drop a.toNat).drop 4).take n)) (hb : Below w.heap.size w w') : nextT l a w (.returned (.tuple #[.int .i64 k, v, .int .i64 (a + ((n : Int) + 12)), .bool true])) w' := by
  unfold nextT
  rw [h]
  exact ⟨v, rfl, hv, hb⟩

set_option maxHeartbeats 8000000 in
theorem next_c (l : List Int) (v : Value) (a : Int) (w : World) (h : Bc w v l) (ho : OkB l) (hl : l.length ≤ 1000000) :
    Calls Tryz.prog 90 #[v, .int .i64 a] w (nextT l a w) := by
  obtain ⟨ad, cap, rfl, hcap⟩ := h.2
  by_cases h0 : 0 ≤ a
  · have e0 : decide (a < 0) = false := by simpa using h0
    by_cases h1 : a ≤ (l.length : Int)
    · obtain ⟨a, rfl⟩ := Int.eq_ofNat_of_zero_le h0
      have e1 : decide ((l.length : Int) < (a : Int)) = false := by simpa using h1
      have e2 : decide (l.length < a) = false := by simpa using h1
      have hal : a ≤ l.length := by omega
      obtain ⟨A1, C1, ep, p1⟩ := h.piece a l.length hal (Nat.le_refl _)
      have q1 : Bc w (.slice A1 (l.length - a) C1) (l.drop a) := by
        have := p1 w h
        rwa [List.take_of_length_le (by rw [List.length_drop]; omega)] at this
      have r1 : ∀ W, (Instr.sliceAt 78 (.slice ad l.length cap) (some (.int .i64 (a : Int))) none none).run Tryz.prog W = .ok (.slice A1 (l.length - a) C1) W := fun W => by
        rw [← ep]
        exact slice_any_run ad _ cap _ _ _ _ W (by simp [Instr.sliceBounds, run_sliceBound_if, hal])
      obtain ⟨N1, hN1⟩ : ∃ N1, l.length - a = N1 := ⟨_, rfl⟩
      rw [hN1] at q1 r1
      have HN1 := Lib.hid hN1
      have R1 := Lib.hid r1
      have HC := Lib.hid (first_c (l.drop a) _ w q1 (ho.drop a) (by rw [List.length_drop]; omega))
      have HX : Hid (nxT l (a : Int) = fsT (l.drop a)) := Lib.hid (by unfold nxT; rw [if_pos ⟨by omega, h1⟩, Int.toNat_natCast])
      clear ep p1 q1 r1 hN1 h ho
      cases hf : fsT (l.drop a) with
      | none =>
        rw [hf] at HX
        have HF := Lib.hid hf
        clear hf
        go_enter Tryz.func90, Tryz.ntmps90
        go_wp2_with (refine wpList_slice_run rfl 78 _ _ _ rfl _ (R1.out _) ?_)
        refine HC.out.mono ?_
        rintro e w1 hT
        unfold firstT at hT
        rw [HF.out] at hT
        obtain ⟨rfl, b1⟩ := hT
        go_wp2
        refine bodyPost_ret (results_tmp4 rfl _ _ _) rfl ?_
        exact nextT_no HX.out b1
      | some p =>
        obtain ⟨k, n⟩ := p
        rw [hf] at HX
        have hnl := (fsT_len hf).1
        rw [List.length_drop] at hnl
        have HF := Lib.hid hf
        clear hf
        go_enter Tryz.func90, Tryz.ntmps90
        go_wp2_with (refine wpList_slice_run rfl 78 _ _ _ rfl _ (R1.out _) ?_)
        refine HC.out.mono ?_
        rintro e w1 hT
        unfold firstT at hT
        rw [HF.out] at hT
        obtain ⟨⟨A2, C2, rfl, q2⟩, b1⟩ := hT
        have HL2 : Hid ((((l.drop a).drop 4).take n).length = n) := Lib.hid (by simp; omega)
        have HCL := Lib.hid (clone_c _ _ w1 q2.1 (by rw [HL2.out]; omega))
        have HB1 := Lib.hid b1
        clear q2 b1 HC R1
        go_wp2_with fail
        refine HCL.out.mono ?_
        rintro e w2 ⟨v2, rfl, h2, b2⟩
        have HB2 : Hid (Below w.heap.size w w2) := Lib.hid (bn HB1.out b2)
        have H2 := Lib.hid (h2.mono HB1.out.size)
        clear h2 b2 HB1 HCL
        go_wp2_with fail
        refine (length_c A2 n C2 w2 (by omega)).mono ?_
        rintro e w3 ⟨rfl, rfl⟩
        go_wp2
        refine bodyPost_ret (results_tmp4 rfl _ _ _) rfl ?_
        exact nextT_yes HX.out (by rw [Int.toNat_natCast]; exact H2.out) HB2.out
    · have e1 : decide ((l.length : Int) < a) = true := by simp; omega
      have HX := Lib.hid (show nxT l a = none by unfold nxT; rw [if_neg (fun hh => h1 hh.2)])
      go_enter Tryz.func90, Tryz.ntmps90
      go_wp2
      refine bodyPost_ret (results_tmp4 rfl _ _ _) rfl ?_
      exact nextT_no HX.out (Below.refl _ _)
  · have e0 : decide (a < 0) = true := by simp; omega
    have HX := Lib.hid (show nxT l a = none by unfold nxT; rw [if_neg (fun hh => h0 hh.1)])
    go_enter Tryz.func90, Tryz.ntmps90
    go_wp2
    refine bodyPost_ret (results_tmp4 rfl _ _ _) rfl ?_
    exact nextT_no HX.out (Below.refl _ _)
end Go.Proofs.YtjmkphnppegegaaGreatDoor
/-
  Lay, and chapter 6's own Lay, by contract.
-/
namespace Go.Proofs.YtjmkphnppegegaaGreatDoor
open Go.RowKit Go.Lib
set_option maxRecDepth 100000
theorem bapp_run (l m : List Int) (v u : Value) (w : World) (ty : TypeId) (B : Nat) (h : BRow w B v l) (hu : Bl w u m) (hn : l.length + m.length ≤ 1000000) (hB : B ≤ w.heap.size) :
    ∃ A N C w1, (Builtin.append_ #[78, 78] ty #[v, u]).run Tryz.prog w = .ok (.slice A N C) w1 ∧ BRow w1 B (.slice A N C) (l ++ m) ∧ Below B w w1 := by
  rcases hu with ⟨rfl, rfl⟩ | ⟨ad, cap, rfl, hu⟩
  · obtain ⟨a, c, rfl, hc⟩ := h.bc.2
    have hc' : ¬ c < l.length := by omega
    refine ⟨a, _, c, w, ?_, by rw [List.append_nil]; exact h, Below.refl _ _⟩
    cases a <;> simp [hc', Builtin.append_, go_sem, run_underlying Tryz.underlying78]
  · obtain ⟨i0, hi, hz0, hz1, hz2⟩ := info_parts byteInfo
    obtain ⟨v', w', h1, h2, h3, _, _⟩ := run_append_own_at (P := Tryz.prog) w B 78 ty 5 i0 (.int .u8 0) 1 1 Tryz.underlying78 hi hz0 hz1 hz2 rfl (by decide) v l.length (bys l) h ad m.length cap (bys m) (by rw [bys_len, Nat.mul_one]) (Bl.news hu) (bys_one m) (by unfold maxLen; omega) (by omega) hB
    have hr : BRow w' B v' (l ++ m) := by
      unfold BRow
      rw [List.length_append, show bys (l ++ m) = bys l ++ bys m by simp [bys]]
      exact h2
    obtain ⟨a, c, rfl, _⟩ := hr.nl.form
    exact ⟨a, _, c, w', h1, hr, below_of_grown h3 hB (fun g hg => (World.ownsRow.lt h g hg).1)⟩

def hdF (k : Int) (b : List Int) : List Int := ((numB 71 1 ++ numB k 1) ++ numB (b.length : Int) 2) ++ b
def layF (k : Int) (b : List Int) : List Int := hdF k b ++ numB (fnv 14695981039346656037 (hdF k b)) 8
def okF (k : Int) (b : List Int) : Bool := decide (1 ≤ k) && (decide (k ≤ 255) && decide (b.length ≤ 65535))
theorem hdF_len (k : Int) (b : List Int) : (hdF k b).length = b.length + 4 := by simp [hdF, numB_len]; omega
theorem layF_len (k : Int) (b : List Int) : (layF k b).length = b.length + 12 := by simp [layF, hdF_len, numB_len]
def layT (k : Int) (b : List Int) (w : World) (e : Ending) (w' : World) : Prop :=
  ∃ A N C, e = .returned (.tuple #[.slice A N C, .int .i64 (if okF k b then 0 else 2)]) ∧ BRow w' w.heap.size (.slice A N C) (if okF k b then layF k b else []) ∧ Below w.heap.size w w'
theorem layT_no {k : Int} {b : List Int} {w w' : World} (h : okF k b = false) (hb : Below w.heap.size w w') : layT k b w (.returned (.tuple #[.slice none 0 0, .int .i64 2])) w' := by
  unfold layT
  rw [h]
  exact ⟨_, _, _, rfl, BRow.nil _ _, hb⟩
theorem layT_yes {k : Int} {b : List Int} {w w' : World} {v : Value} (h : okF k b = true) (hv : BRow w' w.heap.size v (layF k b)) (hb : Below w.heap.size w w') : layT k b w (.returned (.tuple #[v, .int .i64 0])) w' := by
  unfold layT
  rw [h]
  obtain ⟨a, c, rfl, _⟩ := hv.nl.form
  exact ⟨_, _, _, rfl, hv, hb⟩

set_option maxHeartbeats 8000000 in
theorem lay_c (k : Int) (b : List Int) (u : Value) (w : World) (hu : Bl w u b) (hl : b.length ≤ maxLen) :
    Calls Tryz.prog 77 #[.int .i64 k, u] w (layT k b w) := by
  have HU := Lib.hid hu
  obtain ⟨ad, cap, rfl, _⟩ := hu.form
  unfold maxLen at hl
  clear hu
  by_cases h1 : 1 ≤ k
  · have e1 : decide (k < 1) = false := by simp; omega
    by_cases h2 : k ≤ 255
    · have e2 : decide (255 < k) = false := by simp; omega
      by_cases h3 : b.length ≤ 65535
      · have e3 : decide ((65535 : Int) < (b.length : Int)) = false := by simp; omega
        have e4 : decide (65535 < b.length) = false := by simp; omega
        have HX := Lib.hid (show okF k b = true by simp [okF]; omega)
        obtain ⟨i0, hi, hz0, hz1, hz2⟩ := info_parts byteInfo
        have HI := Lib.hid hi
        have HZ0 := Lib.hid hz0
        have HZ1 := Lib.hid hz1
        have hb8 : i0.bytes * (b.length + 12) ≤ 281474976710656 := by rw [hz2]; omega
        clear hi hz0 hz1 hz2
        go_enter Tryz.func77, Tryz.ntmps77
        go_wp2_with fail
        refine (length_c ad b.length cap w (by omega)).mono ?_
        rintro e w0 ⟨rfl, rfl⟩
        go_wp2_with (refine wpList_make_own _ rfl _ _ 78 rfl w.heap.size 5 i0 (.int .u8 0) 1 Tryz.underlying78 HI.out HZ0.out HZ1.out .i64 .i64 _ (b.length + 12) rfl rfl (by omega) hb8 (by unfold maxLen; omega) (by simp) ?_; intro w1 hown1 hgr1)
        have HB1 : Hid (Below w.heap.size w w1) := Lib.hid (below_of_grown hgr1 (Nat.le_refl _) (by intro g hg; cases hg))
        have HO1 : Hid (BRow w1 w.heap.size (.slice (some ⟨w.heap.size, 0, none⟩) 0 (b.length + 12)) []) := Lib.hid (by simpa [BRow, bys] using hown1)
        clear hown1 hgr1
        refine (put_c [] _ 71 1 w1 w.heap.size HO1.out (by decide) (by simp) HB1.out.size).mono ?_
        rintro e w2 ⟨v2, rfl, h2', b2⟩
        have HB2 : Hid (Below w.heap.size w w2) := Lib.hid (HB1.out.trans b2)
        have H2 := Lib.hid h2'
        clear h2' b2 HB1 HO1
        go_wp2_with fail
        refine (put_c _ _ k 1 w2 w.heap.size H2.out (by decide) (by simp [numB_len]) HB2.out.size).mono ?_
        rintro e w3 ⟨v3, rfl, h3', b3⟩
        have HB3 : Hid (Below w.heap.size w w3) := Lib.hid (HB2.out.trans b3)
        have H3 := Lib.hid h3'
        clear h3' b3 HB2 H2
        go_wp2_with fail
        refine (put_c _ _ (b.length : Int) 2 w3 w.heap.size H3.out (by decide) (by simp [numB_len]) HB3.out.size).mono ?_
        rintro e w4 ⟨v4, rfl, h4', b4⟩
        have HB4 : Hid (Below w.heap.size w w4) := Lib.hid (HB3.out.trans b4)
        have H4 := Lib.hid h4'
        clear h4' b4 HB3 H3
        obtain ⟨A5, N5, C5, w5, happ, h5, b5⟩ := bapp_run _ b v4 (.slice ad b.length cap) w4 78 w.heap.size H4.out (HU.out.below HB4.out) (by simp [numB_len]; omega) HB4.out.size
        have HB5 : Hid (Below w.heap.size w w5) := Lib.hid (HB4.out.trans b5)
        have H5 : Hid (BRow w5 w.heap.size (.slice A5 N5 C5) (hdF k b)) := Lib.hid (by simpa [hdF] using h5)
        have HAPP := Lib.hid happ
        clear happ h5 b5 H4
        go_wp2_with (at_builtin; refine wpList_append_run rfl _ _ 78 rfl _ _ HAPP.out ?_)
        have HB6 : Hid (Below w.heap.size w (w5.alloc (.cells #[.slice A5 N5 C5] 78))) := Lib.hid (HB5.out.alloc HB5.out.size _)
        have H6 := Lib.hid (H5.out.below (alloc_below w5 (.cells #[.slice A5 N5 C5] 78)))
        have HOF := Lib.hid (of_c [hdF k b] _ _ (pl_one_at (T := 78) (cap := 1) (w := w5) (g := w5.heap.size) rfl H5.out.nl) (by simp) (by simp [hdF_len]; omega))
        clear HAPP HB4 HB5 H5
        refine HOF.out.mono ?_
        rintro e w6 ⟨rfl, rfl⟩
        clear HOF
        go_wp2_with fail
        refine (putu_c _ _ (fnvs 14695981039346656037 [hdF k b]) 8 _ w.heap.size H6.out (by decide) (by rw [hdF_len]; omega) HB6.out.size).mono ?_
        rintro e w7 ⟨v7, rfl, h7, b7⟩
        go_wp2
        go_ret2
        exact layT_yes HX.out h7 (HB6.out.trans b7)
      · have e3 : decide ((65535 : Int) < (b.length : Int)) = true := by simp; omega
        have e4 : decide (65535 < b.length) = true := by simp; omega
        have HX := Lib.hid (show okF k b = false by simp [okF]; omega)
        go_enter Tryz.func77, Tryz.ntmps77
        go_wp2
        go_ret2
        exact layT_no HX.out (Below.refl _ _)
    · have e2 : decide (255 < k) = true := by simp; omega
      have HX := Lib.hid (show okF k b = false by simp [okF]; omega)
      go_enter Tryz.func77, Tryz.ntmps77
      go_wp2
      go_ret2
      exact layT_no HX.out (Below.refl _ _)
  · have e1 : decide (k < 1) = true := by simp; omega
    have HX := Lib.hid (show okF k b = false by simp [okF]; omega)
    go_enter Tryz.func77, Tryz.ntmps77
    go_wp2
    go_ret2
    exact layT_no HX.out (Below.refl _ _)
end Go.Proofs.YtjmkphnppegegaaGreatDoor
/-
  Chapter 6's own Lay, by contract.
-/
namespace Go.Proofs.YtjmkphnppegegaaGreatDoor
open Go.RowKit Go.Lib
set_option maxRecDepth 100000
theorem brow_two (w : World) (x y : Int) : BRow (w.alloc (.cells #[.int .u8 x, .int .u8 y] 5)) w.heap.size (.slice (some ⟨w.heap.size, 0, none⟩) 2 2) [x, y] :=
  ⟨rfl, .inr ⟨w.heap.size, 2, _, rfl, Nat.le_refl _, heap_alloc_new w _, Nat.le_refl _, by unfold maxLen; omega, rfl, rfl⟩⟩
theorem hd_two (k : Int) (h1 : 1 ≤ k) (h2 : k ≤ 255) : numB 71 1 ++ numB k 1 = [71, k] := by
  simp [numB]; omega
end Go.Proofs.YtjmkphnppegegaaGreatDoor
/-
  Chapter 4's own Get, by contract; bytes as texts.
-/
namespace Go.Proofs.YtjmkphnppegegaaGreatDoor
open Go.RowKit Go.Lib
set_option maxRecDepth 100000
def getT (n : Int) (b : Bool) (w : World) (e : Ending) (w' : World) : Prop := e = .returned (.tuple #[.int .i64 n, .bool b]) ∧ Below w.heap.size w w'

/-- Bytes, as a text. -/
theorem conv_run {W : World} {A : Option Addr} {N C : Nat} {l : List Int} (h : Bl W (.slice A N C) l) (h0 : 0 < l.length) : (convert 78 9 (.slice A N C)).run Tryz.prog W = .ok (.string (strOfNums l)) W := by
  rcases h with ⟨e, rfl⟩ | ⟨ad, cap, e, h⟩
  · simp at h0
  · simp only [Value.slice.injEq] at e
    obtain ⟨rfl, rfl, rfl⟩ := e
    obtain ⟨b, o, rfl, hs⟩ := h h0
    exact run_convert_bytes_arg (P := Tryz.prog) W 78 5 Tryz.underlying78 Tryz.underlying5 b o l.length C l rfl (fun i hi => by
      rw [hs i hi, List.getD_eq_getElem?_getD, List.getElem?_eq_getElem hi]; rfl) 9 Tryz.underlying9
theorem conv_run2 {W : World} {A : Option Addr} {N C : Nat} {l : List Int} (h : Bl W (.slice A N C) l) (h0 : 0 < l.length) : (Conv.bytesToString (.slice A N C)).run Tryz.prog W = .ok (.string (strOfNums l)) W := by
  have h1 := conv_run h h0
  generalize strOfNums l = S at h1 ⊢
  simp only [convert, go_sem] at h1
  exact h1
theorem str_inj : ∀ {a b : List Int}, OkB a → OkB b → strOfNums a = strOfNums b → a = b := by
  intro a b ha hb e
  unfold strOfNums at e
  have e1 : (a.map fun n => UInt8.ofNat n.toNat) = (b.map fun n => UInt8.ofNat n.toNat) := by simpa using e
  clear e
  induction a generalizing b with
  | nil => cases b with
    | nil => rfl
    | cons y t => simp at e1
  | cons x s ih => cases b with
    | nil => simp at e1
    | cons y t =>
      simp only [List.map_cons, List.cons.injEq] at e1
      have hx := ha x (by simp)
      have hy := hb y (by simp)
      have e2 := congrArg UInt8.toNat e1.1
      simp at e2
      have e3 : x = y := by omega
      subst e3
      rw [ih (fun z hz => ha z (List.mem_cons_of_mem _ hz)) (fun z hz => hb z (List.mem_cons_of_mem _ hz)) e1.2]
theorem unB_split : ∀ (s : List Int) (a : Int), unB a s = a * 256 ^ s.length + unB 0 s
  | [], a => by simp [unB]
  | x :: t, a => by
    rw [unB, unB, unB_split t (a * 256 + x), unB_split t (0 * 256 + x), List.length_cons, Int.pow_succ, Int.add_mul, Int.zero_mul, Int.zero_add, Int.mul_assoc a 256, Int.mul_comm 256 (256 ^ t.length)]
    omega
theorem mul_lt_split {x y P r s : Int} (hr : 0 ≤ r ∧ r < P) (hs : 0 ≤ s ∧ s < P) (h : x * P + r = y * P + s) : ¬ x < y := by
  intro hlt
  have h1 : (x + 1) * P ≤ y * P := Int.mul_le_mul_of_nonneg_right (by omega) (by omega)
  rw [Int.add_mul, Int.one_mul] at h1
  omega
theorem unB_inj : ∀ (s t : List Int), s.length = t.length → OkB s → OkB t → unB 0 s = unB 0 t → s = t
  | [], [], _, _, _, _ => rfl
  | [], _ :: _, h, _, _, _ => by simp at h
  | _ :: _, [], h, _, _, _ => by simp at h
  | x :: s, y :: t, h, hs, ht, e => by
    have h' : s.length = t.length := by simpa using h
    have os : OkB s := fun z hz => hs z (List.mem_cons_of_mem _ hz)
    have ot : OkB t := fun z hz => ht z (List.mem_cons_of_mem _ hz)
    rw [unB, unB, Int.zero_mul, Int.zero_add, Int.zero_add, unB_split s, unB_split t, h'] at e
    have b1 := unB_bound s 0 os (by omega)
    have b2 := unB_bound t 0 ot (by omega)
    rw [Int.zero_add, Int.one_mul] at b1 b2
    rw [h'] at b1
    have n1 := mul_lt_split b1 b2 e
    have n2 := mul_lt_split b2 b1 e.symm
    have hxy : x = y := by omega
    subst hxy
    rw [unB_inj s t h' os ot (by omega)]
/-- Eight bytes are those of a number just if the number is theirs. -/
theorem seal_same {m : List Int} {D : Int} (hm : m.length = 8) (ho : OkB m) (hD : U64 D) : (strOfNums (numB D 8) = strOfNums m) ↔ unB 0 m = D := by
  have hu : unB 0 (numB D 8) = D := un_num D 8 hD.1 (by have := hD.2; simpa using this)
  constructor
  · intro h
    rw [← str_inj (numB_ok D 8) ho h, hu]
  · intro h
    rw [unB_inj (numB D 8) m (by rw [numB_len, hm]) (numB_ok D 8) ho (by rw [hu, h])]
end Go.Proofs.YtjmkphnppegegaaGreatDoor
/-
  Chapter 6's own Next, by contract.
-/
namespace Go.Proofs.YtjmkphnppegegaaGreatDoor
open Go.RowKit Go.Lib
set_option maxRecDepth 100000
theorem step_bapp {w : World} {ops : Array Oper} {o : Oper} {a : Act} {K : Act → World → Prop} {Q : Exit → Act → World → Prop} {E : Prop} (hgd : o.guard = none) (s x : Operand)
    (ho : o.op = .call { callee := .builtin .append, args := #[s, x], argTypes := #[78, 78] })
    (B : Nat) (v u : Value) (m l : List Int) (hs : a.eval s = v) (hx : a.eval x = u) (hv : BRow w B v m) (hu : Bl w u l) (hn : m.length + l.length ≤ 1000000) (hB : B ≤ w.heap.size)
    (h : ∀ A N C w', BRow w' B (.slice A N C) (m ++ l) → Below B w w' → K (a.put o.dst (.slice A N C)) w') :
    if Region.wanted o (yielded ops a.tmps) = true then Oper.wp Tryz.prog o a w K Q else E := by
  have hw : Region.wanted o (yielded ops a.tmps) = true := by simp [Region.wanted, hgd]
  rw [if_pos hw]
  obtain ⟨A, N, C, w', hr, h2, h3⟩ := bapp_run m l v u w o.type B hv hu hn hB
  unfold Oper.wp execOp
  simp only [ho, resolve, invoke, builtin, Sem.run_bind, Sem.run_pure, Result.andThen_ok, List.map_toArray, List.map_cons, List.map_nil, hs, hx, hr]
  exact h A N C w' h2 h3
end Go.Proofs.YtjmkphnppegegaaGreatDoor
/-
  PLAIN LEAN: what was laid is found; cut, spoilt or shifted it is not.
-/
namespace Go.Proofs.YtjmkphnppegegaaGreatDoor
open Go.RowKit Go.Lib
set_option maxRecDepth 100000
theorem okF_iff {k : Int} {b : List Int} (h : okF k b = true) : 1 ≤ k ∧ k ≤ 255 ∧ b.length ≤ 65535 := by simpa [okF] using h
theorem okF_of {k : Int} {b : List Int} (h1 : 1 ≤ k) (h2 : k ≤ 255) (h3 : b.length ≤ 65535) : okF k b = true := by simp [okF]; omega
theorem numB_one {k : Int} (h1 : 0 ≤ k) (h2 : k ≤ 255) : numB k 1 = [k] := by simp [numB]; omega
theorem hdF_ok {k : Int} {b : List Int} (ho : OkB b) : OkB (hdF k b) := (((numB_ok _ _).append (numB_ok _ _)).append (numB_ok _ _)).append ho
theorem layF_ok {k : Int} {b : List Int} (ho : OkB b) : OkB (layF k b) := (hdF_ok ho).append (numB_ok _ _)
def dF (k : Int) (b : List Int) : Int := fnv 14695981039346656037 (hdF k b)
theorem dF_u64 (k : Int) (b : List Int) : U64 (dF k b) := fnv_u64 _ _ begin_u64
theorem un_dF (k : Int) (b : List Int) : unB 0 (numB (dF k b) 8) = dF k b := un_num _ 8 (dF_u64 k b).1 (by have := (dF_u64 k b).2; simpa using this)
theorem hdF_cons {k : Int} {b : List Int} (h : okF k b = true) : hdF k b = 71 :: k :: (numB (b.length : Int) 2 ++ b) := by
  obtain ⟨h1, h2, h3⟩ := okF_iff h
  unfold hdF
  rw [numB_one (show (0 : Int) ≤ 71 by decide) (by decide), numB_one (by omega) h2]
  rfl
/-- What a frame in front tells. -/
theorem front {k : Int} {b t : List Int} (h : okF k b = true) : unB 0 ((layF k b ++ t).take 1) = 71 ∧ kd (layF k b ++ t) = k ∧ sz (layF k b ++ t) = b.length := by
  obtain ⟨h1, h2, h3⟩ := okF_iff h
  have e : layF k b ++ t = 71 :: k :: (numB (b.length : Int) 2 ++ (b ++ numB (dF k b) 8 ++ t)) := by
    unfold layF
    rw [hdF_cons h]
    simp [dF, hdF_cons h]
  rw [e]
  refine ⟨by simp [unB], by simp [kd, unB], ?_⟩
  have e2 : ((71 :: k :: (numB (b.length : Int) 2 ++ (b ++ numB (dF k b) 8 ++ t))).drop 2).take 2 = numB (b.length : Int) 2 := by
    show (numB (b.length : Int) 2 ++ _).take 2 = _
    rw [List.take_append_of_le_length (by rw [numB_len]; exact Nat.le_refl _), List.take_of_length_le (by rw [numB_len]; exact Nat.le_refl _)]
  unfold sz
  rw [e2, un_num _ 2 (by omega) (by omega)]
  omega
theorem lay_take {k : Int} {b t : List Int} : (layF k b ++ t).take (4 + b.length) = hdF k b := by
  unfold layF
  rw [List.append_assoc, List.take_append_of_le_length (by rw [hdF_len]; omega), List.take_of_length_le (by rw [hdF_len]; omega)]
theorem lay_drop {k : Int} {b t : List Int} : (layF k b ++ t).drop (4 + b.length) = numB (dF k b) 8 ++ t := by
  unfold layF
  rw [List.append_assoc, show 4 + b.length = (hdF k b).length by rw [hdF_len]; omega, List.drop_left]
  rfl
theorem lay_seal {k : Int} {b t : List Int} : ((layF k b ++ t).drop (4 + b.length)).take 8 = numB (dF k b) 8 := by
  rw [lay_drop, List.take_append_of_le_length (by rw [numB_len]; exact Nat.le_refl _), List.take_of_length_le (by rw [numB_len]; exact Nat.le_refl _)]
theorem lay_found {k : Int} {b t : List Int} (h : okF k b = true) : fsT (layF k b ++ t) = some (k, b.length) := by
  obtain ⟨f1, f2, f3⟩ := front (t := t) h
  rw [fsT_long (by rw [List.length_append, layF_len]; omega), f1, f2, f3, lay_seal, lay_take, un_dF, if_pos]
  exact ⟨rfl, (okF_iff h).1, by rw [List.length_append, layF_len]; omega, rfl⟩
theorem lay_body {k : Int} {b t : List Int} : ((layF k b ++ t).drop 4).take b.length = b := by
  have e : (layF k b ++ t).drop 4 = b ++ (numB (dF k b) 8 ++ t) := by
    unfold dF
    unfold layF
    generalize numB (fnv 14695981039346656037 (hdF k b)) 8 = S
    unfold hdF
    obtain ⟨H, hH⟩ : ∃ H, (numB 71 1 ++ numB k 1) ++ numB (b.length : Int) 2 = H := ⟨_, rfl⟩
    have hl : H.length = 4 := by rw [← hH]; simp [numB_len]
    rw [hH, List.append_assoc, List.append_assoc, ← hl, List.drop_left]
  rw [e, List.take_append_of_le_length (Nat.le_refl _), List.take_of_length_le (Nat.le_refl _)]
theorem lay_next {k : Int} {b a t : List Int} (h : okF k b = true) : nxT (a ++ (layF k b ++ t)) (a.length : Int) = some (k, b.length) ∧ nxL (a ++ (layF k b ++ t)) (a.length : Int) (some (k, b.length)) = b := by
  have e : (a ++ (layF k b ++ t)).drop (a.length : Int).toNat = layF k b ++ t := by rw [Int.toNat_natCast, List.drop_left]
  unfold nxT nxL
  rw [if_pos (by rw [List.length_append]; omega), e]
  exact ⟨lay_found h, lay_body⟩
theorem lay_cut {k : Int} {b : List Int} (h : okF k b = true) {c : Nat} (hc : c < (layF k b).length) : fsT ((layF k b).take c) = none := by
  by_cases h4 : c < 4
  · exact fsT_short (by rw [List.length_take]; omega)
  · have hs : sz ((layF k b).take c) = b.length := by
      have := (front (t := []) h).2.2
      rw [List.append_nil] at this
      rw [← this]
      unfold sz
      rw [List.drop_take, List.take_take, Nat.min_eq_left (by omega)]
    rw [fsT_long (by rw [List.length_take]; omega), if_neg]
    rw [hs, List.length_take]
    rw [layF_len] at hc
    omega
theorem lay_inj {k k' : Int} {b b' : List Int} (h : okF k b = true) (h' : okF k' b' = true) : sameB (layF k b) (layF k' b') = ((k == k') && sameB b b') := by
  cases e : sameB (layF k b) (layF k' b')
  · cases e2 : (k == k') && sameB b b'
    · rfl
    · simp only [Bool.and_eq_true, beq_iff_eq, sameB_iff] at e2
      obtain ⟨rfl, rfl⟩ := e2
      rw [sameB_self] at e
      cases e
  · rw [sameB_iff] at e
    have f1 := lay_found (t := []) h
    have f2 := lay_found (t := []) h'
    have g1 := lay_body (k := k) (b := b) (t := [])
    have g2 := lay_body (k := k') (b := b') (t := [])
    rw [e, f2] at f1
    simp only [Option.some.injEq, Prod.mk.injEq] at f1
    obtain ⟨rfl, hl⟩ := f1
    rw [e, ← hl, g2] at g1
    subst g1
    rw [sameB_self]
    simp
end Go.Proofs.YtjmkphnppegegaaGreatDoor
