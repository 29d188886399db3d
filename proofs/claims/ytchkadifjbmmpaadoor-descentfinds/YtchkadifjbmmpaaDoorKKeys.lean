/-
  SameKeys and OverKeys, by contract.
-/
import Derived.Test.YtchkadifjbmmpaaDoorProg
import Derived.Test.YtchkadifjbmmpaaDoorChecked
import Derived.WalkKit
import Derived.WalkMore
import Derived.BigCall
import Derived.Below
import Derived.Lib.Hide
import Derived.Deep.QuietTactic
import Derived.BigQuiet
import Derived.OwnWalk
import Derived.Laws.OwnMore
import Derived.WalkSmall
import Derived.Deep.AppendLies
import Derived.Deep.RegionHeld3
import Derived.Deep.DeepCutAuto
import Derived.Deep.OwnRows
import Derived.IntWalk
import Derived.Lib.SliceRun
import Derived.Maps.AppendAt
import Derived.BigRegion
import Derived.Deep.DeepAppendRoom
import Derived.Laws.StructEq
namespace Go.Proofs.YtchkadifjbmmpaaDoor.P
open Go.RowKit Go.Lib

theorem below_drewN {B : Nat} {a w : World} (h : Below B a w) (n : Nat) : Below B a (w.drewN n) := ⟨h.os, h.tape, h.output, h.size, h.block⟩
theorem Below.next {W0 w w' : World} (h : Below W0.heap.size W0 w) (hb : Below w.heap.size w w') : Below W0.heap.size W0 w' := h.trans (hb.mono h.size)
theorem grown_refl (w : World) (r : Option Nat) : w.grownBy w r := ⟨rfl, rfl, rfl, Nat.le_refl _, fun _ _ _ => rfl⟩
theorem grown_trans {a b c : World} {r : Option Nat} (h : a.grownBy b r) (k : b.grownBy c r) : a.grownBy c r :=
  ⟨k.os.trans h.os, k.tape.trans h.tape, k.output.trans h.output, Nat.le_trans h.size k.size, fun i hi hne => (k.block i (Nat.lt_of_lt_of_le hi h.size) hne).trans (h.block i hi hne)⟩
theorem grown_below {a b : World} (h : Below a.heap.size a b) (r : Option Nat) : a.grownBy b r := ⟨h.os, h.tape, h.output, h.size, fun i hi _ => h.block i hi⟩
theorem below_of_grown {a b : World} {r : Option Nat} {B : Nat} (h : a.grownBy b r) (hB : B ≤ a.heap.size) (hg : ∀ g, r = some g → B ≤ g) : Below B a b :=
  ⟨h.os, h.tape, h.output, h.size, fun i hi => h.block i (by omega) (by intro e; have := hg i e.symm; omega)⟩
theorem grown_cell {a b : World} {r : Option Nat} (h : a.grownBy b r) {p : Addr} (hp : p.block < a.heap.size) (hne : some p.block ≠ r) : b.cell? p = a.cell? p :=
  World.cell?_of_block (h.block p.block hp hne)

/-- From offset o of block b on the numbers l lie. -/
def Nums (w : World) (b o : Nat) (l : List Int) : Prop := ∀ k (hk : k < l.length), w.cell? ⟨b, o + k, none⟩ = some (.int .i64 l[k])
theorem Nums.below {w w' : World} {b o : Nat} {l : List Int} (h : Nums w b o l) (hb : Below w.heap.size w w') : Nums w' b o l := fun k hk =>
  (hb.cell (World.block_lt_of_cell? w _ (h k hk))).trans (h k hk)
/-- The slice v holds the numbers l. -/
def Nl (w : World) (v : Value) (l : List Int) : Prop :=
  (v = .slice none 0 0 ∧ l = []) ∨ ∃ ad cap, v = .slice (some ad) l.length cap ∧ (0 < l.length → ∃ b o, ad = ⟨b, o, none⟩ ∧ Nums w b o l)
theorem Nl.below {w w' : World} {v : Value} {l : List Int} (h : Nl w v l) (hb : Below w.heap.size w w') : Nl w' v l := by
  rcases h with h | ⟨ad, cap, h1, h2⟩
  · exact .inl h
  · exact .inr ⟨ad, cap, h1, fun h0 => by obtain ⟨b, o, e, hs⟩ := h2 h0; exact ⟨b, o, e, hs.below hb⟩⟩
theorem Nl.drew {w : World} {v : Value} {l : List Int} (h : Nl w v l) (n : Nat) : Nl (w.drewN n) v l := h
theorem Nl.form {w : World} {v : Value} {l : List Int} (h : Nl w v l) : ∃ ad cap, v = .slice ad l.length cap ∧ (0 < l.length → ∃ b o, ad = some ⟨b, o, none⟩ ∧ Nums w b o l) := by
  rcases h with ⟨rfl, rfl⟩ | ⟨ad, cap, rfl, h2⟩
  · exact ⟨none, 0, rfl, fun h => by simp at h⟩
  · exact ⟨some ad, cap, rfl, fun h0 => by obtain ⟨b, o, e, hs⟩ := h2 h0; exact ⟨b, o, by rw [e], hs⟩⟩

def ints (l : List Int) : List Value := l.map (Value.int .i64)
theorem ints_len (l : List Int) : (ints l).length = l.length := List.length_map ..
theorem ints_one (l : List Int) : ∀ u ∈ ints l, u.oneCell' = true := by
  intro u hu
  obtain ⟨x, _, rfl⟩ := List.mem_map.1 hu
  rfl
theorem ints_at (l : List Int) (k : Nat) (hk : k < l.length) : (ints l)[k]? = some (.int .i64 l[k]) := by simp [ints, hk]
theorem Nums.news {w : World} {b o : Nat} {l : List Int} (h : Nums w b o l) : ∀ i u, (ints l)[i]? = some u → w.cell? ((⟨b, o, none⟩ : Addr).add i) = some u := by
  intro i u hu
  have hi : i < l.length := by have := (List.getElem?_eq_some_iff.1 hu).1; rwa [ints_len] at this
  rw [ints_at l i hi] at hu
  rw [Go.WideShapes.add_plain, h i hi, hu]

/-- The row v, of one's own from block B on, holds the numbers l. -/
def Row (w : World) (B : Nat) (v : Value) (l : List Int) : Prop := w.ownsRow B 3 1 v l.length (ints l)
theorem own_below {w w' : World} {base : Nat} {e : TypeId} {size : Nat} {v : Value} {n : Nat} {xs : List Value} (h : w.ownsRow base e size v n xs) (hb : Below w.heap.size w w') : w'.ownsRow base e size v n xs := by
  cases hv : v.ownBlock with
  | none => exact h.kept (row := none) ⟨hb.os, hb.tape, hb.output, hb.size, fun i hi _ => hb.block i hi⟩ (.inl hv)
  | some g => exact h.kept (row := none) ⟨hb.os, hb.tape, hb.output, hb.size, fun i hi _ => hb.block i hi⟩ (.inr (by rw [hv]; simp))
theorem own_mono {w : World} {base base' : Nat} {e : TypeId} {size : Nat} {v : Value} {n : Nat} {xs : List Value} (h : w.ownsRow base e size v n xs) (hb : base' ≤ base) : w.ownsRow base' e size v n xs :=
  ⟨h.1, h.2.imp id fun ⟨g, cap, cur, h1, h2, h3⟩ => ⟨g, cap, cur, h1, Nat.le_trans hb h2, h3⟩⟩
theorem Row.below {w w' : World} {B : Nat} {v : Value} {l : List Int} (h : Row w B v l) (hb : Below w.heap.size w w') : Row w' B v l := own_below h hb
theorem Row.mono {w : World} {B B' : Nat} {v : Value} {l : List Int} (h : Row w B v l) (hb : B' ≤ B) : Row w B' v l := own_mono h hb
theorem Row.nl {w : World} {B : Nat} {v : Value} {l : List Int} (h : Row w B v l) : Nl w v l := by
  rcases h.2 with ⟨rfl, h0⟩ | ⟨g, cap, cur, rfl, _⟩
  · exact .inl ⟨rfl, List.eq_nil_of_length_eq_zero h0⟩
  · refine .inr ⟨⟨g, 0, none⟩, cap, rfl, fun _ => ⟨g, 0, rfl, fun k hk => ?_⟩⟩
    rw [Nat.zero_add]
    exact (World.ownsRow.cellAt h k (by omega)).trans (ints_at l k hk)
theorem Row.nil (w : World) (B : Nat) : Row w B (.slice none 0 0) [] := World.ownsRow_nil _ _ _ _
theorem Row.far {w w' : World} {B : Nat} {v : Value} {l : List Int} {r : Option Nat} (h : Row w B v l) (hg : w.grownBy w' r) (hne : ∀ g, r = some g → ∀ g', v.ownBlock = some g' → g ≠ g') : Row w' B v l := by
  refine World.ownsRow.kept h hg ?_
  cases hv : v.ownBlock with
  | none => exact .inl rfl
  | some g' => exact .inr fun e => hne g' e.symm g' hv rfl

theorem intInfo : (Tryd.prog.info? 3).map (fun i => (i.zero, i.size, i.bytes)) = some (some (.int .i64 0), 1, 8) := by kernel_rfl

/-! What is answered. -/
def mx (a b : Int) : Int := if b > a then b else a
def mn (a b : Int) : Int := if b < a then b else a
def manyB (n : Int) : Bool := decide (1 ≤ n) && decide (n ≤ 8)
def okN : List Int → Bool
  | [] => true
  | x :: t => decide (0 ≤ x) && (decide (x ≤ 1023) && okN t)
def mayB (l : List Int) (n : Int) : Bool := manyB n && (decide ((l.length : Int) = n) && okN l)
def sameB : List Int → List Int → Bool
  | [], [] => true
  | x :: s, y :: t => (x == y) && sameB s t
  | _, _ => false
def leB : List Int → List Int → Bool
  | [], [] => true
  | x :: s, y :: t => decide (x ≤ y) && leB s t
  | _, _ => false
def sumL (s : Int) : List Int → Int
  | [] => s
  | x :: t => sumL (wrap64 (s + x)) t
theorem sameB_iff : ∀ (a b : List Int), sameB a b = true ↔ a = b
  | [], [] => by simp [sameB]
  | x :: s, y :: t => by simp [sameB, sameB_iff s t]
  | [], _ :: _ => by simp [sameB]
  | _ :: _, [] => by simp [sameB]
theorem sameB_len : ∀ (a b : List Int), a.length ≠ b.length → sameB a b = false
  | [], [], h => by simp at h
  | x :: s, y :: t, h => by rw [sameB, sameB_len s t (by simpa using h), Bool.and_false]
  | [], _ :: _, _ => rfl
  | _ :: _, [], _ => rfl
theorem leB_len : ∀ (a b : List Int), a.length ≠ b.length → leB a b = false
  | [], [], h => by simp at h
  | x :: s, y :: t, h => by rw [leB, leB_len s t (by simpa using h), Bool.and_false]
  | [], _ :: _, _ => rfl
  | _ :: _, [], _ => rfl
/-- What is answered: a row of one's own. -/
def rowT (l : List Int) (w : World) (e : Ending) (w' : World) : Prop := ∃ v, e = .returned v ∧ Row w' w.heap.size v l ∧ Below w.heap.size w w'
theorem row_empty (w : World) : (w.alloc (.cells #[] 3)).ownsRow w.heap.size 3 1 (.slice (some ⟨w.heap.size, 0, none⟩) 0 0) 0 [] :=
  ⟨rfl, .inr ⟨w.heap.size, 0, #[], rfl, Nat.le_refl _, heap_alloc_new w _, Nat.le_refl _, Nat.zero_le _, rfl, rfl⟩⟩
theorem Nl.news {w : World} {ad : Addr} {l : List Int} (h : 0 < l.length → ∃ b o, ad = ⟨b, o, none⟩ ∧ Nums w b o l) : ∀ i u, (ints l)[i]? = some u → w.cell? (ad.add i) = some u := by
  intro i u hu
  have hi : i < l.length := by have := (List.getElem?_eq_some_iff.1 hu).1; rwa [ints_len] at this
  obtain ⟨b, o, rfl, hs⟩ := h (by omega)
  exact hs.news i u hu
theorem Row.at {w : World} {B g cap : Nat} {l : List Int} (h : Row w B (.slice (some ⟨g, 0, none⟩) l.length cap) l) (k : Nat) (hk : k < l.length) : w.cell? ⟨g, k, none⟩ = some (.int .i64 l[k]) :=
  (World.ownsRow.cellAt h k (by omega)).trans (ints_at l k hk)
theorem Row.soft {w : World} {B g cap : Nat} {l : List Int} (h : Row w B (.slice (some ⟨g, 0, none⟩) l.length cap) l) (k : Nat) : w.frozen? ⟨g, k, none⟩ = false := World.ownsRow.frozenAt h k
theorem ints_set (l : List Int) (k : Nat) (x : Int) : (ints l).set k (.int .i64 x) = ints (l.set k x) := by simp [ints, List.map_set]
theorem Row.set {w : World} {B g cap : Nat} {l : List Int} (h : Row w B (.slice (some ⟨g, 0, none⟩) l.length cap) l) (k : Nat) (x : Int) : Row (w.setCell ⟨g, k, none⟩ (.int .i64 x)) B (.slice (some ⟨g, 0, none⟩) (l.set k x).length cap) (l.set k x) := by
  have h1 := (World.ownsRow.stored h k (.int .i64 x)).1
  rw [ints_set] at h1
  unfold Row
  rw [List.length_set]
  exact h1
theorem Row.form {w : World} {B : Nat} {v : Value} {l : List Int} (h : Row w B v l) (hn : 0 < l.length) : ∃ g cap, v = .slice (some ⟨g, 0, none⟩) l.length cap ∧ B ≤ g ∧ g < w.heap.size := by
  obtain ⟨g, cap, e, h1, h2⟩ := World.ownsRow.form h hn
  exact ⟨g, cap, e, h1, h2⟩

/-- append, as a step whose answer is known. -/
theorem wpList_append_run {P : Program} {w : World} {ops : Array Oper} {rest : List Oper} {o : Oper} {a : Act} {Q : Exit → Act → World → Prop} (hgd : o.guard = none) (s x : Operand) (t : TypeId)
    (ho : o.op = .call { callee := .builtin .append, args := #[s, x], argTypes := #[t, t] }) (v' : Value) (w' : World)
    (hr : (Builtin.append_ #[t, t] o.type #[a.eval s, a.eval x]).run P w = .ok v' w') (h : wpList P ops Q rest (a.put o.dst v') w') : wpList P ops Q (o :: rest) a w :=
  wpList_plain hgd fun _ hK => by
    unfold Oper.wp execOp
    simp only [ho, resolve, invoke, builtin, Sem.run_bind, Sem.run_pure, Result.andThen_ok, List.map_toArray, List.map_cons, List.map_nil, hr]
    exact hK _ _ h
theorem Row.at2 {w : World} {B g cap n : Nat} {l : List Int} (h : Row w B (.slice (some ⟨g, 0, none⟩) n cap) l) (hn : l.length = n) (k : Nat) (x : Int) (hk : l[k]? = some x) : w.cell? ⟨g, k, none⟩ = some (.int .i64 x) := by
  subst hn
  obtain ⟨hk', rfl⟩ := List.getElem?_eq_some_iff.1 hk
  exact h.at k hk'
theorem Row.soft2 {w : World} {B g cap n : Nat} {l : List Int} (h : Row w B (.slice (some ⟨g, 0, none⟩) n cap) l) (hn : l.length = n) (k : Nat) : w.frozen? ⟨g, k, none⟩ = false := by
  subst hn
  exact h.soft k
theorem Row.set2 {w : World} {B g cap n : Nat} {l : List Int} (h : Row w B (.slice (some ⟨g, 0, none⟩) n cap) l) (hn : l.length = n) (k : Nat) (x : Int) : Row (w.setCell ⟨g, k, none⟩ (.int .i64 x)) B (.slice (some ⟨g, 0, none⟩) n cap) (l.set k x) := by
  subst hn
  have h1 := h.set k x
  rw [List.length_set] at h1
  exact h1
theorem alloc_below (w : World) (o : Obj) : Below w.heap.size w (w.alloc o) := (Below.refl _ _).alloc (Nat.le_refl _) _
/-- A list that has just been laid. -/
theorem nl_new2 (w : World) (B : Nat) (hB : B = w.heap.size) (x y : Int) : Nl (w.alloc (.cells #[.int .i64 x, .int .i64 y] 3)) (.slice (some ⟨B, 0, none⟩) 2 2) [x, y] := by
  subst hB
  refine .inr ⟨_, 2, rfl, fun _ => ⟨w.heap.size, 0, rfl, fun k hk => ?_⟩⟩
  have hk2 : k < 2 := hk
  match k, hk2 with
  | 0, _ => simp [go_sem]
  | 1, _ => simp [go_sem]
end Go.Proofs.YtchkadifjbmmpaaDoor.P
namespace Go.Proofs.YtchkadifjbmmpaaDoor.P
open Go.RowKit

abbrev Ky := Int × Int
def kLt (a b : Ky) : Bool := decide (a.1 < b.1) || (a.1 == b.1 && decide (a.2 < b.2))
theorem kLt_iff (a b : Ky) : kLt a b = true ↔ a.1 < b.1 ∨ a.1 = b.1 ∧ a.2 < b.2 := by simp [kLt]
theorem kLt_irrefl (a : Ky) : kLt a a = false := by simp [kLt]
theorem kLt_trans {a b c : Ky} (h : kLt a b = true) (k : kLt b c = true) : kLt a c = true := by
  rw [kLt_iff] at *
  omega
theorem kLt_tri (a b : Ky) : kLt a b = true ∨ a = b ∨ kLt b a = true := by
  obtain ⟨a1, a2⟩ := a
  obtain ⟨b1, b2⟩ := b
  rw [kLt_iff, kLt_iff, Prod.mk.injEq]
  simp only
  omega
theorem kLt_ne {a b : Ky} (h : kLt a b = true) : a ≠ b := fun e => by rw [e, kLt_irrefl] at h; cases h
theorem kLt_no {a b : Ky} (h : kLt a b = true) : kLt b a = false := by
  cases h2 : kLt b a with
  | false => rfl
  | true => exact absurd (kLt_trans h h2) (by rw [kLt_irrefl]; simp)
/-- Keys that rise, each once. -/
def Rise (l : List Ky) : Prop := l.Pairwise fun a b => kLt a b = true
theorem Rise.tail {a : Ky} {l : List Ky} (h : Rise (a :: l)) : Rise l := (List.pairwise_cons.1 h).2
theorem Rise.head {a : Ky} {l : List Ky} (h : Rise (a :: l)) : ∀ x ∈ l, kLt a x = true := (List.pairwise_cons.1 h).1
theorem Rise.filter {l : List Ky} (h : Rise l) (f : Ky → Bool) : Rise (l.filter f) := List.Pairwise.filter f h
theorem Rise.not_mem {a : Ky} {l : List Ky} (h : Rise (a :: l)) : a ∉ l := fun k => by
  have := h.head a k
  rw [kLt_irrefl] at this
  cases this
/-- Two lists that rise and have the same members are one. -/
theorem Rise.ext : ∀ {l m : List Ky}, Rise l → Rise m → (∀ a, a ∈ l ↔ a ∈ m) → l = m
  | [], [], _, _, _ => rfl
  | [], b :: m, _, _, h => by have := (h b).2 (by simp); cases this
  | a :: l, [], _, _, h => by have := (h a).1 (by simp); cases this
  | a :: l, b :: m, hl, hm, h => by
    have e : a = b := by
      rcases List.mem_cons.1 ((h a).1 (by simp)) with e | e
      · exact e
      · rcases List.mem_cons.1 ((h b).2 (by simp)) with e2 | e2
        · exact e2.symm
        · exact absurd (kLt_trans (hl.head b e2) (hm.head a e)) (by rw [kLt_irrefl]; simp)
    subst e
    refine congrArg (a :: ·) (Rise.ext hl.tail hm.tail fun x => ⟨fun hx => ?_, fun hx => ?_⟩)
    · rcases List.mem_cons.1 ((h x).1 (List.mem_cons_of_mem _ hx)) with e | e
      · rw [e] at hx; exact absurd hx hl.not_mem
      · exact e
    · rcases List.mem_cons.1 ((h x).2 (List.mem_cons_of_mem _ hx)) with e | e
      · rw [e] at hx; exact absurd hx hm.not_mem
      · exact e
theorem len_split (l : List Ky) (f : Ky → Bool) : (l.filter f).length + (l.filter fun x => !f x).length = l.length := by
  induction l with
  | nil => rfl
  | cons a l ih =>
    cases h : f a
    · rw [List.filter_cons_of_neg (by simp [h]), List.filter_cons_of_pos (by simp [h]), List.length_cons, List.length_cons]; omega
    · rw [List.filter_cons_of_pos (by simp [h]), List.filter_cons_of_neg (by simp [h]), List.length_cons, List.length_cons]; omega

/-- A key among rising ones, once. -/
def into (l : List Ky) (k : Ky) : List Ky :=
  if (l.dropWhile fun x => kLt x k).head? = some k then l else l.takeWhile (fun x => kLt x k) ++ k :: l.dropWhile fun x => kLt x k
theorem into_nil (k : Ky) : into [] k = [k] := rfl
theorem into_cons (a : Ky) (l : List Ky) (k : Ky) : into (a :: l) k = if kLt a k then a :: into l k else if a = k then a :: l else k :: a :: l := by
  unfold into
  cases h : kLt a k with
  | true =>
    simp only [List.dropWhile_cons, h, if_true, List.takeWhile_cons, List.cons_append]
    split <;> rfl
  | false =>
    simp [h]
theorem into_mem : ∀ (l : List Ky) (k x : Ky), x ∈ into l k ↔ x = k ∨ x ∈ l
  | [], k, x => by simp [into_nil]
  | a :: l, k, x => by
    rw [into_cons]
    split
    · rw [List.mem_cons, into_mem l k x, List.mem_cons]
      exact ⟨fun h => by rcases h with h | h | h <;> simp [h], fun h => by rcases h with h | h | h <;> simp [h]⟩
    · split
      · rename_i e
        subst e
        simp
      · simp
theorem into_rise : ∀ {l : List Ky} (k : Ky), Rise l → Rise (into l k)
  | [], k, _ => by rw [into_nil]; exact List.pairwise_singleton _ _
  | a :: l, k, h => by
    rw [into_cons]
    split
    · rename_i hk
      refine List.pairwise_cons.2 ⟨fun x hx => ?_, into_rise k h.tail⟩
      rcases (into_mem l k x).1 hx with rfl | hx
      · exact hk
      · exact h.head x hx
    · split
      · exact h
      · rename_i hk hne
        have h1 : kLt k a = true := by
          rcases kLt_tri a k with e | e | e
          · exact absurd e hk
          · exact absurd e hne
          · exact e
        refine List.pairwise_cons.2 ⟨fun x hx => ?_, h⟩
        rcases List.mem_cons.1 hx with rfl | hx
        · exact h1
        · exact kLt_trans h1 (h.head x hx)
theorem fold_rise (m : List Ky) : ∀ {l : List Ky}, Rise l → Rise (m.foldl into l) := by
  induction m with
  | nil => exact fun h => h
  | cons a m ih => exact fun h => ih (into_rise a h)
theorem fold_mem (m : List Ky) : ∀ (l : List Ky) (x : Ky), x ∈ m.foldl into l ↔ x ∈ l ∨ x ∈ m := by
  induction m with
  | nil => exact fun l x => by simp
  | cons a m ih =>
    intro l x
    rw [List.foldl_cons, ih, into_mem, List.mem_cons]
    exact ⟨fun h => by rcases h with (h | h) | h <;> simp [h], fun h => by rcases h with h | h | h <;> simp [h]⟩

/-- Rising numbers behind one that stands ahead. -/
def upB : Int → List Int → Bool
  | _, [] => true
  | p, a :: r => decide (p < a) && upB a r
def oneB (l : List Int) : Bool := !l.isEmpty && upB (-1) l
theorem oneB_ne {l : List Int} (h : oneB l = true) : l ≠ [] := fun e => by rw [e] at h; simp [oneB] at h
structure Po where
  k : Ky
  ns : List Int
def mayFrom : Option Ky → List Po → Bool
  | _, [] => true
  | none, x :: r => oneB x.ns && mayFrom (some x.k) r
  | some q, x :: r => oneB x.ns && (kLt q x.k && mayFrom (some x.k) r)
def mayL (l : List Po) : Bool := mayFrom none l
theorem mayFrom_iff : ∀ (l : List Po) (p : Option Ky), mayFrom p l = true ↔ (∀ x ∈ l, oneB x.ns = true) ∧ Rise (l.map Po.k) ∧ ∀ q, p = some q → ∀ x ∈ l, kLt q x.k = true
  | [], p => by simp [mayFrom, Rise]
  | x :: r, none => by
    have ih := mayFrom_iff r (some x.k)
    simp only [mayFrom, Bool.and_eq_true, ih, List.forall_mem_cons, List.map_cons]
    constructor
    · rintro ⟨h1, h2, h3, h4⟩
      refine ⟨⟨h1, h2⟩, List.pairwise_cons.2 ⟨fun k hk => ?_, h3⟩, fun q e => by cases e⟩
      obtain ⟨y, hy, rfl⟩ := List.mem_map.1 hk
      exact h4 _ rfl y hy
    · rintro ⟨⟨h1, h2⟩, h3, _⟩
      exact ⟨h1, h2, h3.tail, fun q e y hy => by cases e; exact h3.head _ (List.mem_map_of_mem hy)⟩
  | x :: r, some q => by
    have ih := mayFrom_iff r (some x.k)
    simp only [mayFrom, Bool.and_eq_true, ih, List.forall_mem_cons, List.map_cons]
    constructor
    · rintro ⟨h1, h0, h2, h3, h4⟩
      refine ⟨⟨h1, h2⟩, List.pairwise_cons.2 ⟨fun k hk => ?_, h3⟩, fun q' e => by cases e; exact ⟨h0, fun y hy => kLt_trans h0 (h4 _ rfl y hy)⟩⟩
      obtain ⟨y, hy, rfl⟩ := List.mem_map.1 hk
      exact h4 _ rfl y hy
    · rintro ⟨⟨h1, h2⟩, h3, h5⟩
      exact ⟨h1, (h5 q rfl).1, h2, h3.tail, fun q' e y hy => by cases e; exact h3.head _ (List.mem_map_of_mem hy)⟩
theorem mayL_iff (l : List Po) : mayL l = true ↔ (∀ x ∈ l, oneB x.ns = true) ∧ Rise (l.map Po.k) := by
  unfold mayL
  rw [mayFrom_iff]
  exact ⟨fun h => ⟨h.1, h.2.1⟩, fun h => ⟨h.1, h.2, fun q e => by cases e⟩⟩
def allMay (ls : List (List Po)) : Bool := ls.all mayL
def hasK (l : List Po) (k : Ky) : Bool := l.any fun p => p.k == k
theorem hasK_iff (l : List Po) (k : Ky) : hasK l k = true ↔ k ∈ l.map Po.k := by simp [hasK, List.mem_map]
/-- The Keys that all have. -/
def andK : List (List Po) → List Ky
  | [] => []
  | l :: r => if allMay (l :: r) then (l.filter fun p => (l :: r).all fun m => hasK m p.k).map Po.k else []
/-- Those that some has. -/
def orK (ls : List (List Po)) : List Ky := if allMay ls then (ls.flatten.map Po.k).foldl into [] else []
def nsOf (l : List Po) (k : Ky) : List Int := ((l.find? fun p => p.k == k).map Po.ns).getD []
/-- Does a phrase stand there? -/
def runs (ls : List (List Po)) (k : Ky) : Bool := (nsOf (ls.headD []) k).any fun a => (List.range ls.length).all fun j => (nsOf (ls.getD j []) k).contains (IntKind.i64.wrap (a + (j : Int)))
def phK (ls : List (List Po)) : List Ky := (andK ls).filter (runs ls)
def lessK (a some : List Ky) : List Ky := a.filter fun k => !some.contains k
def dropP (l : List Po) (k : Ky) : List Po := if mayL l then l.filter (fun p => !(p.k == k)) else []
def insP (l : List Po) (p : Po) : List Po := l.takeWhile (fun x => kLt x.k p.k) ++ p :: l.dropWhile fun x => kLt x.k p.k
def putP (l : List Po) (p : Po) : List Po := if mayL l then (if oneB p.ns then insP (dropP l p.k) p else l) else []

theorem andK_cons (l : List Po) (r : List (List Po)) : andK (l :: r) = if allMay (l :: r) then (l.filter fun p => (l :: r).all fun m => hasK m p.k).map Po.k else [] := rfl
theorem map_filter_sub {l : List Po} (h : Rise (l.map Po.k)) (f : Po → Bool) : Rise ((l.filter f).map Po.k) :=
  List.Pairwise.sublist (List.filter_sublist.map _) h
theorem allMay_mem {ls : List (List Po)} (h : allMay ls = true) {l : List Po} (hl : l ∈ ls) : mayL l = true := List.all_eq_true.1 h l hl
theorem andK_rise (ls : List (List Po)) : Rise (andK ls) := by
  cases ls with
  | nil => exact List.Pairwise.nil
  | cons l r =>
    rw [andK_cons]
    split
    · rename_i h
      exact map_filter_sub ((mayL_iff l).1 (allMay_mem h (by simp))).2 _
    · exact List.Pairwise.nil
theorem andK_mem {ls : List (List Po)} (h : allMay ls = true) (h0 : ls ≠ []) (k : Ky) : k ∈ andK ls ↔ ∀ l ∈ ls, k ∈ l.map Po.k := by
  cases ls with
  | nil => exact absurd rfl h0
  | cons l r =>
    rw [andK_cons, if_pos h, List.mem_map]
    constructor
    · rintro ⟨p, hp, rfl⟩ m hm
      exact (hasK_iff m p.k).1 (List.all_eq_true.1 (List.mem_filter.1 hp).2 m hm)
    · intro hk
      obtain ⟨p, hp, rfl⟩ := List.mem_map.1 (hk l (by simp))
      exact ⟨p, List.mem_filter.2 ⟨hp, List.all_eq_true.2 fun m hm => (hasK_iff m p.k).2 (hk m hm)⟩, rfl⟩
theorem orK_rise (ls : List (List Po)) : Rise (orK ls) := by
  unfold orK
  split
  · exact fold_rise _ List.Pairwise.nil
  · exact List.Pairwise.nil
theorem orK_mem {ls : List (List Po)} (h : allMay ls = true) (k : Ky) : k ∈ orK ls ↔ ∃ l ∈ ls, k ∈ l.map Po.k := by
  unfold orK
  rw [if_pos h, fold_mem]
  simp only [List.not_mem_nil, false_or, List.mem_map, List.mem_flatten]
  exact ⟨fun ⟨p, ⟨l, hl, hp⟩, e⟩ => ⟨l, hl, p, hp, e⟩, fun ⟨l, hl, p, hp, e⟩ => ⟨p, ⟨l, hl, hp⟩, e⟩⟩
theorem phK_rise (ls : List (List Po)) : Rise (phK ls) := (andK_rise ls).filter _
theorem phK_mem (ls : List (List Po)) (k : Ky) : k ∈ phK ls ↔ k ∈ andK ls ∧ runs ls k = true := List.mem_filter
theorem lessK_mem (a b : List Ky) (k : Ky) : k ∈ lessK a b ↔ k ∈ a ∧ k ∉ b := by simp [lessK]
theorem lessK_rise {a : List Ky} (h : Rise a) (b : List Ky) : Rise (lessK a b) := h.filter _
theorem lessK_nil {a b : List Ky} (h : ∀ k ∈ a, k ∈ b) : lessK a b = [] := by
  unfold lessK
  rw [List.filter_eq_nil_iff]
  intro k hk
  simpa using h k hk
theorem orK_one {l : List Po} (h : mayL l = true) : orK [l] = l.map Po.k :=
  Rise.ext (orK_rise _) ((mayL_iff l).1 h).2 (fun k => by rw [orK_mem (by simpa [allMay] using h)]; simp)
theorem len_union {x y u : List Ky} (hx : Rise x) (hy : Rise y) (hu : Rise u) (h : ∀ k, k ∈ u ↔ k ∈ x ∨ k ∈ y) : u.length = x.length + (lessK y x).length := by
  have h1 := len_split u fun k => x.contains k
  have h2 : (u.filter fun k => x.contains k) = x := Rise.ext (hu.filter _) hx (fun k => by
    rw [List.mem_filter, h]
    simp only [List.contains_iff_mem]
    exact ⟨fun q => q.2, fun q => ⟨.inl q, q⟩⟩)
  have h3 : (u.filter fun k => !x.contains k) = lessK y x := Rise.ext (hu.filter _) (lessK_rise hy x) (fun k => by
    rw [List.mem_filter, h, lessK_mem]
    simp only [Bool.not_eq_true', List.contains_eq_mem, decide_eq_false_iff_not]
    exact ⟨fun q => ⟨q.1.resolve_left q.2, q.2⟩, fun q => ⟨.inr q.1, q.2⟩⟩)
  rw [h2, h3] at h1
  omega
theorem len_meet {x y m : List Ky} (hx : Rise x) (hm : Rise m) (h : ∀ k, k ∈ m ↔ k ∈ x ∧ k ∈ y) : m.length + (lessK x y).length = x.length := by
  have h1 := len_split x fun k => y.contains k
  have h2 : (x.filter fun k => y.contains k) = m := Rise.ext (hx.filter _) hm (fun k => by rw [List.mem_filter, h, List.contains_iff_mem])
  rw [h2] at h1
  exact h1
end Go.Proofs.YtchkadifjbmmpaaDoor.P
namespace Go.Proofs.YtchkadifjbmmpaaDoor.P
open Go.RowKit Go.Lib

def Bx (T : TypeId) (w : World) (g : Nat) (cs : Array Value) : Prop := w.heap[g]? = some (.cells cs T (0, 0))
theorem Bx.new (T : TypeId) (w : World) (cs : Array Value) : Bx T (w.alloc (.cells cs T (0, 0))) w.heap.size cs := heap_alloc_new w _
theorem Bx.cell {T : TypeId} {w : World} {g : Nat} {cs : Array Value} (h : Bx T w g cs) (k : Nat) : w.cell? ⟨g, k, none⟩ = cs[k]? := cell_of_row w g k _ _ _ h
theorem Bx.lt {T : TypeId} {w : World} {g : Nat} {cs : Array Value} (h : Bx T w g cs) : g < w.heap.size := (Array.getElem?_eq_some_iff.1 h).1
theorem Bx.below {T : TypeId} {w w' : World} {g : Nat} {cs : Array Value} (h : Bx T w g cs) (hb : Below w.heap.size w w') : Bx T w' g cs := (hb.block g h.lt).trans h
theorem bn {w a b : World} (h : Below w.heap.size w a) (k : Below a.heap.size a b) : Below w.heap.size w b := h.trans (k.mono h.size)
/-- The cells of Keys. -/
def cs2 : List Ky → List Value
  | [] => []
  | k :: r => .int .i64 k.1 :: .int .i64 k.2 :: cs2 r
theorem cs2_len : ∀ l : List Ky, (cs2 l).length = l.length * 2
  | [] => rfl
  | k :: r => by simp only [cs2, List.length_cons, cs2_len r]; omega
theorem cs2_app : ∀ l m : List Ky, cs2 (l ++ m) = cs2 l ++ cs2 m
  | [], _ => rfl
  | k :: r, m => by simp only [cs2, List.cons_append, cs2_app r m]
theorem cs2_at : ∀ (l : List Ky) (k : Nat) (hk : k < l.length), (cs2 l)[k * 2]? = some (.int .i64 l[k].1) ∧ (cs2 l)[k * 2 + 1]? = some (.int .i64 l[k].2)
  | a :: r, 0, _ => ⟨rfl, rfl⟩
  | a :: r, k + 1, hk => by
    have h := cs2_at r k (by simpa using hk)
    rw [show (k + 1) * 2 = k * 2 + 1 + 1 by omega]
    simpa [cs2] using h
theorem cs2_one (l : List Ky) : ∀ u ∈ cs2 l, u.oneCell' = true := by
  induction l with
  | nil => intro u hu; cases hu
  | cons k r ih =>
    intro u hu
    simp only [cs2, List.mem_cons] at hu
    rcases hu with rfl | rfl | hu
    · rfl
    · rfl
    · exact ih u hu
/-- A list of Keys as it can be read. -/
def KAt (w : World) (b o : Nat) (k : Ky) : Prop := w.cell? ⟨b, o, none⟩ = some (.int .i64 k.1) ∧ w.cell? ⟨b, o + 1, none⟩ = some (.int .i64 k.2)
theorem KAt.below {w w' : World} {b o : Nat} {k : Ky} (h : KAt w b o k) (hb : Below w.heap.size w w') : KAt w' b o k :=
  ⟨(hb.cell (World.block_lt_of_cell? w _ h.1)).trans h.1, (hb.cell (World.block_lt_of_cell? w _ h.2)).trans h.2⟩
def KRd (w : World) (v : Value) (l : List Ky) : Prop :=
  ∃ ad cap, v = .slice ad l.length cap ∧ l.length ≤ cap ∧ (0 < l.length → ∃ b o, ad = some ⟨b, o, none⟩ ∧ ∀ k (hk : k < l.length), KAt w b (o + k * 2) l[k])
theorem KRd.below {w w' : World} {v : Value} {l : List Ky} (h : KRd w v l) (hb : Below w.heap.size w w') : KRd w' v l := by
  obtain ⟨ad, cap, h1, h2, h3⟩ := h
  exact ⟨ad, cap, h1, h2, fun h0 => by obtain ⟨b, o, e, hs⟩ := h3 h0; exact ⟨b, o, e, fun k hk => (hs k hk).below hb⟩⟩
def KRow (w : World) (B : Nat) (v : Value) (l : List Ky) : Prop := w.ownsRow B 32 2 v l.length (cs2 l)
theorem KRow.below {w w' : World} {B : Nat} {v : Value} {l : List Ky} (h : KRow w B v l) (hb : Below w.heap.size w w') : KRow w' B v l := own_below h hb
theorem KRow.nil (w : World) (B : Nat) : KRow w B (.slice none 0 0) [] := World.ownsRow_nil _ _ _ _
theorem KRow.rd {w : World} {B : Nat} {v : Value} {l : List Ky} (h : KRow w B v l) : KRd w v l := by
  rcases h.2 with ⟨rfl, h0⟩ | ⟨g, cap, cur, rfl, _, hh, hn, _, hsz, htake⟩
  · exact ⟨none, 0, by rw [h0], by omega, fun h => by omega⟩
  · refine ⟨_, cap, rfl, hn, fun _ => ⟨g, 0, rfl, fun k hk => ?_⟩⟩
    obtain ⟨c0, c1⟩ := cs2_at l k hk
    have f : ∀ t, t < l.length * 2 → w.cell? ⟨g, t, none⟩ = (cs2 l)[t]? := fun t ht => by
      rw [cell_of_row w g t _ _ _ hh, ← htake, List.getElem?_take_of_lt ht, Array.getElem?_toList]
    rw [Nat.zero_add]
    exact ⟨(f _ (by omega)).trans c0, (f _ (by omega)).trans c1⟩

/-- A Post as it lies: its Key, its places' slice, and what that holds. -/
structure Pv where
  o : Int
  s : Int
  a : Value
  ns : List Int
def Pv.p (x : Pv) : Po := ⟨(x.o, x.s), x.ns⟩
theorem Pv.p_k (x : Pv) : x.p.k = (x.o, x.s) := rfl
theorem Pv.p_ns (x : Pv) : x.p.ns = x.ns := rfl
def ps (l : List Pv) : List Po := l.map Pv.p
structure PAt (w : World) (b o : Nat) (x : Pv) : Prop where
  c0 : w.cell? ⟨b, o, none⟩ = some (.int .i64 x.o)
  c1 : w.cell? ⟨b, o + 1, none⟩ = some (.int .i64 x.s)
  c2 : w.cell? ⟨b, o + 2, none⟩ = some x.a
  nl : Nl w x.a x.ns
theorem PAt.below {w w' : World} {b o : Nat} {x : Pv} (h : PAt w b o x) (hb : Below w.heap.size w w') : PAt w' b o x :=
  ⟨(hb.cell (World.block_lt_of_cell? w _ h.c0)).trans h.c0, (hb.cell (World.block_lt_of_cell? w _ h.c1)).trans h.c1, (hb.cell (World.block_lt_of_cell? w _ h.c2)).trans h.c2, h.nl.below hb⟩
def PRd (w : World) (v : Value) (l : List Pv) : Prop :=
  ∃ ad cap, v = .slice ad l.length cap ∧ l.length ≤ cap ∧ (0 < l.length → ∃ b o, ad = some ⟨b, o, none⟩ ∧ ∀ k (hk : k < l.length), PAt w b (o + k * 3) l[k])
theorem PRd.below {w w' : World} {v : Value} {l : List Pv} (h : PRd w v l) (hb : Below w.heap.size w w') : PRd w' v l := by
  obtain ⟨ad, cap, h1, h2, h3⟩ := h
  exact ⟨ad, cap, h1, h2, fun h0 => by obtain ⟨b, o, e, hs⟩ := h3 h0; exact ⟨b, o, e, fun k hk => (hs k hk).below hb⟩⟩
/-- A list of lists of Posts: each with its slice. -/
structure Lv where
  v : Value
  l : List Pv
def pls (ls : List Lv) : List (List Po) := ls.map fun x => ps x.l
def LRd (w : World) (v : Value) (ls : List Lv) : Prop :=
  (∃ ad cap, v = .slice ad ls.length cap ∧ ls.length ≤ cap ∧ (0 < ls.length → ∃ b o, ad = some ⟨b, o, none⟩ ∧ ∀ k (hk : k < ls.length), w.cell? ⟨b, o + k, none⟩ = some ls[k].v)) ∧ ∀ x ∈ ls, PRd w x.v x.l
theorem LRd.below {w w' : World} {v : Value} {ls : List Lv} (h : LRd w v ls) (hb : Below w.heap.size w w') : LRd w' v ls := by
  obtain ⟨⟨ad, cap, h1, h2, h3⟩, h4⟩ := h
  exact ⟨⟨ad, cap, h1, h2, fun h0 => by obtain ⟨b, o, e, hs⟩ := h3 h0; exact ⟨b, o, e, fun k hk => (hb.cell (World.block_lt_of_cell? w _ (hs k hk))).trans (hs k hk)⟩⟩, fun x hx => (h4 x hx).below hb⟩
theorem eq_key (a b c d : Int) (w : World) : (Op.equalIn 10000 32 (.agg #[.int .i64 a, .int .i64 b]) (.agg #[.int .i64 c, .int .i64 d])).run Tryd.prog w = .ok (a == c && b == d) w := by
  have u3 := Tryd.underlying3
  have a3 := Tryd.isAgg3
  have z3 := Tryd.sizeOf3
  rw [show (10000 : Nat) = 9999 + 1 from rfl, run_equalIn_struct w 9999 32 _ _ (by kernel_rfl) (by kernel_rfl)]
  simp only [Program.fieldsOf, Tryd.underlying32]
  go_simp
  by_cases h1 : a = c <;> by_cases h2 : b = d <;> simp [h1, h2]
theorem below_two (w : World) (o o' : Obj) : Below w.heap.size w ((w.alloc o).alloc o') := ((Below.refl _ _).alloc (Nat.le_refl _) _).alloc (by simp) _
end Go.Proofs.YtchkadifjbmmpaaDoor.P
namespace Go.Proofs.YtchkadifjbmmpaaDoor.P
open Go.RowKit Go.Lib

theorem kLt_eq (o s p q : Int) : kLt (o, s) (p, q) = (decide (o < p) || (o == p && decide (s < q))) := rfl
theorem refbefore_c (o s p q : Int) (w : World) : Calls Tryd.prog 63 #[.agg #[.int .i64 o, .int .i64 s], .agg #[.int .i64 p, .int .i64 q]] w fun e w' => e = .returned (.bool (kLt (o, s) (p, q))) ∧ Below w.heap.size w w' := by
  by_cases h : o < p
  · have e0 : decide (o < p) = true := by simpa using h
    have hl : kLt (o, s) (p, q) = true := by simp [kLt, h]
    rw [hl]
    clear hl
    go_enter Tryd.func63, Tryd.ntmps63
    go_wp2
    go_ret
    exact ⟨by simp, below_two _ _ _⟩
  · have e0 : decide (o < p) = false := by simpa using h
    by_cases h2 : o = p
    · subst h2
      have e1 : (o == o) = true := by simp
      have hl : kLt (o, s) (o, q) = decide (s < q) := by simp [kLt]
      rw [hl]
      clear hl h
      generalize hC : decide (s < q) = C
      go_enter Tryd.func63, Tryd.ntmps63
      go_wp2
      go_ret
      exact ⟨by simp, below_two _ _ _⟩
    · have e1 : (o == p) = false := by simpa using h2
      have hl : kLt (o, s) (p, q) = false := by simp [kLt, h, h2]
      rw [hl]
      clear hl
      go_enter Tryd.func63, Tryd.ntmps63
      go_wp2
      go_ret
      exact ⟨by simp, below_two _ _ _⟩
def inL (l : List Int) (n : Int) : Bool := l.contains n
theorem inL_nil (n : Int) : inL [] n = false := rfl
theorem inL_cons (a : Int) (l : List Int) (n : Int) : inL (a :: l) n = (n == a || inL l n) := rfl
end Go.Proofs.YtchkadifjbmmpaaDoor.P
namespace Go.Proofs.YtchkadifjbmmpaaDoor.P
open Go.RowKit Go.Lib

theorem upB_le : ∀ (l : List Int) (p : Int), upB p l = true → ∀ x ∈ l, p < x
  | [], _, _, x, hx => by cases hx
  | a :: r, p, h, x, hx => by
    simp only [upB, Bool.and_eq_true, decide_eq_true_eq] at h
    rcases List.mem_cons.1 hx with rfl | hx
    · exact h.1
    · have := upB_le r a h.2 x hx
      omega
end Go.Proofs.YtchkadifjbmmpaaDoor.P
namespace Go.Proofs.YtchkadifjbmmpaaDoor.P
open Go.RowKit Go.Lib

/-- Where a Key stands; -1. -/
def fndI (i : Nat) : List Pv → Int → Int → Int
  | [], _, _ => -1
  | x :: r, o, s => if x.o == o && x.s == s then (i : Int) else fndI (i + 1) r o s
theorem fndI_spec : ∀ (l : List Pv) (i : Nat) (o s : Int), (fndI i l o s = -1 ∧ (∀ x ∈ l, x.p.k ≠ (o, s))) ∨ ∃ j : Nat, ∃ hj : j < l.length, fndI i l o s = ((i + j : Nat) : Int) ∧ l[j].p.k = (o, s) ∧ ∀ t, (ht : t < l.length) → t < j → l[t].p.k ≠ (o, s)
  | [], i, o, s => .inl ⟨rfl, fun x hx => by cases hx⟩
  | x :: r, i, o, s => by
    unfold fndI
    by_cases h : x.o = o ∧ x.s = s
    · obtain ⟨rfl, rfl⟩ := h
      refine .inr ⟨0, by simp, by simp, rfl, fun t _ ht => by omega⟩
    · have hb : (x.o == o && x.s == s) = false := by
        cases hb : (x.o == o && x.s == s) with
        | false => rfl
        | true => simp at hb; exact absurd hb h
      rw [hb]
      have hne : x.p.k ≠ (o, s) := fun e => h (by rw [Pv.p_k, Prod.mk.injEq] at e; exact e)
      rcases fndI_spec r (i + 1) o s with ⟨h1, h2⟩ | ⟨j, hj, h1, h2, h3⟩
      · refine .inl ⟨h1, fun y hy => ?_⟩
        rcases List.mem_cons.1 hy with rfl | hy
        · exact hne
        · exact h2 y hy
      · refine .inr ⟨j + 1, by simpa using hj, ?_, h2, fun t ht htj => ?_⟩
        · simp only [Bool.false_eq_true, if_false]
          rw [h1]
          omega
        · cases t with
          | zero => exact hne
          | succ t => exact h3 t (by simpa using ht) (by omega)
end Go.Proofs.YtchkadifjbmmpaaDoor.P
namespace Go.Proofs.YtchkadifjbmmpaaDoor.P
open Go.RowKit Go.Lib

theorem take_ok {P : Program} {ops : Array Oper} {Q : Exit → Act → World → Prop} {md : Region.Mode} {S : World → Prop} {i : Nat} {oi : Oper} {d : Nat} {v : Value} {fuel : Nat} {listed : Array Bool} {a : Act} {w : World} (hi : ops[i]? = some oi) (hd : oi.dst = some d)
    (hs : Region.noSelect ops = true) (hf : Region.free md ops listed i = true) (hr : (Region.ready md ops listed).contains i = true)
    (hQ : ∀ c a w, Q (.panic c) (a.put oi.dst v) w → Q (.panic c) a w) (hy : YieldsIf P ops S oi v a) (hS : S w)
    (h : wpAnyH P md ops Q S fuel (listed.setIfInBounds i true) (a.put (some d) v) w) : wpAnyH P md ops Q S (fuel + 1) listed a w :=
  wpAnyH_take hi hs hf hr hQ hy hS (by rw [hd]; exact h)
theorem mayFrom_no {q : Option Ky} {x : Po} {r : List Po} (h : oneB x.ns = false) : mayFrom q (x :: r) = false := by
  cases q <;> simp [mayFrom, h]
theorem mayFrom_none {x : Po} {r : List Po} (h : oneB x.ns = true) : mayFrom none (x :: r) = mayFrom (some x.k) r := by simp [mayFrom, h]
theorem mayFrom_some {q : Ky} {x : Po} {r : List Po} (h : oneB x.ns = true) : mayFrom (some q) (x :: r) = (kLt q x.k && mayFrom (some x.k) r) := by simp [mayFrom, h]
end Go.Proofs.YtchkadifjbmmpaaDoor.P
namespace Go.Proofs.YtchkadifjbmmpaaDoor.P
open Go.RowKit Go.Lib

theorem keyInfo : (Tryd.prog.info? 32).map (fun i => (i.zero, i.size, i.bytes)) = some (some (.agg #[.int .i64 0, .int .i64 0]), 2, 16) := by kernel_rfl
theorem own_form {w : World} {B : Nat} {e : TypeId} {z : Nat} {v : Value} {n : Nat} {xs : List Value} (h : w.ownsRow B e z v n xs) : ∃ A C, v = .slice A n C ∧ n ≤ C := by
  rcases h.2 with ⟨rfl, h0⟩ | ⟨g, cap, cur, rfl, _, _, hn, _⟩
  · exact ⟨none, 0, by rw [h0], by omega⟩
  · exact ⟨_, _, rfl, hn⟩
/-- append of Keys to a row of one's own. -/
theorem kapp_run (l m : List Ky) (v u : Value) (w : World) (ty : TypeId) (B : Nat) (h : KRow w B v l) (hu : KRd w u m) (hn : l.length + m.length ≤ 1000000) (hB : B ≤ w.heap.size) :
    ∃ A C w1, (Builtin.append_ #[41, 41] ty #[v, u]).run Tryd.prog w = .ok (.slice A (l ++ m).length C) w1 ∧ KRow w1 B (.slice A (l ++ m).length C) (l ++ m) ∧ w.grownBy w1 v.ownBlock ∧ ((Value.slice A (l ++ m).length C).ownBlock = v.ownBlock ∨ (Value.slice A (l ++ m).length C).ownBlock = some w.heap.size) := by
  obtain ⟨i0, hi, hz0, hz1, hz2⟩ := info_parts keyInfo
  obtain ⟨ad, cap, rfl, hcap, h3⟩ := id hu
  have fin : ∀ a : Addr, (∀ j x, (cs2 m)[j]? = some x → w.cell? (a.add j) = some x) → ∃ A C w1, (Builtin.append_ #[41, 41] ty #[v, .slice (some a) m.length cap]).run Tryd.prog w = .ok (.slice A (l ++ m).length C) w1 ∧ KRow w1 B (.slice A (l ++ m).length C) (l ++ m) ∧ w.grownBy w1 v.ownBlock ∧ ((Value.slice A (l ++ m).length C).ownBlock = v.ownBlock ∨ (Value.slice A (l ++ m).length C).ownBlock = some w.heap.size) := fun a ha => by
    obtain ⟨v', w', h1, h2, h4, _, h5⟩ := run_append_own_at (P := Tryd.prog) w B 41 ty 32 i0 _ 2 16 Tryd.underlying41 hi hz0 hz1 hz2 rfl (by decide) v l.length (cs2 l) h a m.length cap (cs2 m) (cs2_len m) ha (cs2_one m) (by unfold maxLen; omega) (by omega) hB
    have hr : KRow w' B v' (l ++ m) := by
      unfold KRow
      rw [List.length_append, cs2_app]
      exact h2
    obtain ⟨A, C, rfl, _⟩ := own_form hr
    exact ⟨A, C, w', h1, hr, h4, h5⟩
  cases m with
  | nil =>
    cases ad with
    | some a => exact fin a (fun j x hj => by simp [cs2] at hj)
    | none =>
      obtain ⟨A, C, rfl, hc⟩ := own_form h
      refine ⟨A, C, w, ?_, ?_, grown_refl _ _, .inl ?_⟩
      · simp only [List.append_nil]
        cases A <;> simp [Builtin.append_, go_sem, run_underlying Tryd.underlying41, hc]
      · simp only [List.append_nil]
        exact h
      · simp only [List.append_nil]
  | cons k r =>
    obtain ⟨b, o, rfl, hat⟩ := h3 (by simp)
    refine fin ⟨b, o, none⟩ (fun j x hj => ?_)
    have hjl : j < (cs2 (k :: r)).length := by
      rcases Nat.lt_or_ge j (cs2 (k :: r)).length with h | h
      · exact h
      · rw [List.getElem?_eq_none h] at hj; cases hj
    rw [cs2_len] at hjl
    rw [Go.WideShapes.add_plain]
    obtain ⟨t, rfl | rfl⟩ : ∃ t, j = t * 2 ∨ j = t * 2 + 1 := ⟨j / 2, by omega⟩
    · rw [(cs2_at (k :: r) t (by omega)).1] at hj
      rw [← Option.some.inj hj]
      exact (hat t (by omega)).1
    · rw [(cs2_at (k :: r) t (by omega)).2] at hj
      rw [← Option.some.inj hj]
      exact (hat t (by omega)).2
/-- One Key just laid. -/
theorem KRd.one (w : World) (o s : Int) (T : TypeId) : KRd (w.alloc (.cells #[.int .i64 o, .int .i64 s] T)) (.slice (some ⟨w.heap.size, 0, none⟩) 1 1) [(o, s)] := by
  refine ⟨_, 1, rfl, by simp, fun _ => ⟨w.heap.size, 0, rfl, fun k hk => ?_⟩⟩
  have hx := Bx.new T w #[.int .i64 o, .int .i64 s]
  match k, hk with
  | 0, _ => exact ⟨hx.cell 0, hx.cell 1⟩
/-- One Key more behind a row of one's own. -/
theorem KRow.push {w : World} {B : Nat} {v : Value} {l : List Ky} (h : KRow w B v l) (o s : Int) (hn : l.length ≤ 100000) (hB : B ≤ w.heap.size) (ty T : TypeId) :
    ∃ A C w1, (Builtin.append_ #[41, 41] ty #[v, .slice (some ⟨w.heap.size, 0, none⟩) 1 1]).run Tryd.prog (w.alloc (.cells #[.int .i64 o, .int .i64 s] T)) = .ok (.slice A (l.length + 1) C) w1 ∧ KRow w1 B (.slice A (l.length + 1) C) (l ++ [(o, s)]) ∧ Below B w w1 := by
  have hal := alloc_below w (.cells #[.int .i64 o, .int .i64 s] T)
  obtain ⟨A, C, w1, h1, h2, h3, _⟩ := kapp_run l [(o, s)] v _ _ ty B (h.below hal) (KRd.one w o s T) (by simp; omega) (Nat.le_trans hB hal.size)
  simp only [List.length_append, List.length_singleton] at h1 h2
  refine ⟨A, C, w1, h1, h2, ?_⟩
  have hb := below_of_grown h3 (Nat.le_trans hB hal.size) (fun g hg => (World.ownsRow.lt h g hg).1)
  exact (hal.mono hB).trans hb
end Go.Proofs.YtchkadifjbmmpaaDoor.P
namespace Go.Proofs.YtchkadifjbmmpaaDoor.P
open Go.RowKit Go.Lib

def keysT (l : List Ky) (w : World) (e : Ending) (w' : World) : Prop := ∃ v, e = .returned v ∧ KRow w' w.heap.size v l ∧ Below w.heap.size w w'
theorem lessK_snoc (a : List Ky) (k : Ky) (s : List Ky) : lessK (a ++ [k]) s = if s.contains k then lessK a s else lessK a s ++ [k] := by
  unfold lessK
  rw [List.filter_append]
  cases h : s.contains k with
  | true =>
    rw [List.filter_cons_of_neg (by rw [h]; simp), List.filter_nil, List.append_nil]
    rfl
  | false =>
    rw [List.filter_cons_of_pos (by rw [h]; rfl), List.filter_nil]
    rfl
end Go.Proofs.YtchkadifjbmmpaaDoor.P
namespace Go.Proofs.YtchkadifjbmmpaaDoor.P
open Go.RowKit Go.Lib
set_option maxRecDepth 100000

theorem sliced_is (ad : Option Addr) (lo hi cap z : Nat) : ∃ A N C, sliced ad lo hi cap z = .slice A N C := by
  unfold sliced
  cases ad with
  | none => exact ⟨_, _, _, rfl⟩
  | some a => exact ⟨_, _, _, rfl⟩
/-- A piece of a list of Keys holds the piece of them. -/
theorem krd_sliced {w : World} {ad : Option Addr} {cap : Nat} {l : List Ky} (h : KRd w (.slice ad l.length cap) l) (lo hi : Nat) (hlh : lo ≤ hi) (hhi : hi ≤ l.length) : KRd w (sliced ad lo hi cap 2) ((l.drop lo).take (hi - lo)) := by
  have hlen : ((l.drop lo).take (hi - lo)).length = hi - lo := by simp; omega
  obtain ⟨ad', cap', e, hcap, h2⟩ := h
  simp only [Value.slice.injEq, true_and] at e
  obtain ⟨rfl, rfl⟩ := e
  refine ⟨if cap = lo then ad else ad.map fun a => a.add (lo * 2), cap - lo, ?_, by rw [hlen]; omega, fun h0 => ?_⟩
  · rw [hlen]
    unfold sliced
    cases ad with
    | none => simp
    | some a =>
      by_cases h0 : cap = lo
      · simp [h0]
      · simp [h0]
  · rw [hlen] at h0
    obtain ⟨b, o, rfl, hs⟩ := h2 (by omega)
    have hne : ¬ cap = lo := by omega
    rw [if_neg hne]
    refine ⟨b, o + lo * 2, by simp only [Option.map_some]; rw [Go.WideShapes.add_plain], fun k hk => ?_⟩
    rw [hlen] at hk
    have h3 := hs (lo + k) (by omega)
    rw [List.getElem_take, List.getElem_drop, show o + lo * 2 + k * 2 = o + (lo + k) * 2 by omega]
    exact h3
theorem kslice_run (ad : Option Addr) (n cap : Nat) (lo hi : Option Value) (l h : Nat) (W : World) (hb : (Instr.sliceBounds true n cap lo hi none).run Tryd.prog W = .ok (l, h, cap) W) : (Instr.sliceAt 41 (.slice ad n cap) lo hi none).run Tryd.prog W = .ok (sliced ad l h cap 2) W := by
  have hs : (sizeOf 32).run Tryd.prog W = .ok 2 W := by
    have := Tryd.sizeOf32
    simp [sizeOf]
    rfl
  rw [run_sliceAt_slice W _ _ _ _ _ Tryd.underlying41, run_slice_any W _ _ _ _ Tryd.underlying41, hb]
  simp only [Result.andThen]
  rw [show Tryd.prog.elem 41 = 32 by kernel_rfl, hs]
theorem step_kapp {w : World} {ops : Array Oper} {o : Oper} {a : Act} {K : Act → World → Prop} {Q : Exit → Act → World → Prop} {E : Prop} (hgd : o.guard = none) (s x : Operand)
    (ho : o.op = .call { callee := .builtin .append, args := #[s, x], argTypes := #[41, 41] })
    (B : Nat) (v u : Value) (m l : List Ky) (hs : a.eval s = v) (hx : a.eval x = u) (hv : KRow w B v m) (hu : KRd w u l) (hn : m.length + l.length ≤ 1000000) (hB : B ≤ w.heap.size)
    (h : ∀ v' w', KRow w' B v' (m ++ l) → w.grownBy w' v.ownBlock → K (a.put o.dst v') w') :
    if Region.wanted o (yielded ops a.tmps) = true then Oper.wp Tryd.prog o a w K Q else E := by
  have hw : Region.wanted o (yielded ops a.tmps) = true := by simp [Region.wanted, hgd]
  rw [if_pos hw]
  obtain ⟨A, C, w', hr, h2, h3, _⟩ := kapp_run m l v u w o.type B hv hu hn hB
  unfold Oper.wp execOp
  simp only [ho, resolve, invoke, builtin, Sem.run_bind, Sem.run_pure, Result.andThen_ok, List.map_toArray, List.map_cons, List.map_nil, hs, hx, hr]
  exact h _ w' h2 h3
theorem krd_one {w : World} {B : Nat} {o s : Int} (h : Bx 32 w B #[.int .i64 o, .int .i64 s]) : KRd w (.slice (some ⟨B, 0, none⟩) 1 1) [(o, s)] := by
  refine ⟨_, 1, rfl, by simp, fun _ => ⟨B, 0, rfl, fun k hk => ?_⟩⟩
  match k, hk with
  | 0, _ => exact ⟨h.cell 0, h.cell 1⟩
theorem tw_split (f : Ky → Bool) : ∀ (l : List Ky) (i : Nat), i ≤ l.length → (∀ t (ht : t < l.length), t < i → f l[t] = true) → (∀ h : i < l.length, f l[i] = false) → l.takeWhile f = l.take i ∧ l.dropWhile f = l.drop i
  | [], i, hi, _, _ => by simp
  | a :: l, 0, _, _, h => by
    have := h (by simp)
    simp only [List.getElem_cons_zero] at this
    simp [this]
  | a :: l, i + 1, hi, h1, h2 => by
    have h0 := h1 0 (by simp) (by omega)
    simp only [List.getElem_cons_zero] at h0
    have ih := tw_split f l i (by simpa using hi) (fun t ht hti => h1 (t + 1) (by simpa using ht) (by omega)) (fun h => h2 (by simpa using h))
    simp [h0, ih]
set_option maxHeartbeats 16000000 in
theorem into_c (l : List Ky) (o s : Int) (v : Value) (w : World) (B : Nat) (h : KRow w B v l) (hB : B ≤ w.heap.size) (hn : l.length ≤ 100000) :
    Calls Tryd.prog 39 #[v, .agg #[.int .i64 o, .int .i64 s]] w fun e w' => ∃ v', e = .returned v' ∧ KRow w' B v' (into l (o, s)) ∧ Below w.heap.size w w' := by
  obtain ⟨ad, cap, rfl, hcap⟩ := own_form h
  have hal := alloc_below w (.cells #[.int .i64 o, .int .i64 s] 32)
  have bx := Bx.new 32 w #[.int .i64 o, .int .i64 s]
  obtain ⟨w1, hw1⟩ : ∃ w1, w1 = w.alloc (.cells #[.int .i64 o, .int .i64 s] 32) := ⟨_, rfl⟩
  rw [← hw1] at hal bx
  have HK := Lib.hid (h.below hal)
  have CB := Lib.hid bx
  have HW := Lib.hid hw1
  have HAL := Lib.hid hal
  have HBB := Lib.hid hB
  clear h hal bx hw1
  go_enter Tryd.func39, Tryd.ntmps39
  go_wp2
  go_loopw [5] (fun v5 wr => ∃ k : Nat, k ≤ l.length ∧ v5 = .int .i64 (k : Int) ∧ Hid (Below w1.heap.size w1 wr) ∧ Hid (∀ t (ht : t < l.length), t < k → kLt l[t] (o, s) = true)) (fun v5 _ => l.length - (intOf v5).toNat)
  case atStart => exact ⟨0, by omega, rfl, Lib.hid (by rw [HW.out]; exact Below.refl _ _), Lib.hid (fun t _ ht => by omega)⟩
  case round =>
    obtain ⟨k, hk, rfl, HB, hs⟩ := hrel
    have hgl := (CB.out.below HB.out).lt
    by_cases hp : k < l.length
    · obtain ⟨ad', cap', e1, _, c3⟩ := (HK.out.below HB.out).rd
      simp only [Value.slice.injEq, true_and] at e1
      obtain ⟨rfl, rfl⟩ := e1
      obtain ⟨g, o1, rfl, c1⟩ := c3 (by omega)
      have a1 := c1 k hp
      have HP := Lib.hid hp
      have HT : Hid (∀ y, l[k] = y → kLt y (o, s) = true → ∀ t (ht : t < l.length), t < k + 1 → kLt l[t] (o, s) = true) := Lib.hid (fun y hy h t ht htk => by
        subst hy
        rcases Nat.lt_or_ge t k with h1 | h1
        · exact hs.out t ht h1
        · obtain rfl : t = k := by omega
          exact h)
      have HF : Hid (∀ y, l[k] = y → kLt y (o, s) = false → l.takeWhile (fun x => kLt x (o, s)) = l.take k ∧ l.dropWhile (fun x => kLt x (o, s)) = y :: l.drop (k + 1)) := Lib.hid (fun y hy h => by
        subst hy
        have h1 := tw_split (fun x => kLt x (o, s)) l k hk hs.out (fun _ => h)
        rw [h1.1, h1.2, List.drop_eq_getElem_cons hp]
        exact ⟨rfl, rfl⟩)
      have HD : Hid (∀ y, l[k] = y → l.drop k = y :: l.drop (k + 1)) := Lib.hid (fun y hy => by subst hy; exact List.drop_eq_getElem_cons hp)
      generalize hy : l[k] = y at a1
      obtain ⟨yo, ys⟩ := y
      have HY := Lib.hid hy
      have HA1 := Lib.hid a1
      have HS : Hid (∀ W, Below wr.heap.size wr W → W.cell? ⟨w.heap.size, 0, none⟩ = some (.int .i64 o) ∧ W.cell? ⟨w.heap.size, 1, none⟩ = some (.int .i64 s) ∧ W.cell? ⟨g, o1 + k * 2, none⟩ = some (.int .i64 yo) ∧ W.cell? ⟨g, o1 + k * 2 + 1, none⟩ = some (.int .i64 ys)) := Lib.hid (fun W hb => ⟨(CB.out.below (bn HB.out hb)).cell 0, (CB.out.below (bn HB.out hb)).cell 1, (a1.below hb).1, (a1.below hb).2⟩)
      have CK := Lib.hid (fun W => refbefore_c yo ys o s W)
      have hgl1 := World.block_lt_of_cell? _ _ a1.1
      clear c3 c1 a1 hy
      cases hL : kLt (yo, ys) (o, s) with
      | true =>
        rw [hL] at CK
        have HT2 := Lib.hid (HT.out _ HY.out hL)
        clear hL HT HF HD
        go_wp2_with fail
        go_region_held3 (fun W => W.cell? ⟨w.heap.size, 0, none⟩ = some (.int .i64 o) ∧ W.cell? ⟨w.heap.size, 1, none⟩ = some (.int .i64 s) ∧ W.cell? ⟨g, o1 + k * 2, none⟩ = some (.int .i64 yo) ∧ W.cell? ⟨g, o1 + k * 2 + 1, none⟩ = some (.int .i64 ys)) (exact HS.out _ (by first | assumption | exact (Below.refl _ _).drew | exact Below.refl _ _))
          (first
          | (go_at_call 63; refine (CK.out _).mono ?_; rintro e w5 ⟨rfl, b5⟩; have b5' : Below wr.heap.size wr w5 := bn (by first | assumption | exact (Below.refl _ _).drew | exact Below.refl _ _) b5; clear b5)
          | fail)
        have HB5 := Lib.hid (bn HB.out b5')
        clear b5' HS CK
        go_wp2
        go_roundw
        case rel => exact ⟨k + 1, HP.out, by go_num, HB5, HT2⟩
        case measure => have := HP.out; simp [intOf]; omega
      | false =>
        rw [hL] at CK
        have HF2 := Lib.hid (HF.out _ HY.out hL)
        clear hL HT HF
        go_wp2_with fail
        go_region_held3 (fun W => W.cell? ⟨w.heap.size, 0, none⟩ = some (.int .i64 o) ∧ W.cell? ⟨w.heap.size, 1, none⟩ = some (.int .i64 s) ∧ W.cell? ⟨g, o1 + k * 2, none⟩ = some (.int .i64 yo) ∧ W.cell? ⟨g, o1 + k * 2 + 1, none⟩ = some (.int .i64 ys)) (exact HS.out _ (by first | assumption | exact (Below.refl _ _).drew | exact Below.refl _ _))
          (first
          | (go_at_call 63; refine (CK.out _).mono ?_; rintro e w5 ⟨rfl, b5⟩; have b5' : Below wr.heap.size wr w5 := bn (by first | assumption | exact (Below.refl _ _).drew | exact Below.refl _ _) b5; clear b5)
          | fail)
        have HB8 := Lib.hid (bn HB.out b5')
        obtain ⟨c0, c1, y0, y1⟩ := HS.out w5 b5'
        have hgl2 := World.block_lt_of_cell? _ _ c0
        have hgl3 := World.block_lt_of_cell? _ _ y0
        clear b5' HS CK
        cases e1 : (yo == o && ys == s) with
        | true =>
          have q : ∀ W, (Op.equalIn 10000 32 (.agg #[.int .i64 yo, .int .i64 ys]) (.agg #[.int .i64 o, .int .i64 s])).run Tryd.prog W = .ok true W := fun W => by rw [← e1]; exact eq_key yo ys o s W
          have HI : Hid (into l (o, s) = l) := Lib.hid (by
            simp only [Bool.and_eq_true, beq_iff_eq] at e1
            unfold into
            rw [HF2.out.2, List.head?_cons, e1.1, e1.2, if_pos rfl])
          clear e1
          go_wp2_with fail
          go_quiet (fail)
          go_wp2
          go_ret
          exact ⟨_, rfl, by rw [HI.out]; exact HK.out.below (below_drewN HB8.out _), bn HAL.out (below_drewN HB8.out _)⟩
        | false =>
          have q : ∀ W, (Op.equalIn 10000 32 (.agg #[.int .i64 yo, .int .i64 ys]) (.agg #[.int .i64 o, .int .i64 s])).run Tryd.prog W = .ok false W := fun W => by rw [← e1]; exact eq_key yo ys o s W
          have HI : Hid (into l (o, s) = l.take k ++ (o, s) :: l.drop k) := Lib.hid (by
            unfold into
            rw [HF2.out.2, List.head?_cons, if_neg (by intro e; cases e; simp at e1), HF2.out.1, HD.out _ HY.out])
          have HB9 : Hid (∀ n, Below w1.heap.size w1 (w5.drewN n)) := Lib.hid (fun n => below_drewN HB8.out n)
          clear e1 HF2 HD HB8
          go_wp2_with fail
          go_quiet (fail)
          have HB8 : Hid (Below w1.heap.size w1 (w5.drewN nq)) := Lib.hid (HB9.out _)
          obtain ⟨W0, hW0⟩ : ∃ W0, W0 = w5.drewN nq := ⟨_, rfl⟩
          rw [← hW0] at HB8
          obtain ⟨A1, N1, C1, hV1⟩ : ∃ A1 N1 C1, sliced (some ⟨g, o1, none⟩) 0 k cap 2 = .slice A1 N1 C1 := sliced_is ..
          obtain ⟨A3, N3, C3, hV3⟩ : ∃ A3 N3 C3, sliced (some ⟨g, o1, none⟩) k l.length cap 2 = .slice A3 N3 C3 := sliced_is ..
          have r1 : ∀ W, (Instr.sliceAt 41 (.slice (some ⟨g, o1, none⟩) l.length cap) none (some (.int .i64 (k : Int))) none).run Tryd.prog W = .ok (.slice A1 N1 C1) W := fun W => by
            rw [← hV1]
            exact kslice_run (some ⟨g, o1, none⟩) _ cap _ _ _ _ W (by simp [Instr.sliceBounds, run_sliceBound_if, show k ≤ cap by omega])
          have r3 : ∀ W, (Instr.sliceAt 41 (.slice (some ⟨g, o1, none⟩) l.length cap) (some (.int .i64 (k : Int))) none none).run Tryd.prog W = .ok (.slice A3 N3 C3) W := fun W => by
            rw [← hV3]
            exact kslice_run (some ⟨g, o1, none⟩) _ cap _ _ _ _ W (by simp [Instr.sliceBounds, run_sliceBound_if, hk])
          have HV1 : Hid (∀ W, Below W0.heap.size W0 W → KRd W (.slice A1 N1 C1) (l.take k)) := Lib.hid (fun W hb => by
            have h := (krd_sliced (HK.out.below (bn HB8.out hb)).rd 0 k (by omega) hk)
            rwa [hV1, List.drop_zero, Nat.sub_zero] at h)
          have HV3 : Hid (∀ W, Below W0.heap.size W0 W → KRd W (.slice A3 N3 C3) (l.drop k)) := Lib.hid (fun W hb => by
            have h := (krd_sliced (HK.out.below (bn HB8.out hb)).rd k l.length hk (Nat.le_refl _))
            rwa [hV3, List.take_of_length_le (by simp)] at h)
          have HC8 : Hid (∀ W, Below W0.heap.size W0 W → W.cell? ⟨w.heap.size, 0, none⟩ = some (.int .i64 o) ∧ W.cell? ⟨w.heap.size, 1, none⟩ = some (.int .i64 s)) := Lib.hid (fun W hb => ⟨(CB.out.below (bn HB8.out hb)).cell 0, (CB.out.below (bn HB8.out hb)).cell 1⟩)
          have HSZ := Lib.hid HB8.out.size
          clear hV1 hV3
          go_wp2_with fail
          rw [← hW0]
          clear hW0
          go_region_held3 (fun W => W.cell? ⟨w.heap.size, 0, none⟩ = some (.int .i64 o) ∧ W.cell? ⟨w.heap.size, 1, none⟩ = some (.int .i64 s)) (exact HC8.out _ (by first | assumption | exact Below.refl _ _ | exact (Below.refl _ _).drew | exact alloc_below _ _ | exact (alloc_below _ _).drew | exact ba.alloc ba.size _ | exact (ba.alloc ba.size _).drew))
            (first
            | (refine step_kapp rfl _ _ rfl W0.heap.size vb (.slice A3 N3 C3) (l.take k ++ [(o, s)]) (l.drop k) rfl rfl (by exact hrb) (HV3.out _ (by exact bb)) (by simp; omega) (by exact bb.size) ?_; intro vc wc hrc hgc; have bc : Below W0.heap.size W0 wc := bb.trans (below_of_grown hgc bb.size (fun g hg => (World.ownsRow.lt hrb g hg).1)))
            | (refine step_kapp rfl _ _ rfl W0.heap.size va (.slice (some ⟨W0.heap.size, 0, none⟩) 1 1) (l.take k) [(o, s)] rfl rfl (by exact hra) (by exact krd_one ((hga.block W0.heap.size (by simp) (by intro h; cases h)).trans (Bx.new 32 W0 _))) (by simp; omega) (by exact ba.size) ?_; intro vb wb hrb hgb; have bb : Below W0.heap.size W0 wb := ba.trans (below_of_grown hgb ba.size (fun g hg => (World.ownsRow.lt hra g hg).1)))
            | (refine step_kapp rfl _ _ rfl W0.heap.size va (.slice (some ⟨wa.heap.size, 0, none⟩) 1 1) (l.take k) [(o, s)] rfl rfl (by first | exact own_below hra (alloc_below _ _) | exact own_below hra (alloc_below _ _).drew) (by exact krd_one (Bx.new 32 wa _)) (by simp; omega) (by first | exact (ba.alloc ba.size _).size | exact (ba.alloc ba.size _).drew.size) ?_; intro vb wb hrb hgb; have bb : Below W0.heap.size W0 wb := (ba.alloc ba.size _).trans (below_of_grown hgb (ba.alloc ba.size _).size (fun g hg => (World.ownsRow.lt hra g hg).1)))
            | (refine step_kapp rfl _ _ rfl W0.heap.size (.slice none 0 0) (.slice A1 N1 C1) [] (l.take k) rfl rfl (World.ownsRow_nil _ _ _ _) (HV1.out _ (by first | assumption | exact Below.refl _ _ | exact (Below.refl _ _).drew | exact alloc_below _ _ | exact (alloc_below _ _).drew)) (by simp; omega) (by first | exact Nat.le_refl _ | (simp; done)) ?_; intro va wa hra hga; have ba : Below W0.heap.size W0 wa := bn (by first | assumption | exact Below.refl _ _ | exact (Below.refl _ _).drew | exact alloc_below _ _ | exact (alloc_below _ _).drew) (below_of_grown hga (Nat.le_refl _) (by intro g hg; cases hg)))
            | fail)
          all_goals
            go_wp2
            go_ret
            exact ⟨_, rfl, by rw [HI.out]; have h := own_mono hrc (Nat.le_trans HBB.out (Nat.le_trans HAL.out.size HSZ.out)); rwa [List.append_assoc] at h, bn HAL.out (HB8.out.trans (bc.mono HB8.out.size))⟩
    · have HI : Hid (into l (o, s) = l.take k ++ (o, s) :: l.drop k) := Lib.hid (by
        have h1 := tw_split (fun x => kLt x (o, s)) l k hk hs.out (fun h => absurd h hp)
        unfold into
        rw [h1.1, h1.2, List.drop_of_length_le (by omega), if_neg (by simp)])
      have HS : Hid (∀ W, Below wr.heap.size wr W → W.cell? ⟨w.heap.size, 0, none⟩ = some (.int .i64 o) ∧ W.cell? ⟨w.heap.size, 1, none⟩ = some (.int .i64 s)) := Lib.hid (fun W hb => ⟨(CB.out.below (bn HB.out hb)).cell 0, (CB.out.below (bn HB.out hb)).cell 1⟩)
      have hlk : decide ((k : Int) < (l.length : Int)) = false := by rw [decide_eq_false_iff_not]; omega
      have HS4 : Hid (∀ W, Below wr.drew.heap.size wr.drew W → W.cell? ⟨w.heap.size, 0, none⟩ = some (.int .i64 o) ∧ W.cell? ⟨w.heap.size, 1, none⟩ = some (.int .i64 s)) := Lib.hid (fun W hb => HS.out W (bn (Below.refl _ _).drew hb))
      go_wp2_with fail
      refine wp_region_held_drew (S := fun W => W.cell? ⟨w.heap.size, 0, none⟩ = some (.int .i64 o) ∧ W.cell? ⟨w.heap.size, 1, none⟩ = some (.int .i64 s)) (by kernel_rfl) (HS.out _ (Below.refl _ _).drew) (fun hHeld => ?_)
      refine take_ok (i := 0) (d := 6) (v := ?_) rfl rfl (by kernel_rfl) (by kernel_rfl) (by kernel_rfl) (fun _ _ _ h => h) (Or.inl ⟨by rfl, ?_⟩) (by assumption) ?_
      rotate_left
      · intro w9 hSw
        try dsimp only at hSw
        first | (go_simp; done) | (go_simp; with_reducible rfl)
      try simp only [Act.put, List.setIfInBounds_toArray, List.set_cons_zero, List.set_cons_succ]
      refine take_ok (i := 1) (d := 7) (v := ?_) rfl rfl (by kernel_rfl) (by kernel_rfl) (by kernel_rfl) (fun _ _ _ h => h) (Or.inl ⟨by rfl, ?_⟩) (by assumption) ?_
      rotate_left
      · intro w9 hSw
        try dsimp only at hSw
        first | (go_simp; done) | (go_simp; with_reducible rfl)
      try simp only [Act.put, List.setIfInBounds_toArray, List.set_cons_zero, List.set_cons_succ]
      refine take_ok (i := 2) (d := 8) (v := ?_) rfl rfl (by kernel_rfl) (by kernel_rfl) (by kernel_rfl) (fun _ _ _ h => h) (Or.inl ⟨by rfl, ?_⟩) (by assumption) ?_
      rotate_left
      · intro w9 hSw
        try dsimp only at hSw
        first | (go_simp; done) | (go_simp; with_reducible rfl)
      try simp only [Act.put, List.setIfInBounds_toArray, List.set_cons_zero, List.set_cons_succ]
      refine take_ok (i := 3) (d := 9) (v := ?_) rfl rfl (by kernel_rfl) (by kernel_rfl) (by kernel_rfl) (fun _ _ _ h => h) (Or.inl ⟨by rfl, ?_⟩) (by assumption) ?_
      rotate_left
      · intro w9 hSw
        try dsimp only at hSw
        first | (go_simp; done) | (go_simp; with_reducible rfl)
      try simp only [Act.put, List.setIfInBounds_toArray, List.set_cons_zero, List.set_cons_succ]
      refine take_ok (i := 4) (d := 10) (v := ?_) rfl rfl (by kernel_rfl) (by kernel_rfl) (by kernel_rfl) (fun _ _ _ h => h) (Or.inl ⟨by rfl, ?_⟩) (by assumption) ?_
      rotate_left
      · intro w9 hSw
        try dsimp only at hSw
        first | (go_simp; done) | (go_simp; with_reducible rfl)
      try simp only [Act.put, List.setIfInBounds_toArray, List.set_cons_zero, List.set_cons_succ]
      refine take_ok (i := 5) (d := 11) (v := undef) rfl rfl (by kernel_rfl) (by kernel_rfl) (by kernel_rfl) (fun _ _ _ h => h) (Or.inr ⟨by rfl, rfl⟩) (by assumption) ?_
      try simp only [Act.put, List.setIfInBounds_toArray, List.set_cons_zero, List.set_cons_succ]
      refine take_ok (i := 6) (d := 12) (v := undef) rfl rfl (by kernel_rfl) (by kernel_rfl) (by kernel_rfl) (fun _ _ _ h => h) (Or.inr ⟨by rfl, rfl⟩) (by assumption) ?_
      try simp only [Act.put, List.setIfInBounds_toArray, List.set_cons_zero, List.set_cons_succ]
      refine take_ok (i := 7) (d := 13) (v := undef) rfl rfl (by kernel_rfl) (by kernel_rfl) (by kernel_rfl) (fun _ _ _ h => h) (Or.inr ⟨by rfl, rfl⟩) (by assumption) ?_
      try simp only [Act.put, List.setIfInBounds_toArray, List.set_cons_zero, List.set_cons_succ]
      refine take_ok (i := 8) (d := 14) (v := undef) rfl rfl (by kernel_rfl) (by kernel_rfl) (by kernel_rfl) (fun _ _ _ h => h) (Or.inr ⟨by rfl, rfl⟩) (by assumption) ?_
      try simp only [Act.put, List.setIfInBounds_toArray, List.set_cons_zero, List.set_cons_succ]
      refine take_ok (i := 9) (d := 15) (v := undef) rfl rfl (by kernel_rfl) (by kernel_rfl) (by kernel_rfl) (fun _ _ _ h => h) (Or.inr ⟨by rfl, rfl⟩) (by assumption) ?_
      try simp only [Act.put, List.setIfInBounds_toArray, List.set_cons_zero, List.set_cons_succ]
      refine take_ok (i := 10) (d := 16) (v := undef) rfl rfl (by kernel_rfl) (by kernel_rfl) (by kernel_rfl) (fun _ _ _ h => h) (Or.inr ⟨by rfl, rfl⟩) (by assumption) ?_
      try simp only [Act.put, List.setIfInBounds_toArray, List.set_cons_zero, List.set_cons_succ]
      refine take_ok (i := 11) (d := 17) (v := ?_) rfl rfl (by kernel_rfl) (by kernel_rfl) (by kernel_rfl) (fun _ _ _ h => h) (Or.inl ⟨by rfl, ?_⟩) (by assumption) ?_
      rotate_left
      · intro w9 hSw
        try dsimp only at hSw
        first | (go_simp; done) | (go_simp; with_reducible rfl)
      try simp only [Act.put, List.setIfInBounds_toArray, List.set_cons_zero, List.set_cons_succ]
      refine wpAnyH_done (by kernel_rfl) ?_ _
      clear hHeld
      go_wp2_with fail
      refine wp_region_held_drew (S := fun W => W.cell? ⟨w.heap.size, 0, none⟩ = some (.int .i64 o) ∧ W.cell? ⟨w.heap.size, 1, none⟩ = some (.int .i64 s)) (by kernel_rfl) (HS4.out _ (Below.refl _ _).drew) (fun hHeld => ?_)
      refine take_ok (i := 0) (d := 20) (v := ?_) rfl rfl (by kernel_rfl) (by kernel_rfl) (by kernel_rfl) (fun _ _ _ h => h) (Or.inl ⟨by rfl, ?_⟩) (by assumption) ?_
      rotate_left
      · intro w9 hSw
        try dsimp only at hSw
        first | (go_simp; done) | (go_simp; with_reducible rfl)
      try simp only [Act.put, List.setIfInBounds_toArray, List.set_cons_zero, List.set_cons_succ]
      refine take_ok (i := 1) (d := 21) (v := ?_) rfl rfl (by kernel_rfl) (by kernel_rfl) (by kernel_rfl) (fun _ _ _ h => h) (Or.inl ⟨by rfl, ?_⟩) (by assumption) ?_
      rotate_left
      · intro w9 hSw
        try dsimp only at hSw
        first | (go_simp; done) | (go_simp; with_reducible rfl)
      try simp only [Act.put, List.setIfInBounds_toArray, List.set_cons_zero, List.set_cons_succ]
      refine take_ok (i := 2) (d := 22) (v := ?_) rfl rfl (by kernel_rfl) (by kernel_rfl) (by kernel_rfl) (fun _ _ _ h => h) (Or.inl ⟨by rfl, ?_⟩) (by assumption) ?_
      rotate_left
      · intro w9 hSw
        try dsimp only at hSw
        first | (go_simp; done) | (go_simp; with_reducible rfl)
      try simp only [Act.put, List.setIfInBounds_toArray, List.set_cons_zero, List.set_cons_succ]
      refine take_ok (i := 3) (d := 23) (v := ?_) rfl rfl (by kernel_rfl) (by kernel_rfl) (by kernel_rfl) (fun _ _ _ h => h) (Or.inl ⟨by rfl, ?_⟩) (by assumption) ?_
      rotate_left
      · intro w9 hSw
        try dsimp only at hSw
        first | (go_simp; done) | (go_simp; with_reducible rfl)
      try simp only [Act.put, List.setIfInBounds_toArray, List.set_cons_zero, List.set_cons_succ]
      refine take_ok (i := 4) (d := 24) (v := ?_) rfl rfl (by kernel_rfl) (by kernel_rfl) (by kernel_rfl) (fun _ _ _ h => h) (Or.inl ⟨by rfl, ?_⟩) (by assumption) ?_
      rotate_left
      · intro w9 hSw
        try dsimp only at hSw
        first | (go_simp; done) | (go_simp; with_reducible rfl)
      try simp only [Act.put, List.setIfInBounds_toArray, List.set_cons_zero, List.set_cons_succ]
      refine take_ok (i := 5) (d := 25) (v := undef) rfl rfl (by kernel_rfl) (by kernel_rfl) (by kernel_rfl) (fun _ _ _ h => h) (Or.inr ⟨by rfl, rfl⟩) (by assumption) ?_
      try simp only [Act.put, List.setIfInBounds_toArray, List.set_cons_zero, List.set_cons_succ]
      refine take_ok (i := 6) (d := 26) (v := undef) rfl rfl (by kernel_rfl) (by kernel_rfl) (by kernel_rfl) (fun _ _ _ h => h) (Or.inr ⟨by rfl, rfl⟩) (by assumption) ?_
      try simp only [Act.put, List.setIfInBounds_toArray, List.set_cons_zero, List.set_cons_succ]
      refine take_ok (i := 7) (d := 27) (v := undef) rfl rfl (by kernel_rfl) (by kernel_rfl) (by kernel_rfl) (fun _ _ _ h => h) (Or.inr ⟨by rfl, rfl⟩) (by assumption) ?_
      try simp only [Act.put, List.setIfInBounds_toArray, List.set_cons_zero, List.set_cons_succ]
      refine take_ok (i := 8) (d := 28) (v := undef) rfl rfl (by kernel_rfl) (by kernel_rfl) (by kernel_rfl) (fun _ _ _ h => h) (Or.inr ⟨by rfl, rfl⟩) (by assumption) ?_
      try simp only [Act.put, List.setIfInBounds_toArray, List.set_cons_zero, List.set_cons_succ]
      refine take_ok (i := 9) (d := 29) (v := undef) rfl rfl (by kernel_rfl) (by kernel_rfl) (by kernel_rfl) (fun _ _ _ h => h) (Or.inr ⟨by rfl, rfl⟩) (by assumption) ?_
      try simp only [Act.put, List.setIfInBounds_toArray, List.set_cons_zero, List.set_cons_succ]
      refine take_ok (i := 10) (d := 30) (v := undef) rfl rfl (by kernel_rfl) (by kernel_rfl) (by kernel_rfl) (fun _ _ _ h => h) (Or.inr ⟨by rfl, rfl⟩) (by assumption) ?_
      try simp only [Act.put, List.setIfInBounds_toArray, List.set_cons_zero, List.set_cons_succ]
      refine take_ok (i := 11) (d := 31) (v := ?_) rfl rfl (by kernel_rfl) (by kernel_rfl) (by kernel_rfl) (fun _ _ _ h => h) (Or.inl ⟨by rfl, ?_⟩) (by assumption) ?_
      rotate_left
      · intro w9 hSw
        try dsimp only at hSw
        first | (go_simp; done) | (go_simp; with_reducible rfl)
      try simp only [Act.put, List.setIfInBounds_toArray, List.set_cons_zero, List.set_cons_succ]
      refine wpAnyH_done (by kernel_rfl) ?_ _
      clear hHeld
      have HB8 : Hid (Below w1.heap.size w1 wr.drew.drew) := Lib.hid HB.out.drew.drew
      obtain ⟨W0, hW0⟩ : ∃ W0, W0 = wr.drew.drew := ⟨_, rfl⟩
      rw [← hW0] at HB8
      obtain ⟨A1, N1, C1, hV1⟩ : ∃ A1 N1 C1, sliced ad 0 k cap 2 = .slice A1 N1 C1 := sliced_is ..
      obtain ⟨A3, N3, C3, hV3⟩ : ∃ A3 N3 C3, sliced ad k l.length cap 2 = .slice A3 N3 C3 := sliced_is ..
      have r1 : ∀ W, (Instr.sliceAt 41 (.slice ad l.length cap) none (some (.int .i64 (k : Int))) none).run Tryd.prog W = .ok (.slice A1 N1 C1) W := fun W => by
        rw [← hV1]
        exact kslice_run ad _ cap _ _ _ _ W (by simp [Instr.sliceBounds, run_sliceBound_if, show k ≤ cap by omega])
      have r3 : ∀ W, (Instr.sliceAt 41 (.slice ad l.length cap) (some (.int .i64 (k : Int))) none none).run Tryd.prog W = .ok (.slice A3 N3 C3) W := fun W => by
        rw [← hV3]
        exact kslice_run ad _ cap _ _ _ _ W (by simp [Instr.sliceBounds, run_sliceBound_if, hk])
      have HV1 : Hid (∀ W, Below W0.heap.size W0 W → KRd W (.slice A1 N1 C1) (l.take k)) := Lib.hid (fun W hb => by
        have h := (krd_sliced (HK.out.below (bn HB8.out hb)).rd 0 k (by omega) hk)
        rwa [hV1, List.drop_zero, Nat.sub_zero] at h)
      have HV3 : Hid (∀ W, Below W0.heap.size W0 W → KRd W (.slice A3 N3 C3) (l.drop k)) := Lib.hid (fun W hb => by
        have h := (krd_sliced (HK.out.below (bn HB8.out hb)).rd k l.length hk (Nat.le_refl _))
        rwa [hV3, List.take_of_length_le (by simp)] at h)
      have HC8 : Hid (∀ W, Below W0.heap.size W0 W → W.cell? ⟨w.heap.size, 0, none⟩ = some (.int .i64 o) ∧ W.cell? ⟨w.heap.size, 1, none⟩ = some (.int .i64 s)) := Lib.hid (fun W hb => ⟨(CB.out.below (bn HB8.out hb)).cell 0, (CB.out.below (bn HB8.out hb)).cell 1⟩)
      have HSZ := Lib.hid HB8.out.size
      clear hV1 hV3
      go_wp2_with fail
      rw [← hW0]
      clear hW0
      go_region_held3 (fun W => W.cell? ⟨w.heap.size, 0, none⟩ = some (.int .i64 o) ∧ W.cell? ⟨w.heap.size, 1, none⟩ = some (.int .i64 s)) (exact HC8.out _ (by first | assumption | exact Below.refl _ _ | exact (Below.refl _ _).drew | exact alloc_below _ _ | exact (alloc_below _ _).drew | exact ba.alloc ba.size _ | exact (ba.alloc ba.size _).drew))
        (first
        | (refine step_kapp rfl _ _ rfl W0.heap.size vb (.slice A3 N3 C3) (l.take k ++ [(o, s)]) (l.drop k) rfl rfl (by exact hrb) (HV3.out _ (by exact bb)) (by simp; omega) (by exact bb.size) ?_; intro vc wc hrc hgc; have bc : Below W0.heap.size W0 wc := bb.trans (below_of_grown hgc bb.size (fun g hg => (World.ownsRow.lt hrb g hg).1)))
        | (refine step_kapp rfl _ _ rfl W0.heap.size va (.slice (some ⟨W0.heap.size, 0, none⟩) 1 1) (l.take k) [(o, s)] rfl rfl (by exact hra) (by exact krd_one ((hga.block W0.heap.size (by simp) (by intro h; cases h)).trans (Bx.new 32 W0 _))) (by simp; omega) (by exact ba.size) ?_; intro vb wb hrb hgb; have bb : Below W0.heap.size W0 wb := ba.trans (below_of_grown hgb ba.size (fun g hg => (World.ownsRow.lt hra g hg).1)))
        | (refine step_kapp rfl _ _ rfl W0.heap.size va (.slice (some ⟨wa.heap.size, 0, none⟩) 1 1) (l.take k) [(o, s)] rfl rfl (by first | exact own_below hra (alloc_below _ _) | exact own_below hra (alloc_below _ _).drew) (by exact krd_one (Bx.new 32 wa _)) (by simp; omega) (by first | exact (ba.alloc ba.size _).size | exact (ba.alloc ba.size _).drew.size) ?_; intro vb wb hrb hgb; have bb : Below W0.heap.size W0 wb := (ba.alloc ba.size _).trans (below_of_grown hgb (ba.alloc ba.size _).size (fun g hg => (World.ownsRow.lt hra g hg).1)))
        | (refine step_kapp rfl _ _ rfl W0.heap.size (.slice none 0 0) (.slice A1 N1 C1) [] (l.take k) rfl rfl (World.ownsRow_nil _ _ _ _) (HV1.out _ (by first | assumption | exact Below.refl _ _ | exact (Below.refl _ _).drew | exact alloc_below _ _ | exact (alloc_below _ _).drew)) (by simp; omega) (by first | exact Nat.le_refl _ | (simp; done)) ?_; intro va wa hra hga; have ba : Below W0.heap.size W0 wa := bn (by first | assumption | exact Below.refl _ _ | exact (Below.refl _ _).drew | exact alloc_below _ _ | exact (alloc_below _ _).drew) (below_of_grown hga (Nat.le_refl _) (by intro g hg; cases hg)))
        | fail)
      all_goals
        go_wp2
        go_ret
        exact ⟨_, rfl, by rw [HI.out]; have h := own_mono hrc (Nat.le_trans HBB.out (Nat.le_trans HAL.out.size HSZ.out)); rwa [List.append_assoc] at h, bn HAL.out (HB8.out.trans (bc.mono HB8.out.size))⟩
end Go.Proofs.YtchkadifjbmmpaaDoor.P
namespace Go.Proofs.YtchkadifjbmmpaaDoor.P
open Go.RowKit Go.Lib

theorem cell_two_new (w : World) (a b : Value) (t : TypeId) : ∀ j u, [a, b][j]? = some u → (w.alloc (.cells #[a, b] t)).cell? ((⟨w.heap.size, 0, none⟩ : Addr).add j) = some u := by
  intro j u hj
  have hx := Bx.new t w #[a, b]
  rw [Go.WideShapes.add_plain, Nat.zero_add, hx.cell j]
  simpa using hj
set_option maxHeartbeats 4000000 in
theorem samek_c (l : List Ky) (v1 v2 : Value) (w : World) (h1 : KRd w v1 l) (h2 : KRd w v2 l) (hn : l.length ≤ 1000000) :
    Calls Tryd.prog 40 #[v1, v2] w fun e w' => e = .returned (.bool true) ∧ Below w.heap.size w w' := by
  obtain ⟨ad1, cap1, rfl, _, k1⟩ := h1
  obtain ⟨ad2, cap2, rfl, _, k2⟩ := h2
  have H1 := Lib.hid k1
  have H2 := Lib.hid k2
  clear k1 k2
  go_enter Tryd.func40, Tryd.ntmps40
  go_wp2
  go_loopw [5] (fun v5 wr => ∃ k q : Nat, k ≤ l.length ∧ v5 = .int .i64 (k : Int) ∧ wr = w.drewN q) (fun v5 _ => l.length - (intOf v5).toNat)
  case atStart => exact ⟨0, 0, by omega, rfl, rfl⟩
  case round =>
    obtain ⟨k, q, hk, rfl, rfl⟩ := hrel
    by_cases hp : k < l.length
    · obtain ⟨g1, o1, rfl, c1⟩ := H1.out (by omega)
      obtain ⟨g2, o2, rfl, c2⟩ := H2.out (by omega)
      obtain ⟨c11, c12⟩ := c1 k hp
      obtain ⟨c21, c22⟩ := c2 k hp
      clear c1 c2 H1 H2
      generalize l[k] = u at c11 c12 c21 c22
      obtain ⟨u1, u2⟩ := u
      simp only at c11 c12 c21 c22
      have q9 : ∀ W, (Op.equalIn 10000 32 (.agg #[.int .i64 u1, .int .i64 u2]) (.agg #[.int .i64 u1, .int .i64 u2])).run Tryd.prog W = .ok true W := fun W => by rw [eq_key]; simp
      go_wp2
      go_quiet (fail)
      go_wp2
      go_roundw
      case rel => exact ⟨k + 1, q + nq, hp, by go_num, rfl⟩
      case measure => simp [intOf]; omega
    · go_wp2
      go_ret
      exact ⟨rfl, below_drewN (Below.refl _ _) q⟩
end Go.Proofs.YtchkadifjbmmpaaDoor.P
