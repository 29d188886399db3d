/-
  Lists of numbers in memory: read, made, written over.
-/
import Derived.Test.YtdjlgiinekighaaGreatDoorProg
import Derived.Test.YtdjlgiinekighaaGreatDoorChecked
import Derived.WalkKit
import Derived.WalkMore
import Derived.BigCall
import Derived.Below
import Derived.Lib.Hide
import Derived.Deep.QuietTactic
import Derived.BigQuiet
import Derived.OwnWalk
import Derived.Laws.OwnMore
import Derived.WalkSmall
import Derived.Deep.AppendLies
import Derived.Deep.RegionHeld3
import Derived.Deep.DeepCutAuto
import Derived.Deep.OwnRows
import Derived.IntWalk
import Derived.Lib.SliceRun
import Derived.Maps.AppendAt
import Derived.BigRegion
import Derived.Deep.DeepAppendRoom
import Derived.Laws.StructEq
import Derived.Maps.OwnSet
import Derived.Maps.Views
import Derived.DeepKeys4
namespace Go.Proofs.YtdjlgiinekighaaGreatDoor.P
open Go.RowKit Go.Lib

theorem below_drewN {B : Nat} {a w : World} (h : Below B a w) (n : Nat) : Below B a (w.drewN n) := ⟨h.os, h.tape, h.output, h.size, h.block⟩
theorem Below.next {W0 w w' : World} (h : Below W0.heap.size W0 w) (hb : Below w.heap.size w w') : Below W0.heap.size W0 w' := h.trans (hb.mono h.size)
theorem grown_refl (w : World) (r : Option Nat) : w.grownBy w r := ⟨rfl, rfl, rfl, Nat.le_refl _, fun _ _ _ => rfl⟩
theorem grown_trans {a b c : World} {r : Option Nat} (h : a.grownBy b r) (k : b.grownBy c r) : a.grownBy c r :=
  ⟨k.os.trans h.os, k.tape.trans h.tape, k.output.trans h.output, Nat.le_trans h.size k.size, fun i hi hne => (k.block i (Nat.lt_of_lt_of_le hi h.size) hne).trans (h.block i hi hne)⟩
theorem grown_below {a b : World} (h : Below a.heap.size a b) (r : Option Nat) : a.grownBy b r := ⟨h.os, h.tape, h.output, h.size, fun i hi _ => h.block i hi⟩
theorem below_of_grown {a b : World} {r : Option Nat} {B : Nat} (h : a.grownBy b r) (hB : B ≤ a.heap.size) (hg : ∀ g, r = some g → B ≤ g) : Below B a b :=
  ⟨h.os, h.tape, h.output, h.size, fun i hi => h.block i (by omega) (by intro e; have := hg i e.symm; omega)⟩
theorem grown_cell {a b : World} {r : Option Nat} (h : a.grownBy b r) {p : Addr} (hp : p.block < a.heap.size) (hne : some p.block ≠ r) : b.cell? p = a.cell? p :=
  World.cell?_of_block (h.block p.block hp hne)

/-- From offset o of block b on the numbers l lie. -/
def Nums (w : World) (b o : Nat) (l : List Int) : Prop := ∀ k (hk : k < l.length), w.cell? ⟨b, o + k, none⟩ = some (.int .i64 l[k])
theorem Nums.below {w w' : World} {b o : Nat} {l : List Int} (h : Nums w b o l) (hb : Below w.heap.size w w') : Nums w' b o l := fun k hk =>
  (hb.cell (World.block_lt_of_cell? w _ (h k hk))).trans (h k hk)
/-- The slice v holds the numbers l. -/
def Nl (w : World) (v : Value) (l : List Int) : Prop :=
  (v = .slice none 0 0 ∧ l = []) ∨ ∃ ad cap, v = .slice (some ad) l.length cap ∧ (0 < l.length → ∃ b o, ad = ⟨b, o, none⟩ ∧ Nums w b o l)
theorem Nl.below {w w' : World} {v : Value} {l : List Int} (h : Nl w v l) (hb : Below w.heap.size w w') : Nl w' v l := by
  rcases h with h | ⟨ad, cap, h1, h2⟩
  · exact .inl h
  · exact .inr ⟨ad, cap, h1, fun h0 => by obtain ⟨b, o, e, hs⟩ := h2 h0; exact ⟨b, o, e, hs.below hb⟩⟩
theorem Nl.drew {w : World} {v : Value} {l : List Int} (h : Nl w v l) (n : Nat) : Nl (w.drewN n) v l := h
theorem Nl.form {w : World} {v : Value} {l : List Int} (h : Nl w v l) : ∃ ad cap, v = .slice ad l.length cap ∧ (0 < l.length → ∃ b o, ad = some ⟨b, o, none⟩ ∧ Nums w b o l) := by
  rcases h with ⟨rfl, rfl⟩ | ⟨ad, cap, rfl, h2⟩
  · exact ⟨none, 0, rfl, fun h => by simp at h⟩
  · exact ⟨some ad, cap, rfl, fun h0 => by obtain ⟨b, o, e, hs⟩ := h2 h0; exact ⟨b, o, by rw [e], hs⟩⟩

def ints (l : List Int) : List Value := l.map (Value.int .i64)
theorem ints_len (l : List Int) : (ints l).length = l.length := List.length_map ..
theorem ints_one (l : List Int) : ∀ u ∈ ints l, u.oneCell' = true := by
  intro u hu
  obtain ⟨x, _, rfl⟩ := List.mem_map.1 hu
  rfl
theorem ints_at (l : List Int) (k : Nat) (hk : k < l.length) : (ints l)[k]? = some (.int .i64 l[k]) := by simp [ints, hk]
theorem Nums.news {w : World} {b o : Nat} {l : List Int} (h : Nums w b o l) : ∀ i u, (ints l)[i]? = some u → w.cell? ((⟨b, o, none⟩ : Addr).add i) = some u := by
  intro i u hu
  have hi : i < l.length := by have := (List.getElem?_eq_some_iff.1 hu).1; rwa [ints_len] at this
  rw [ints_at l i hi] at hu
  rw [Go.WideShapes.add_plain, h i hi, hu]

/-- The row v, of one's own from block B on, holds the numbers l. -/
def Row (w : World) (B : Nat) (v : Value) (l : List Int) : Prop := w.ownsRow B 3 1 v l.length (ints l)
theorem own_below {w w' : World} {base : Nat} {e : TypeId} {size : Nat} {v : Value} {n : Nat} {xs : List Value} (h : w.ownsRow base e size v n xs) (hb : Below w.heap.size w w') : w'.ownsRow base e size v n xs := by
  cases hv : v.ownBlock with
  | none => exact h.kept (row := none) ⟨hb.os, hb.tape, hb.output, hb.size, fun i hi _ => hb.block i hi⟩ (.inl hv)
  | some g => exact h.kept (row := none) ⟨hb.os, hb.tape, hb.output, hb.size, fun i hi _ => hb.block i hi⟩ (.inr (by rw [hv]; simp))
theorem own_mono {w : World} {base base' : Nat} {e : TypeId} {size : Nat} {v : Value} {n : Nat} {xs : List Value} (h : w.ownsRow base e size v n xs) (hb : base' ≤ base) : w.ownsRow base' e size v n xs :=
  ⟨h.1, h.2.imp id fun ⟨g, cap, cur, h1, h2, h3⟩ => ⟨g, cap, cur, h1, Nat.le_trans hb h2, h3⟩⟩
theorem Row.below {w w' : World} {B : Nat} {v : Value} {l : List Int} (h : Row w B v l) (hb : Below w.heap.size w w') : Row w' B v l := own_below h hb
theorem Row.mono {w : World} {B B' : Nat} {v : Value} {l : List Int} (h : Row w B v l) (hb : B' ≤ B) : Row w B' v l := own_mono h hb
theorem Row.nl {w : World} {B : Nat} {v : Value} {l : List Int} (h : Row w B v l) : Nl w v l := by
  rcases h.2 with ⟨rfl, h0⟩ | ⟨g, cap, cur, rfl, _⟩
  · exact .inl ⟨rfl, List.eq_nil_of_length_eq_zero h0⟩
  · refine .inr ⟨⟨g, 0, none⟩, cap, rfl, fun _ => ⟨g, 0, rfl, fun k hk => ?_⟩⟩
    rw [Nat.zero_add]
    exact (World.ownsRow.cellAt h k (by omega)).trans (ints_at l k hk)
theorem Row.nil (w : World) (B : Nat) : Row w B (.slice none 0 0) [] := World.ownsRow_nil _ _ _ _
theorem Row.far {w w' : World} {B : Nat} {v : Value} {l : List Int} {r : Option Nat} (h : Row w B v l) (hg : w.grownBy w' r) (hne : ∀ g, r = some g → ∀ g', v.ownBlock = some g' → g ≠ g') : Row w' B v l := by
  refine World.ownsRow.kept h hg ?_
  cases hv : v.ownBlock with
  | none => exact .inl rfl
  | some g' => exact .inr fun e => hne g' e.symm g' hv rfl

theorem intInfo : (Tryz.prog.info? 3).map (fun i => (i.zero, i.size, i.bytes)) = some (some (.int .i64 0), 1, 8) := by kernel_rfl

/-! What is answered. -/
def mx (a b : Int) : Int := if b > a then b else a
def mn (a b : Int) : Int := if b < a then b else a
def manyB (n : Int) : Bool := decide (1 ≤ n) && decide (n ≤ 8)
def okN : List Int → Bool
  | [] => true
  | x :: t => decide (0 ≤ x) && (decide (x ≤ 1023) && okN t)
def mayB (l : List Int) (n : Int) : Bool := manyB n && (decide ((l.length : Int) = n) && okN l)
def sameB : List Int → List Int → Bool
  | [], [] => true
  | x :: s, y :: t => (x == y) && sameB s t
  | _, _ => false
def leB : List Int → List Int → Bool
  | [], [] => true
  | x :: s, y :: t => decide (x ≤ y) && leB s t
  | _, _ => false
def sumL (s : Int) : List Int → Int
  | [] => s
  | x :: t => sumL (wrap64 (s + x)) t
theorem sameB_iff : ∀ (a b : List Int), sameB a b = true ↔ a = b
  | [], [] => by simp [sameB]
  | x :: s, y :: t => by simp [sameB, sameB_iff s t]
  | [], _ :: _ => by simp [sameB]
  | _ :: _, [] => by simp [sameB]
theorem sameB_len : ∀ (a b : List Int), a.length ≠ b.length → sameB a b = false
  | [], [], h => by simp at h
  | x :: s, y :: t, h => by rw [sameB, sameB_len s t (by simpa using h), Bool.and_false]
  | [], _ :: _, _ => rfl
  | _ :: _, [], _ => rfl
theorem leB_len : ∀ (a b : List Int), a.length ≠ b.length → leB a b = false
  | [], [], h => by simp at h
  | x :: s, y :: t, h => by rw [leB, leB_len s t (by simpa using h), Bool.and_false]
  | [], _ :: _, _ => rfl
  | _ :: _, [], _ => rfl
set_option maxHeartbeats 4000000 in
theorem same_c (l m : List Int) (v1 v2 : Value) (w : World) (h1 : Nl w v1 l) (h2 : Nl w v2 m) (hn : l.length ≤ 1000000) :
    Calls Tryz.prog 37 #[v1, v2] w fun e w' => e = .returned (.bool (sameB l m)) ∧ Below w.heap.size w w' := by
  obtain ⟨ad1, cap1, rfl, k1⟩ := h1.form
  obtain ⟨ad2, cap2, rfl, k2⟩ := h2.form
  have H1 := Lib.hid k1
  have H2 := Lib.hid k2
  clear h1 h2 k1 k2
  by_cases hl : l.length = m.length
  · have e0 : ((l.length : Int) != (m.length : Int)) = false := by simp [hl]
    have HL := Lib.hid hl
    clear hl
    go_enter Tryz.func37, Tryz.ntmps37
    go_wp2
    go_loopw [5] (fun v5 wr => ∃ k q : Nat, k ≤ l.length ∧ v5 = .int .i64 (k : Int) ∧ wr = w.drewN q ∧ Hid (sameB (l.drop k) (m.drop k) = sameB l m)) (fun v5 _ => l.length - (intOf v5).toNat)
    case atStart => exact ⟨0, 0, by omega, rfl, rfl, Lib.hid rfl⟩
    case round =>
      obtain ⟨k, q, hk, rfl, rfl, hs⟩ := hrel
      by_cases hp : k < l.length
      · obtain ⟨g1, o1, rfl, c1⟩ := H1.out (by omega)
        have hpm : k < m.length := by have := HL.out; omega
        obtain ⟨g2, o2, rfl, c2⟩ := H2.out (by omega)
        have c11 := c1 k hp
        have c21 := c2 k hpm
        have hs' := hs.out
        rw [List.drop_eq_getElem_cons hp, List.drop_eq_getElem_cons hpm, sameB] at hs'
        clear c1 c2 H1 H2 hs
        generalize l[k] = x at c11 hs'
        generalize m[k] = y at c21 hs'
        by_cases hxy : x = y
        · have f1 : (x != y) = false := by simpa using hxy
          have f2 : (x == y) = true := by simpa using hxy
          rw [f2, Bool.true_and] at hs'
          have HS := Lib.hid hs'
          clear hs' hxy f2
          go_wp2
          go_quiet (fail)
          go_wp2
          go_roundw
          case rel => exact ⟨k + 1, q + nq, hp, by go_num, rfl, HS⟩
          case measure => simp [intOf]; omega
        · have f1 : (x != y) = true := by simpa using hxy
          have f2 : (x == y) = false := by simpa using hxy
          rw [f2, Bool.false_and] at hs'
          have HS := Lib.hid hs'
          clear hs' hxy f2
          go_wp2
          go_quiet (fail)
          go_wp2
          go_ret
          exact ⟨by rw [← HS.out]; rfl, below_drewN (below_drewN (Below.refl _ _) q) nq⟩
      · have hs' := hs.out
        rw [List.drop_eq_nil_of_le (by omega), List.drop_eq_nil_of_le (by have := HL.out; omega), sameB] at hs'
        have HS := Lib.hid hs'
        clear hs' hs
        go_wp2
        go_ret
        exact ⟨by rw [← HS.out]; rfl, below_drewN (Below.refl _ _) q⟩
  · have e0 : ((l.length : Int) != (m.length : Int)) = true := by simp; omega
    rw [sameB_len l m hl]
    go_enter Tryz.func37, Tryz.ntmps37
    go_wp2
    go_ret
    exact ⟨rfl, Below.refl _ _⟩

/-- What is answered: a row of one's own. -/
def rowT (l : List Int) (w : World) (e : Ending) (w' : World) : Prop := ∃ v, e = .returned v ∧ Row w' w.heap.size v l ∧ Below w.heap.size w w'
theorem row_empty (w : World) : (w.alloc (.cells #[] 3)).ownsRow w.heap.size 3 1 (.slice (some ⟨w.heap.size, 0, none⟩) 0 0) 0 [] :=
  ⟨rfl, .inr ⟨w.heap.size, 0, #[], rfl, Nat.le_refl _, heap_alloc_new w _, Nat.le_refl _, Nat.zero_le _, rfl, rfl⟩⟩
theorem Nl.news {w : World} {ad : Addr} {l : List Int} (h : 0 < l.length → ∃ b o, ad = ⟨b, o, none⟩ ∧ Nums w b o l) : ∀ i u, (ints l)[i]? = some u → w.cell? (ad.add i) = some u := by
  intro i u hu
  have hi : i < l.length := by have := (List.getElem?_eq_some_iff.1 hu).1; rwa [ints_len] at this
  obtain ⟨b, o, rfl, hs⟩ := h (by omega)
  exact hs.news i u hu
theorem Row.at {w : World} {B g cap : Nat} {l : List Int} (h : Row w B (.slice (some ⟨g, 0, none⟩) l.length cap) l) (k : Nat) (hk : k < l.length) : w.cell? ⟨g, k, none⟩ = some (.int .i64 l[k]) :=
  (World.ownsRow.cellAt h k (by omega)).trans (ints_at l k hk)
theorem Row.soft {w : World} {B g cap : Nat} {l : List Int} (h : Row w B (.slice (some ⟨g, 0, none⟩) l.length cap) l) (k : Nat) : w.frozen? ⟨g, k, none⟩ = false := World.ownsRow.frozenAt h k
theorem ints_set (l : List Int) (k : Nat) (x : Int) : (ints l).set k (.int .i64 x) = ints (l.set k x) := by simp [ints, List.map_set]
theorem Row.set {w : World} {B g cap : Nat} {l : List Int} (h : Row w B (.slice (some ⟨g, 0, none⟩) l.length cap) l) (k : Nat) (x : Int) : Row (w.setCell ⟨g, k, none⟩ (.int .i64 x)) B (.slice (some ⟨g, 0, none⟩) (l.set k x).length cap) (l.set k x) := by
  have h1 := (World.ownsRow.stored h k (.int .i64 x)).1
  rw [ints_set] at h1
  unfold Row
  rw [List.length_set]
  exact h1
theorem Row.form {w : World} {B : Nat} {v : Value} {l : List Int} (h : Row w B v l) (hn : 0 < l.length) : ∃ g cap, v = .slice (some ⟨g, 0, none⟩) l.length cap ∧ B ≤ g ∧ g < w.heap.size := by
  obtain ⟨g, cap, e, h1, h2⟩ := World.ownsRow.form h hn
  exact ⟨g, cap, e, h1, h2⟩

/-- append, as a step whose answer is known. -/
theorem wpList_append_run {P : Program} {w : World} {ops : Array Oper} {rest : List Oper} {o : Oper} {a : Act} {Q : Exit → Act → World → Prop} (hgd : o.guard = none) (s x : Operand) (t : TypeId)
    (ho : o.op = .call { callee := .builtin .append, args := #[s, x], argTypes := #[t, t] }) (v' : Value) (w' : World)
    (hr : (Builtin.append_ #[t, t] o.type #[a.eval s, a.eval x]).run P w = .ok v' w') (h : wpList P ops Q rest (a.put o.dst v') w') : wpList P ops Q (o :: rest) a w :=
  wpList_plain hgd fun _ hK => by
    unfold Oper.wp execOp
    simp only [ho, resolve, invoke, builtin, Sem.run_bind, Sem.run_pure, Result.andThen_ok, List.map_toArray, List.map_cons, List.map_nil, hr]
    exact hK _ _ h
theorem copy_run (l : List Int) (u : Value) (w : World) (ty : TypeId) (h : Nl w u l) (hn : l.length ≤ 1000000) :
    ∃ vm w1, (Builtin.append_ #[64, 64] ty #[.slice none 0 0, u]).run Tryz.prog w = .ok vm w1 ∧ Row w1 w.heap.size vm l ∧ Below w.heap.size w w1 := by
  rcases h with ⟨rfl, rfl⟩ | ⟨ad, cap, rfl, h⟩
  · refine ⟨.slice none 0 0, w, ?_, Row.nil _ _, Below.refl _ _⟩
    simp [Builtin.append_, go_sem, run_underlying Tryz.underlying64]
  · obtain ⟨i0, hi, hz0, hz1, hz2⟩ := info_parts intInfo
    obtain ⟨v', w', h1, h2, h3, _, _⟩ := run_append_own_at (P := Tryz.prog) w w.heap.size 64 ty 3 i0 (.int .i64 0) 1 8 Tryz.underlying64 hi hz0 hz1 hz2 rfl (by decide) (.slice none 0 0) 0 [] (World.ownsRow_nil _ _ _ _) ad l.length cap (ints l) (by rw [ints_len, Nat.mul_one]) (Nl.news h) (ints_one l) (by unfold maxLen; omega) (by omega) (Nat.le_refl _)
    refine ⟨v', w', h1, by rw [Nat.zero_add, List.nil_append] at h2; exact h2, below_of_grown h3 (Nat.le_refl _) (by intro g hg; cases hg)⟩
theorem Row.at2 {w : World} {B g cap n : Nat} {l : List Int} (h : Row w B (.slice (some ⟨g, 0, none⟩) n cap) l) (hn : l.length = n) (k : Nat) (x : Int) (hk : l[k]? = some x) : w.cell? ⟨g, k, none⟩ = some (.int .i64 x) := by
  subst hn
  obtain ⟨hk', rfl⟩ := List.getElem?_eq_some_iff.1 hk
  exact h.at k hk'
theorem Row.soft2 {w : World} {B g cap n : Nat} {l : List Int} (h : Row w B (.slice (some ⟨g, 0, none⟩) n cap) l) (hn : l.length = n) (k : Nat) : w.frozen? ⟨g, k, none⟩ = false := by
  subst hn
  exact h.soft k
theorem Row.set2 {w : World} {B g cap n : Nat} {l : List Int} (h : Row w B (.slice (some ⟨g, 0, none⟩) n cap) l) (hn : l.length = n) (k : Nat) (x : Int) : Row (w.setCell ⟨g, k, none⟩ (.int .i64 x)) B (.slice (some ⟨g, 0, none⟩) n cap) (l.set k x) := by
  subst hn
  have h1 := h.set k x
  rw [List.length_set] at h1
  exact h1
set_option maxHeartbeats 4000000 in
theorem over_c (l : List Int) (v : Value) (w : World) (B : Nat) (h : Row w B v l) (hn : l.length ≤ 1000000) (hB : B ≤ w.heap.size) :
    Calls Tryz.prog 39 #[v] w fun e w' => e = .returned (.tuple #[]) ∧ w.grownBy w' v.ownBlock := by
  obtain ⟨i0, hi, hz0, hz1, hz2⟩ := info_parts intInfo
  have HI := Lib.hid hi
  have HZ0 := Lib.hid hz0
  have HZ1 := Lib.hid hz1
  have HZ2 := Lib.hid hz2
  clear hi hz0 hz1 hz2
  obtain ⟨ad, cap, rfl, _⟩ := h.nl.form
  have H := Lib.hid h
  clear h
  go_enter Tryz.func39, Tryz.ntmps39
  go_wp2
  go_loopw [2] (fun v2 wr => ∃ (k : Nat) (m : List Int), k ≤ l.length ∧ v2 = .int .i64 (k : Int) ∧ m.length = l.length ∧ Hid (Row wr B (.slice ad l.length cap) m) ∧ Hid (w.grownBy wr (Value.slice ad l.length cap).ownBlock)) (fun v2 _ => l.length - (intOf v2).toNat)
  case atStart => exact ⟨0, l, by omega, rfl, rfl, H, Lib.hid (grown_refl _ _)⟩
  case round =>
    obtain ⟨k, m, hk, rfl, hm, HM, HG⟩ := hrel
    have HML := Lib.hid hm
    have hsz := HG.out.size
    clear hm H
    by_cases hp : k < l.length
    · obtain ⟨g, cap2, he, hg, hlt⟩ := HM.out.form (by have := HML.out; omega)
      simp only [Value.slice.injEq] at he
      obtain ⟨rfl, e4, e5⟩ := he
      clear e4 e5
      have hc := HM.out.at2 HML.out k _ (List.getElem?_eq_getElem (by have := HML.out; omega))
      have hf := HM.out.soft2 HML.out k
      have HM2 := Lib.hid (HM.out.set2 HML.out k (-999))
      have HG2 : Hid (w.grownBy (wr.setCell ⟨g, k, none⟩ (.int .i64 (-999))) (Value.slice (some ⟨g, 0, none⟩) l.length cap).ownBlock) := Lib.hid (grown_trans HG.out (by
        have h1 : Row wr B (.slice (some ⟨g, 0, none⟩) m.length cap) m := by rw [HML.out]; exact HM.out
        exact (World.ownsRow.stored h1 k _).2))
      generalize m[k]'(by have := HML.out; omega) = y at hc
      go_wp2
      go_roundw
      case rel => exact ⟨k + 1, m.set k (-999), hp, by go_num, by rw [List.length_set]; exact HML.out, HM2, HG2⟩
      case measure => simp [intOf]; omega
    · have HO : Hid (wr.ownsRow B 3 1 (.slice ad l.length cap) l.length (ints m)) := Lib.hid (by have h1 := HM.out; unfold Row at h1; rw [HML.out] at h1; exact h1)
      go_wp2_with (at_builtin; refine wpList_append_own _ rfl _ _ 64 rfl B 3 i0 (.int .i64 0) 1 8 Tryz.underlying64 HI.out HZ0.out HZ1.out HZ2.out rfl (by decide) _ _ _ rfl (World.ownsRow.alloc HO.out _) ⟨wr.heap.size, 0, none⟩ 1 1 [.int .i64 (-999)] rfl rfl (cell_one_new _ _ _) (fun x hx => by simp at hx; subst hx; rfl) (by unfold maxLen; omega) (by omega) (by simp; omega) ?_; intro v' w3 hown3 hgrow3 hnil3)
      go_end0
      exact ⟨rfl, grown_trans HG.out (grown_trans (World.grownBy_alloc _ _ _) hgrow3)⟩
theorem alloc_below (w : World) (o : Obj) : Below w.heap.size w (w.alloc o) := (Below.refl _ _).alloc (Nat.le_refl _) _
/-- A list that has just been laid. -/
theorem nl_new2 (w : World) (B : Nat) (hB : B = w.heap.size) (x y : Int) : Nl (w.alloc (.cells #[.int .i64 x, .int .i64 y] 3)) (.slice (some ⟨B, 0, none⟩) 2 2) [x, y] := by
  subst hB
  refine .inr ⟨_, 2, rfl, fun _ => ⟨w.heap.size, 0, rfl, fun k hk => ?_⟩⟩
  have hk2 : k < 2 := hk
  match k, hk2 with
  | 0, _ => simp [go_sem]
  | 1, _ => simp [go_sem]
end Go.Proofs.YtdjlgiinekighaaGreatDoor.P
/-
  Lists of places, as plain lists: what chapter 10 says of them.
-/
namespace Go.Proofs.YtdjlgiinekighaaGreatDoor.P
open Go.RowKit

abbrev Ky := Int × Int
def kLt (a b : Ky) : Bool := decide (a.1 < b.1) || (a.1 == b.1 && decide (a.2 < b.2))
theorem kLt_iff (a b : Ky) : kLt a b = true ↔ a.1 < b.1 ∨ a.1 = b.1 ∧ a.2 < b.2 := by simp [kLt]
theorem kLt_irrefl (a : Ky) : kLt a a = false := by simp [kLt]
theorem kLt_trans {a b c : Ky} (h : kLt a b = true) (k : kLt b c = true) : kLt a c = true := by
  rw [kLt_iff] at *
  omega
theorem kLt_tri (a b : Ky) : kLt a b = true ∨ a = b ∨ kLt b a = true := by
  obtain ⟨a1, a2⟩ := a
  obtain ⟨b1, b2⟩ := b
  rw [kLt_iff, kLt_iff, Prod.mk.injEq]
  simp only
  omega
theorem kLt_ne {a b : Ky} (h : kLt a b = true) : a ≠ b := fun e => by rw [e, kLt_irrefl] at h; cases h
theorem kLt_no {a b : Ky} (h : kLt a b = true) : kLt b a = false := by
  cases h2 : kLt b a with
  | false => rfl
  | true => exact absurd (kLt_trans h h2) (by rw [kLt_irrefl]; simp)
/-- Keys that rise, each once. -/
def Rise (l : List Ky) : Prop := l.Pairwise fun a b => kLt a b = true
theorem Rise.tail {a : Ky} {l : List Ky} (h : Rise (a :: l)) : Rise l := (List.pairwise_cons.1 h).2
theorem Rise.head {a : Ky} {l : List Ky} (h : Rise (a :: l)) : ∀ x ∈ l, kLt a x = true := (List.pairwise_cons.1 h).1
theorem Rise.filter {l : List Ky} (h : Rise l) (f : Ky → Bool) : Rise (l.filter f) := List.Pairwise.filter f h
theorem Rise.not_mem {a : Ky} {l : List Ky} (h : Rise (a :: l)) : a ∉ l := fun k => by
  have := h.head a k
  rw [kLt_irrefl] at this
  cases this
/-- Two lists that rise and have the same members are one. -/
theorem Rise.ext : ∀ {l m : List Ky}, Rise l → Rise m → (∀ a, a ∈ l ↔ a ∈ m) → l = m
  | [], [], _, _, _ => rfl
  | [], b :: m, _, _, h => by have := (h b).2 (by simp); cases this
  | a :: l, [], _, _, h => by have := (h a).1 (by simp); cases this
  | a :: l, b :: m, hl, hm, h => by
    have e : a = b := by
      rcases List.mem_cons.1 ((h a).1 (by simp)) with e | e
      · exact e
      · rcases List.mem_cons.1 ((h b).2 (by simp)) with e2 | e2
        · exact e2.symm
        · exact absurd (kLt_trans (hl.head b e2) (hm.head a e)) (by rw [kLt_irrefl]; simp)
    subst e
    refine congrArg (a :: ·) (Rise.ext hl.tail hm.tail fun x => ⟨fun hx => ?_, fun hx => ?_⟩)
    · rcases List.mem_cons.1 ((h x).1 (List.mem_cons_of_mem _ hx)) with e | e
      · rw [e] at hx; exact absurd hx hl.not_mem
      · exact e
    · rcases List.mem_cons.1 ((h x).2 (List.mem_cons_of_mem _ hx)) with e | e
      · rw [e] at hx; exact absurd hx hm.not_mem
      · exact e
theorem len_split (l : List Ky) (f : Ky → Bool) : (l.filter f).length + (l.filter fun x => !f x).length = l.length := by
  induction l with
  | nil => rfl
  | cons a l ih =>
    cases h : f a
    · rw [List.filter_cons_of_neg (by simp [h]), List.filter_cons_of_pos (by simp [h]), List.length_cons, List.length_cons]; omega
    · rw [List.filter_cons_of_pos (by simp [h]), List.filter_cons_of_neg (by simp [h]), List.length_cons, List.length_cons]; omega

/-- A key among rising ones, once. -/
def into (l : List Ky) (k : Ky) : List Ky :=
  if (l.dropWhile fun x => kLt x k).head? = some k then l else l.takeWhile (fun x => kLt x k) ++ k :: l.dropWhile fun x => kLt x k
theorem into_nil (k : Ky) : into [] k = [k] := rfl
theorem into_cons (a : Ky) (l : List Ky) (k : Ky) : into (a :: l) k = if kLt a k then a :: into l k else if a = k then a :: l else k :: a :: l := by
  unfold into
  cases h : kLt a k with
  | true =>
    simp only [List.dropWhile_cons, h, if_true, List.takeWhile_cons, List.cons_append]
    split <;> rfl
  | false =>
    simp [h]
theorem into_mem : ∀ (l : List Ky) (k x : Ky), x ∈ into l k ↔ x = k ∨ x ∈ l
  | [], k, x => by simp [into_nil]
  | a :: l, k, x => by
    rw [into_cons]
    split
    · rw [List.mem_cons, into_mem l k x, List.mem_cons]
      exact ⟨fun h => by rcases h with h | h | h <;> simp [h], fun h => by rcases h with h | h | h <;> simp [h]⟩
    · split
      · rename_i e
        subst e
        simp
      · simp
theorem into_rise : ∀ {l : List Ky} (k : Ky), Rise l → Rise (into l k)
  | [], k, _ => by rw [into_nil]; exact List.pairwise_singleton _ _
  | a :: l, k, h => by
    rw [into_cons]
    split
    · rename_i hk
      refine List.pairwise_cons.2 ⟨fun x hx => ?_, into_rise k h.tail⟩
      rcases (into_mem l k x).1 hx with rfl | hx
      · exact hk
      · exact h.head x hx
    · split
      · exact h
      · rename_i hk hne
        have h1 : kLt k a = true := by
          rcases kLt_tri a k with e | e | e
          · exact absurd e hk
          · exact absurd e hne
          · exact e
        refine List.pairwise_cons.2 ⟨fun x hx => ?_, h⟩
        rcases List.mem_cons.1 hx with rfl | hx
        · exact h1
        · exact kLt_trans h1 (h.head x hx)
theorem fold_rise (m : List Ky) : ∀ {l : List Ky}, Rise l → Rise (m.foldl into l) := by
  induction m with
  | nil => exact fun h => h
  | cons a m ih => exact fun h => ih (into_rise a h)
theorem fold_mem (m : List Ky) : ∀ (l : List Ky) (x : Ky), x ∈ m.foldl into l ↔ x ∈ l ∨ x ∈ m := by
  induction m with
  | nil => exact fun l x => by simp
  | cons a m ih =>
    intro l x
    rw [List.foldl_cons, ih, into_mem, List.mem_cons]
    exact ⟨fun h => by rcases h with (h | h) | h <;> simp [h], fun h => by rcases h with h | h | h <;> simp [h]⟩

/-- Rising numbers behind one that stands ahead. -/
def upB : Int → List Int → Bool
  | _, [] => true
  | p, a :: r => decide (p < a) && upB a r
def oneB (l : List Int) : Bool := !l.isEmpty && upB (-1) l
theorem oneB_ne {l : List Int} (h : oneB l = true) : l ≠ [] := fun e => by rw [e] at h; simp [oneB] at h
structure Po where
  k : Ky
  ns : List Int
def mayFrom : Option Ky → List Po → Bool
  | _, [] => true
  | none, x :: r => oneB x.ns && mayFrom (some x.k) r
  | some q, x :: r => oneB x.ns && (kLt q x.k && mayFrom (some x.k) r)
def mayL (l : List Po) : Bool := mayFrom none l
theorem mayFrom_iff : ∀ (l : List Po) (p : Option Ky), mayFrom p l = true ↔ (∀ x ∈ l, oneB x.ns = true) ∧ Rise (l.map Po.k) ∧ ∀ q, p = some q → ∀ x ∈ l, kLt q x.k = true
  | [], p => by simp [mayFrom, Rise]
  | x :: r, none => by
    have ih := mayFrom_iff r (some x.k)
    simp only [mayFrom, Bool.and_eq_true, ih, List.forall_mem_cons, List.map_cons]
    constructor
    · rintro ⟨h1, h2, h3, h4⟩
      refine ⟨⟨h1, h2⟩, List.pairwise_cons.2 ⟨fun k hk => ?_, h3⟩, fun q e => by cases e⟩
      obtain ⟨y, hy, rfl⟩ := List.mem_map.1 hk
      exact h4 _ rfl y hy
    · rintro ⟨⟨h1, h2⟩, h3, _⟩
      exact ⟨h1, h2, h3.tail, fun q e y hy => by cases e; exact h3.head _ (List.mem_map_of_mem hy)⟩
  | x :: r, some q => by
    have ih := mayFrom_iff r (some x.k)
    simp only [mayFrom, Bool.and_eq_true, ih, List.forall_mem_cons, List.map_cons]
    constructor
    · rintro ⟨h1, h0, h2, h3, h4⟩
      refine ⟨⟨h1, h2⟩, List.pairwise_cons.2 ⟨fun k hk => ?_, h3⟩, fun q' e => by cases e; exact ⟨h0, fun y hy => kLt_trans h0 (h4 _ rfl y hy)⟩⟩
      obtain ⟨y, hy, rfl⟩ := List.mem_map.1 hk
      exact h4 _ rfl y hy
    · rintro ⟨⟨h1, h2⟩, h3, h5⟩
      exact ⟨h1, (h5 q rfl).1, h2, h3.tail, fun q' e y hy => by cases e; exact h3.head _ (List.mem_map_of_mem hy)⟩
theorem mayL_iff (l : List Po) : mayL l = true ↔ (∀ x ∈ l, oneB x.ns = true) ∧ Rise (l.map Po.k) := by
  unfold mayL
  rw [mayFrom_iff]
  exact ⟨fun h => ⟨h.1, h.2.1⟩, fun h => ⟨h.1, h.2, fun q e => by cases e⟩⟩
def allMay (ls : List (List Po)) : Bool := ls.all mayL
def hasK (l : List Po) (k : Ky) : Bool := l.any fun p => p.k == k
theorem hasK_iff (l : List Po) (k : Ky) : hasK l k = true ↔ k ∈ l.map Po.k := by simp [hasK, List.mem_map]
/-- The Keys that all have. -/
def andK : List (List Po) → List Ky
  | [] => []
  | l :: r => if allMay (l :: r) then (l.filter fun p => (l :: r).all fun m => hasK m p.k).map Po.k else []
/-- Those that some has. -/
def orK (ls : List (List Po)) : List Ky := if allMay ls then (ls.flatten.map Po.k).foldl into [] else []
def nsOf (l : List Po) (k : Ky) : List Int := ((l.find? fun p => p.k == k).map Po.ns).getD []
/-- Does a phrase stand there? -/
def runs (ls : List (List Po)) (k : Ky) : Bool := (nsOf (ls.headD []) k).any fun a => (List.range ls.length).all fun j => (nsOf (ls.getD j []) k).contains (IntKind.i64.wrap (a + (j : Int)))
def phK (ls : List (List Po)) : List Ky := (andK ls).filter (runs ls)
def lessK (a some : List Ky) : List Ky := a.filter fun k => !some.contains k
def dropP (l : List Po) (k : Ky) : List Po := if mayL l then l.filter (fun p => !(p.k == k)) else []
def insP (l : List Po) (p : Po) : List Po := l.takeWhile (fun x => kLt x.k p.k) ++ p :: l.dropWhile fun x => kLt x.k p.k
def putP (l : List Po) (p : Po) : List Po := if mayL l then (if oneB p.ns then insP (dropP l p.k) p else l) else []

theorem andK_cons (l : List Po) (r : List (List Po)) : andK (l :: r) = if allMay (l :: r) then (l.filter fun p => (l :: r).all fun m => hasK m p.k).map Po.k else [] := rfl
theorem map_filter_sub {l : List Po} (h : Rise (l.map Po.k)) (f : Po → Bool) : Rise ((l.filter f).map Po.k) :=
  List.Pairwise.sublist (List.filter_sublist.map _) h
theorem allMay_mem {ls : List (List Po)} (h : allMay ls = true) {l : List Po} (hl : l ∈ ls) : mayL l = true := List.all_eq_true.1 h l hl
theorem andK_rise (ls : List (List Po)) : Rise (andK ls) := by
  cases ls with
  | nil => exact List.Pairwise.nil
  | cons l r =>
    rw [andK_cons]
    split
    · rename_i h
      exact map_filter_sub ((mayL_iff l).1 (allMay_mem h (by simp))).2 _
    · exact List.Pairwise.nil
theorem andK_mem {ls : List (List Po)} (h : allMay ls = true) (h0 : ls ≠ []) (k : Ky) : k ∈ andK ls ↔ ∀ l ∈ ls, k ∈ l.map Po.k := by
  cases ls with
  | nil => exact absurd rfl h0
  | cons l r =>
    rw [andK_cons, if_pos h, List.mem_map]
    constructor
    · rintro ⟨p, hp, rfl⟩ m hm
      exact (hasK_iff m p.k).1 (List.all_eq_true.1 (List.mem_filter.1 hp).2 m hm)
    · intro hk
      obtain ⟨p, hp, rfl⟩ := List.mem_map.1 (hk l (by simp))
      exact ⟨p, List.mem_filter.2 ⟨hp, List.all_eq_true.2 fun m hm => (hasK_iff m p.k).2 (hk m hm)⟩, rfl⟩
theorem orK_rise (ls : List (List Po)) : Rise (orK ls) := by
  unfold orK
  split
  · exact fold_rise _ List.Pairwise.nil
  · exact List.Pairwise.nil
theorem orK_mem {ls : List (List Po)} (h : allMay ls = true) (k : Ky) : k ∈ orK ls ↔ ∃ l ∈ ls, k ∈ l.map Po.k := by
  unfold orK
  rw [if_pos h, fold_mem]
  simp only [List.not_mem_nil, false_or, List.mem_map, List.mem_flatten]
  exact ⟨fun ⟨p, ⟨l, hl, hp⟩, e⟩ => ⟨l, hl, p, hp, e⟩, fun ⟨l, hl, p, hp, e⟩ => ⟨p, ⟨l, hl, hp⟩, e⟩⟩
theorem phK_rise (ls : List (List Po)) : Rise (phK ls) := (andK_rise ls).filter _
theorem phK_mem (ls : List (List Po)) (k : Ky) : k ∈ phK ls ↔ k ∈ andK ls ∧ runs ls k = true := List.mem_filter
theorem lessK_mem (a b : List Ky) (k : Ky) : k ∈ lessK a b ↔ k ∈ a ∧ k ∉ b := by simp [lessK]
theorem lessK_rise {a : List Ky} (h : Rise a) (b : List Ky) : Rise (lessK a b) := h.filter _
theorem lessK_nil {a b : List Ky} (h : ∀ k ∈ a, k ∈ b) : lessK a b = [] := by
  unfold lessK
  rw [List.filter_eq_nil_iff]
  intro k hk
  simpa using h k hk
theorem orK_one {l : List Po} (h : mayL l = true) : orK [l] = l.map Po.k :=
  Rise.ext (orK_rise _) ((mayL_iff l).1 h).2 (fun k => by rw [orK_mem (by simpa [allMay] using h)]; simp)
theorem len_union {x y u : List Ky} (hx : Rise x) (hy : Rise y) (hu : Rise u) (h : ∀ k, k ∈ u ↔ k ∈ x ∨ k ∈ y) : u.length = x.length + (lessK y x).length := by
  have h1 := len_split u fun k => x.contains k
  have h2 : (u.filter fun k => x.contains k) = x := Rise.ext (hu.filter _) hx (fun k => by
    rw [List.mem_filter, h]
    simp only [List.contains_iff_mem]
    exact ⟨fun q => q.2, fun q => ⟨.inl q, q⟩⟩)
  have h3 : (u.filter fun k => !x.contains k) = lessK y x := Rise.ext (hu.filter _) (lessK_rise hy x) (fun k => by
    rw [List.mem_filter, h, lessK_mem]
    simp only [Bool.not_eq_true', List.contains_eq_mem, decide_eq_false_iff_not]
    exact ⟨fun q => ⟨q.1.resolve_left q.2, q.2⟩, fun q => ⟨.inr q.1, q.2⟩⟩)
  rw [h2, h3] at h1
  omega
theorem len_meet {x y m : List Ky} (hx : Rise x) (hm : Rise m) (h : ∀ k, k ∈ m ↔ k ∈ x ∧ k ∈ y) : m.length + (lessK x y).length = x.length := by
  have h1 := len_split x fun k => y.contains k
  have h2 : (x.filter fun k => y.contains k) = m := Rise.ext (hx.filter _) hm (fun k => by rw [List.mem_filter, h, List.contains_iff_mem])
  rw [h2] at h1
  exact h1
end Go.Proofs.YtdjlgiinekighaaGreatDoor.P
/-
  Lists of places, as plain lists: what the statements of layer 10 ask.
-/
namespace Go.Proofs.YtdjlgiinekighaaGreatDoor.P
open Go.RowKit

theorem allMay_two {a b : List Po} (ha : mayL a = true) (hb : mayL b = true) : allMay [a, b] = true := by simp [allMay, ha, hb]
theorem allMay_three {a b c : List Po} (ha : mayL a = true) (hb : mayL b = true) (hc : mayL c = true) : allMay [a, b, c] = true := by simp [allMay, ha, hb, hc]
theorem rise_of {a : List Po} (ha : mayL a = true) : Rise (a.map Po.k) := ((mayL_iff a).1 ha).2
theorem and2_mem {a b : List Po} (ha : mayL a = true) (hb : mayL b = true) (k : Ky) : k ∈ andK [a, b] ↔ k ∈ a.map Po.k ∧ k ∈ b.map Po.k := by
  rw [andK_mem (allMay_two ha hb) (by simp)]
  simp only [List.forall_mem_cons, List.not_mem_nil, false_implies, implies_true, and_true]
theorem and3_mem {a b c : List Po} (ha : mayL a = true) (hb : mayL b = true) (hc : mayL c = true) (k : Ky) : k ∈ andK [a, b, c] ↔ k ∈ a.map Po.k ∧ k ∈ b.map Po.k ∧ k ∈ c.map Po.k := by
  rw [andK_mem (allMay_three ha hb hc) (by simp)]
  simp only [List.forall_mem_cons, List.not_mem_nil, false_implies, implies_true, and_true]
theorem or2_mem {a b : List Po} (ha : mayL a = true) (hb : mayL b = true) (k : Ky) : k ∈ orK [a, b] ↔ k ∈ a.map Po.k ∨ k ∈ b.map Po.k := by
  rw [orK_mem (allMay_two ha hb)]
  simp
theorem or3_mem {a b c : List Po} (ha : mayL a = true) (hb : mayL b = true) (hc : mayL c = true) (k : Ky) : k ∈ orK [a, b, c] ↔ k ∈ a.map Po.k ∨ k ∈ b.map Po.k ∨ k ∈ c.map Po.k := by
  rw [orK_mem (allMay_three ha hb hc)]
  simp
theorem or1_mem {a : List Po} (ha : mayL a = true) (k : Ky) : k ∈ orK [a] ↔ k ∈ a.map Po.k := by rw [orK_one ha]
theorem and_comm2 {a b : List Po} (ha : mayL a = true) (hb : mayL b = true) : andK [a, b] = andK [b, a] :=
  Rise.ext (andK_rise _) (andK_rise _) (fun k => by rw [and2_mem ha hb, and2_mem hb ha]; exact And.comm)
theorem or_comm2 {a b : List Po} (ha : mayL a = true) (hb : mayL b = true) : orK [a, b] = orK [b, a] :=
  Rise.ext (orK_rise _) (orK_rise _) (fun k => by rw [or2_mem ha hb, or2_mem hb ha]; exact Or.comm)
theorem or_len1 {a : List Po} (ha : mayL a = true) : (orK [a]).length = a.length := by rw [orK_one ha, List.length_map]
/-- As many in both and in some as in each. -/
theorem sets_len {a b : List Po} (ha : mayL a = true) (hb : mayL b = true) :
    (andK [a, b]).length + (orK [a, b]).length = (orK [a]).length + (orK [b]).length ∧ (lessK (orK [a]) (orK [b])).length + (lessK (orK [b]) (orK [a])).length + (andK [a, b]).length = (orK [a, b]).length := by
  have h1 := len_union (x := orK [a]) (y := orK [b]) (u := orK [a, b]) (orK_rise _) (orK_rise _) (orK_rise _) (fun k => by rw [or2_mem ha hb, or1_mem ha, or1_mem hb])
  have h2 := len_meet (x := orK [a]) (y := orK [b]) (m := andK [a, b]) (orK_rise _) (andK_rise _) (fun k => by rw [and2_mem ha hb, or1_mem ha, or1_mem hb])
  have h3 := len_meet (x := orK [b]) (y := orK [a]) (m := andK [a, b]) (orK_rise _) (andK_rise _) (fun k => by rw [and2_mem ha hb, or1_mem ha, or1_mem hb]; exact And.comm)
  omega
theorem ph_sub (ls : List (List Po)) : lessK (phK ls) (andK ls) = [] := lessK_nil (fun k hk => ((phK_mem ls k).1 hk).1)
/-- Numbers that a machine's int holds. -/
def inR (x : Int) : Prop := -9223372036854775808 ≤ x ∧ x ≤ 9223372036854775807
theorem wrap_in {x : Int} (h : inR x) : IntKind.i64.wrap x = x := by
  obtain ⟨h1, h2⟩ := h
  rw [IntKind.wrap_i64]
  omega
theorem wrap_r (x : Int) : inR (IntKind.i64.wrap x) := by
  rw [IntKind.wrap_i64]
  unfold inR
  omega
theorem wrap_add (x y : Int) : IntKind.i64.wrap (IntKind.i64.wrap x + y) = IntKind.i64.wrap (x + y) := by
  simp only [IntKind.wrap_i64]
  omega
/-- A list of places whose numbers a machine's int holds. -/
def okP (l : List Po) : Prop := ∀ p ∈ l, ∀ x ∈ p.ns, inR x
theorem nsOf_mem {l : List Po} {k : Ky} (h : k ∈ l.map Po.k) : ∃ p ∈ l, p.k = k ∧ nsOf l k = p.ns := by
  obtain ⟨p, hp, rfl⟩ := List.mem_map.1 h
  cases hf : l.find? fun q => q.k == p.k with
  | none =>
    rw [List.find?_eq_none] at hf
    exact absurd (hf p hp) (by simp)
  | some q =>
    refine ⟨q, List.mem_of_find?_eq_some hf, ?_, by simp [nsOf, hf]⟩
    have := List.find?_some hf
    simpa using this
theorem nsOf_ok {l : List Po} (h : okP l) (k : Ky) : ∀ x ∈ nsOf l k, inR x := fun x hx => by
  unfold nsOf at hx
  cases hf : l.find? fun q => q.k == k with
  | none => rw [hf] at hx; simp at hx
  | some q =>
    rw [hf] at hx
    exact h q (List.mem_of_find?_eq_some hf) x (by simpa using hx)
theorem runs_iff (ls : List (List Po)) (k : Ky) : runs ls k = true ↔ ∃ a ∈ nsOf (ls.headD []) k, ∀ j, j < ls.length → IntKind.i64.wrap (a + (j : Int)) ∈ nsOf (ls.getD j []) k := by
  simp only [runs, List.any_eq_true, List.all_eq_true, List.mem_range, List.contains_iff_mem]
theorem ph_one {a : List Po} (ha : mayL a = true) (hr : okP a) : phK [a] = orK [a] := by
  rw [orK_one ha]
  refine Rise.ext (phK_rise _) (rise_of ha) (fun k => ?_)
  rw [phK_mem, andK_mem (by simpa [allMay] using ha) (by simp)]
  simp only [List.forall_mem_cons, List.not_mem_nil, false_implies, implies_true, and_true]
  refine ⟨fun h => h.1, fun h => ⟨h, (runs_iff _ _).2 ?_⟩⟩
  obtain ⟨p, hp, hpk, e⟩ := nsOf_mem h
  have hne := oneB_ne (((mayL_iff a).1 ha).1 p hp)
  obtain ⟨x, hx⟩ := List.exists_mem_of_ne_nil _ hne
  refine ⟨x, by simpa [e] using hx, fun j hj => ?_⟩
  have : j = 0 := by simpa using hj
  subst this
  have hw : IntKind.i64.wrap (x + ((0 : Nat) : Int)) = x := by rw [show x + ((0 : Nat) : Int) = x by simp]; exact wrap_in (hr p hp x hx)
  rw [hw]
  simpa [e] using hx
theorem ph_first {a b c : List Po} (k : Ky) (h : runs [a, b, c] k = true) : runs [a, b] k = true := by
  rw [runs_iff] at h ⊢
  obtain ⟨x, hx, h⟩ := h
  refine ⟨x, hx, fun j hj => ?_⟩
  simp only [List.length_cons, List.length_nil] at hj
  have h1 := h j (by simp; omega)
  match j, hj with
  | 0, _ => exact h1
  | 1, _ => exact h1
theorem ph_last {a b c : List Po} (k : Ky) (h : runs [a, b, c] k = true) : runs [b, c] k = true := by
  rw [runs_iff] at h ⊢
  obtain ⟨x, hx, h⟩ := h
  have h1 := h 1 (by simp)
  have h2 := h 2 (by simp)
  simp only [List.getD_cons_succ, List.getD_cons_zero] at h1 h2
  refine ⟨IntKind.i64.wrap (x + ((1 : Nat) : Int)), h1, fun j hj => ?_⟩
  simp only [List.length_cons, List.length_nil] at hj
  match j, hj with
  | 0, _ =>
    rw [wrap_add]
    simpa using h1
  | 1, _ =>
    rw [wrap_add]
    simp only [List.getD_cons_succ, List.getD_cons_zero]
    rw [show x + ((1 : Nat) : Int) + ((1 : Nat) : Int) = x + ((2 : Nat) : Int) by omega]
    exact h2
/-- Three lists. -/
theorem three_and {a b c : List Po} (ha : mayL a = true) (hb : mayL b = true) (hc : mayL c = true) :
    lessK (andK [a, b, c]) (andK [a, b]) = [] ∧ lessK (andK [a, b, c]) (andK [b, c]) = [] ∧ (andK [a, b, c]).length + (lessK (andK [a, b]) (orK [c])).length = (andK [a, b]).length := by
  refine ⟨lessK_nil fun k hk => ?_, lessK_nil fun k hk => ?_, ?_⟩
  · rw [and3_mem ha hb hc] at hk
    rw [and2_mem ha hb]
    exact ⟨hk.1, hk.2.1⟩
  · rw [and3_mem ha hb hc] at hk
    rw [and2_mem hb hc]
    exact hk.2
  · exact len_meet (andK_rise _) (andK_rise _) (fun k => by rw [and3_mem ha hb hc, and2_mem ha hb, or1_mem hc]; exact and_assoc.symm)
theorem three_or {a b c : List Po} (ha : mayL a = true) (hb : mayL b = true) (hc : mayL c = true) :
    lessK (orK [a, b]) (orK [a, b, c]) = [] ∧ lessK (orK [a, b, c]) (orK [a, b]) = lessK (orK [c]) (orK [a, b]) := by
  refine ⟨lessK_nil fun k hk => ?_, Rise.ext (lessK_rise (orK_rise _) _) (lessK_rise (orK_rise _) _) fun k => ?_⟩
  · rw [or2_mem ha hb] at hk
    rw [or3_mem ha hb hc]
    rcases hk with h | h
    · exact .inl h
    · exact .inr (.inl h)
  · rw [lessK_mem, lessK_mem, or3_mem ha hb hc, or2_mem ha hb, or1_mem hc]
    constructor
    · rintro ⟨h1 | h1 | h1, h2⟩
      · exact absurd (.inl h1) h2
      · exact absurd (.inr h1) h2
      · exact ⟨h1, h2⟩
    · rintro ⟨h1, h2⟩
      exact ⟨.inr (.inr h1), h2⟩
theorem three_ph {a b c : List Po} (ha : mayL a = true) (hb : mayL b = true) (hc : mayL c = true) :
    lessK (phK [a, b, c]) (phK [a, b]) = [] ∧ lessK (phK [a, b, c]) (phK [b, c]) = [] ∧ lessK (phK [a, b, c]) (andK [a, b, c]) = [] := by
  refine ⟨lessK_nil fun k hk => ?_, lessK_nil fun k hk => ?_, ph_sub _⟩
  · rw [phK_mem, and3_mem ha hb hc] at hk
    rw [phK_mem, and2_mem ha hb]
    exact ⟨⟨hk.1.1, hk.1.2.1⟩, ph_first k hk.2⟩
  · rw [phK_mem, and3_mem ha hb hc] at hk
    rw [phK_mem, and2_mem hb hc]
    exact ⟨hk.1.2, ph_last k hk.2⟩

/-- A Post in its place. -/
theorem mayL_filter {l : List Po} (h : mayL l = true) (f : Po → Bool) : mayL (l.filter f) = true := by
  rw [mayL_iff] at h ⊢
  exact ⟨fun x hx => h.1 x (List.mem_filter.1 hx).1, map_filter_sub h.2 f⟩
theorem dropP_eq {l : List Po} (h : mayL l = true) (k : Ky) : dropP l k = l.filter fun p => !(p.k == k) := by unfold dropP; rw [if_pos h]
theorem dropP_may (l : List Po) (k : Ky) : mayL (dropP l k) = true := by
  unfold dropP
  split
  · rename_i h
    exact mayL_filter h _
  · rfl
theorem dropP_no (l : List Po) (k : Ky) : ∀ x ∈ dropP l k, x.k ≠ k := fun x hx => by
  unfold dropP at hx
  split at hx
  · have := (List.mem_filter.1 hx).2
    simpa using this
  · cases hx
theorem drop_none {l : List Po} (k : Ky) (h : ∀ x ∈ l, x.k ≠ k) : l.filter (fun p => !(p.k == k)) = l := by
  rw [List.filter_eq_self]
  intro x hx
  simpa using h x hx
theorem insP_mem (l : List Po) (p x : Po) : x ∈ insP l p ↔ x = p ∨ x ∈ l := by
  unfold insP
  rw [List.mem_append, List.mem_cons]
  have h := List.takeWhile_append_dropWhile (p := fun x : Po => kLt x.k p.k) (l := l)
  constructor
  · rintro (h1 | h1 | h1)
    · exact .inr (h ▸ List.mem_append_left _ h1)
    · exact .inl h1
    · exact .inr (h ▸ List.mem_append_right _ h1)
  · rintro (h1 | h1)
    · exact .inr (.inl h1)
    · rw [← h] at h1
      rcases List.mem_append.1 h1 with h2 | h2
      · exact .inl h2
      · exact .inr (.inr h2)
theorem insP_cons (a : Po) (l : List Po) (p : Po) : insP (a :: l) p = if kLt a.k p.k then a :: insP l p else p :: a :: l := by
  unfold insP
  cases h : kLt a.k p.k with
  | true => simp [h]
  | false => simp [h]
theorem insP_rise : ∀ {l : List Po} (p : Po), Rise (l.map Po.k) → (∀ x ∈ l, x.k ≠ p.k) → Rise ((insP l p).map Po.k)
  | [], p, _, _ => List.pairwise_singleton _ _
  | a :: l, p, h, hn => by
    rw [insP_cons]
    have h' : Rise (a.k :: l.map Po.k) := h
    split
    · rename_i hk
      refine List.pairwise_cons.2 ⟨fun k hk2 => ?_, insP_rise p h'.tail (fun x hx => hn x (List.mem_cons_of_mem _ hx))⟩
      obtain ⟨x, hx, rfl⟩ := List.mem_map.1 hk2
      rcases (insP_mem l p x).1 hx with rfl | hx
      · exact hk
      · exact h'.head _ (List.mem_map_of_mem hx)
    · rename_i hk
      have h1 : kLt p.k a.k = true := by
        rcases kLt_tri a.k p.k with e | e | e
        · exact absurd e hk
        · exact absurd e (hn a (by simp))
        · exact e
      refine List.pairwise_cons.2 ⟨fun k hk2 => ?_, h⟩
      rcases List.mem_cons.1 hk2 with rfl | hk2
      · exact h1
      · exact kLt_trans h1 (h'.head k hk2)
theorem insP_drop (l : List Po) (p : Po) (hn : ∀ x ∈ l, x.k ≠ p.k) : (insP l p).filter (fun x => !(x.k == p.k)) = l := by
  unfold insP
  rw [List.filter_append, List.filter_cons_of_neg (by simp), ← List.filter_append, List.takeWhile_append_dropWhile]
  exact drop_none p.k hn
theorem insP_len (l : List Po) (p : Po) : (insP l p).length = l.length + 1 := by
  unfold insP
  have h := congrArg List.length (List.takeWhile_append_dropWhile (p := fun x : Po => kLt x.k p.k) (l := l))
  rw [List.length_append] at h ⊢
  rw [List.length_cons]
  omega
/-- All that PostBack asks of a list and a Post that may be. -/
theorem back_all {x : List Po} {p : Po} (hx : mayL x = true) (hp : oneB p.ns = true) :
    putP x p = insP (dropP x p.k) p ∧ mayL (putP x p) = true ∧ (putP x p).length = (dropP x p.k).length + 1 ∧ dropP (putP x p) p.k = dropP x p.k ∧ putP (putP x p) p = putP x p ∧ putP (dropP x p.k) p = putP x p ∧ (∀ y ∈ putP x p, y.k = p.k → y = p) ∧ (putP x p).countP (fun y => y.k == p.k) = 1 := by
  have hno := dropP_no x p.k
  have e : putP x p = insP (dropP x p.k) p := by unfold putP; rw [if_pos hx, if_pos hp]
  have hm : mayL (insP (dropP x p.k) p) = true := by
    rw [mayL_iff]
    refine ⟨fun y hy => ?_, insP_rise p (rise_of (dropP_may x p.k)) hno⟩
    rcases (insP_mem _ _ _).1 hy with rfl | hy
    · exact hp
    · exact ((mayL_iff _).1 (dropP_may x p.k)).1 y hy
  have hd : dropP (insP (dropP x p.k) p) p.k = dropP x p.k := by rw [dropP_eq hm, insP_drop _ _ hno]
  have hd2 : dropP (dropP x p.k) p.k = dropP x p.k := by rw [dropP_eq (dropP_may x p.k), drop_none _ hno]
  refine ⟨e, by rw [e]; exact hm, by rw [e, insP_len], by rw [e, hd], ?_, ?_, fun y hy hk => ?_, ?_⟩
  · rw [e]
    unfold putP
    rw [if_pos hm, if_pos hp, hd]
  · rw [e]
    unfold putP
    rw [if_pos (dropP_may x p.k), if_pos hp, hd2]
  · rw [e] at hy
    rcases (insP_mem _ _ _).1 hy with h | h
    · exact h
    · exact absurd hk (hno y h)
  · rw [e]
    unfold insP
    have h0 : ∀ m : List Po, (∀ y ∈ m, y ∈ dropP x p.k) → m.countP (fun y => y.k == p.k) = 0 := fun m hm' => by
      rw [List.countP_eq_zero]
      intro y hy
      simpa using hno y (hm' y hy)
    have hw := List.takeWhile_append_dropWhile (p := fun x : Po => kLt x.k p.k) (l := dropP x p.k)
    rw [List.countP_append, List.countP_cons, h0 _ (fun y hy => hw ▸ List.mem_append_left _ hy), h0 _ (fun y hy => hw ▸ List.mem_append_right _ hy)]
    simp
end Go.Proofs.YtdjlgiinekighaaGreatDoor.P
/-
  Keys and lists of places in memory: read, rows of one's own.
-/
namespace Go.Proofs.YtdjlgiinekighaaGreatDoor.P
open Go.RowKit Go.Lib

def Bx (T : TypeId) (w : World) (g : Nat) (cs : Array Value) : Prop := w.heap[g]? = some (.cells cs T (0, 0))
theorem Bx.new (T : TypeId) (w : World) (cs : Array Value) : Bx T (w.alloc (.cells cs T (0, 0))) w.heap.size cs := heap_alloc_new w _
theorem Bx.cell {T : TypeId} {w : World} {g : Nat} {cs : Array Value} (h : Bx T w g cs) (k : Nat) : w.cell? ⟨g, k, none⟩ = cs[k]? := cell_of_row w g k _ _ _ h
theorem Bx.lt {T : TypeId} {w : World} {g : Nat} {cs : Array Value} (h : Bx T w g cs) : g < w.heap.size := (Array.getElem?_eq_some_iff.1 h).1
theorem Bx.below {T : TypeId} {w w' : World} {g : Nat} {cs : Array Value} (h : Bx T w g cs) (hb : Below w.heap.size w w') : Bx T w' g cs := (hb.block g h.lt).trans h
theorem bn {w a b : World} (h : Below w.heap.size w a) (k : Below a.heap.size a b) : Below w.heap.size w b := h.trans (k.mono h.size)
/-- The cells of Keys. -/
def cs2 : List Ky → List Value
  | [] => []
  | k :: r => .int .i64 k.1 :: .int .i64 k.2 :: cs2 r
theorem cs2_len : ∀ l : List Ky, (cs2 l).length = l.length * 2
  | [] => rfl
  | k :: r => by simp only [cs2, List.length_cons, cs2_len r]; omega
theorem cs2_app : ∀ l m : List Ky, cs2 (l ++ m) = cs2 l ++ cs2 m
  | [], _ => rfl
  | k :: r, m => by simp only [cs2, List.cons_append, cs2_app r m]
theorem cs2_at : ∀ (l : List Ky) (k : Nat) (hk : k < l.length), (cs2 l)[k * 2]? = some (.int .i64 l[k].1) ∧ (cs2 l)[k * 2 + 1]? = some (.int .i64 l[k].2)
  | a :: r, 0, _ => ⟨rfl, rfl⟩
  | a :: r, k + 1, hk => by
    have h := cs2_at r k (by simpa using hk)
    rw [show (k + 1) * 2 = k * 2 + 1 + 1 by omega]
    simpa [cs2] using h
theorem cs2_one (l : List Ky) : ∀ u ∈ cs2 l, u.oneCell' = true := by
  induction l with
  | nil => intro u hu; cases hu
  | cons k r ih =>
    intro u hu
    simp only [cs2, List.mem_cons] at hu
    rcases hu with rfl | rfl | hu
    · rfl
    · rfl
    · exact ih u hu
/-- A list of Keys as it can be read. -/
def KAt (w : World) (b o : Nat) (k : Ky) : Prop := w.cell? ⟨b, o, none⟩ = some (.int .i64 k.1) ∧ w.cell? ⟨b, o + 1, none⟩ = some (.int .i64 k.2)
theorem KAt.below {w w' : World} {b o : Nat} {k : Ky} (h : KAt w b o k) (hb : Below w.heap.size w w') : KAt w' b o k :=
  ⟨(hb.cell (World.block_lt_of_cell? w _ h.1)).trans h.1, (hb.cell (World.block_lt_of_cell? w _ h.2)).trans h.2⟩
def KRd (w : World) (v : Value) (l : List Ky) : Prop :=
  ∃ ad cap, v = .slice ad l.length cap ∧ l.length ≤ cap ∧ (0 < l.length → ∃ b o, ad = some ⟨b, o, none⟩ ∧ ∀ k (hk : k < l.length), KAt w b (o + k * 2) l[k])
theorem KRd.below {w w' : World} {v : Value} {l : List Ky} (h : KRd w v l) (hb : Below w.heap.size w w') : KRd w' v l := by
  obtain ⟨ad, cap, h1, h2, h3⟩ := h
  exact ⟨ad, cap, h1, h2, fun h0 => by obtain ⟨b, o, e, hs⟩ := h3 h0; exact ⟨b, o, e, fun k hk => (hs k hk).below hb⟩⟩
def KRow (w : World) (B : Nat) (v : Value) (l : List Ky) : Prop := w.ownsRow B 31 2 v l.length (cs2 l)
theorem KRow.below {w w' : World} {B : Nat} {v : Value} {l : List Ky} (h : KRow w B v l) (hb : Below w.heap.size w w') : KRow w' B v l := own_below h hb
theorem KRow.nil (w : World) (B : Nat) : KRow w B (.slice none 0 0) [] := World.ownsRow_nil _ _ _ _
theorem KRow.rd {w : World} {B : Nat} {v : Value} {l : List Ky} (h : KRow w B v l) : KRd w v l := by
  rcases h.2 with ⟨rfl, h0⟩ | ⟨g, cap, cur, rfl, _, hh, hn, _, hsz, htake⟩
  · exact ⟨none, 0, by rw [h0], by omega, fun h => by omega⟩
  · refine ⟨_, cap, rfl, hn, fun _ => ⟨g, 0, rfl, fun k hk => ?_⟩⟩
    obtain ⟨c0, c1⟩ := cs2_at l k hk
    have f : ∀ t, t < l.length * 2 → w.cell? ⟨g, t, none⟩ = (cs2 l)[t]? := fun t ht => by
      rw [cell_of_row w g t _ _ _ hh, ← htake, List.getElem?_take_of_lt ht, Array.getElem?_toList]
    rw [Nat.zero_add]
    exact ⟨(f _ (by omega)).trans c0, (f _ (by omega)).trans c1⟩

/-- A Post as it lies: its Key, its places' slice, and what that holds. -/
structure Pv where
  o : Int
  s : Int
  a : Value
  ns : List Int
def Pv.p (x : Pv) : Po := ⟨(x.o, x.s), x.ns⟩
theorem Pv.p_k (x : Pv) : x.p.k = (x.o, x.s) := rfl
theorem Pv.p_ns (x : Pv) : x.p.ns = x.ns := rfl
def ps (l : List Pv) : List Po := l.map Pv.p
structure PAt (w : World) (b o : Nat) (x : Pv) : Prop where
  c0 : w.cell? ⟨b, o, none⟩ = some (.int .i64 x.o)
  c1 : w.cell? ⟨b, o + 1, none⟩ = some (.int .i64 x.s)
  c2 : w.cell? ⟨b, o + 2, none⟩ = some x.a
  nl : Nl w x.a x.ns
theorem PAt.below {w w' : World} {b o : Nat} {x : Pv} (h : PAt w b o x) (hb : Below w.heap.size w w') : PAt w' b o x :=
  ⟨(hb.cell (World.block_lt_of_cell? w _ h.c0)).trans h.c0, (hb.cell (World.block_lt_of_cell? w _ h.c1)).trans h.c1, (hb.cell (World.block_lt_of_cell? w _ h.c2)).trans h.c2, h.nl.below hb⟩
def PRd (w : World) (v : Value) (l : List Pv) : Prop :=
  ∃ ad cap, v = .slice ad l.length cap ∧ l.length ≤ cap ∧ (0 < l.length → ∃ b o, ad = some ⟨b, o, none⟩ ∧ ∀ k (hk : k < l.length), PAt w b (o + k * 3) l[k])
theorem PRd.below {w w' : World} {v : Value} {l : List Pv} (h : PRd w v l) (hb : Below w.heap.size w w') : PRd w' v l := by
  obtain ⟨ad, cap, h1, h2, h3⟩ := h
  exact ⟨ad, cap, h1, h2, fun h0 => by obtain ⟨b, o, e, hs⟩ := h3 h0; exact ⟨b, o, e, fun k hk => (hs k hk).below hb⟩⟩
/-- A list of lists of Posts: each with its slice. -/
structure Lv where
  v : Value
  l : List Pv
def pls (ls : List Lv) : List (List Po) := ls.map fun x => ps x.l
def LRd (w : World) (v : Value) (ls : List Lv) : Prop :=
  (∃ ad cap, v = .slice ad ls.length cap ∧ ls.length ≤ cap ∧ (0 < ls.length → ∃ b o, ad = some ⟨b, o, none⟩ ∧ ∀ k (hk : k < ls.length), w.cell? ⟨b, o + k, none⟩ = some ls[k].v)) ∧ ∀ x ∈ ls, PRd w x.v x.l
theorem LRd.below {w w' : World} {v : Value} {ls : List Lv} (h : LRd w v ls) (hb : Below w.heap.size w w') : LRd w' v ls := by
  obtain ⟨⟨ad, cap, h1, h2, h3⟩, h4⟩ := h
  exact ⟨⟨ad, cap, h1, h2, fun h0 => by obtain ⟨b, o, e, hs⟩ := h3 h0; exact ⟨b, o, e, fun k hk => (hb.cell (World.block_lt_of_cell? w _ (hs k hk))).trans (hs k hk)⟩⟩, fun x hx => (h4 x hx).below hb⟩
theorem eq_key (a b c d : Int) (w : World) : (Op.equalIn 10000 31 (.agg #[.int .i64 a, .int .i64 b]) (.agg #[.int .i64 c, .int .i64 d])).run Tryz.prog w = .ok (a == c && b == d) w := by
  have u3 := Tryz.underlying3
  have a3 := Tryz.isAgg3
  have z3 := Tryz.sizeOf3
  rw [show (10000 : Nat) = 9999 + 1 from rfl, run_equalIn_struct w 9999 31 _ _ (by kernel_rfl) (by kernel_rfl)]
  simp only [Program.fieldsOf, Tryz.underlying31]
  go_simp
  by_cases h1 : a = c <;> by_cases h2 : b = d <;> simp [h1, h2]
theorem below_two (w : World) (o o' : Obj) : Below w.heap.size w ((w.alloc o).alloc o') := ((Below.refl _ _).alloc (Nat.le_refl _) _).alloc (by simp) _
end Go.Proofs.YtdjlgiinekighaaGreatDoor.P
/-
  Before, one, at, find, of chapter 10's own answer, by contract.
-/
namespace Go.Proofs.YtdjlgiinekighaaGreatDoor.P
open Go.RowKit Go.Lib

theorem kLt_eq (o s p q : Int) : kLt (o, s) (p, q) = (decide (o < p) || (o == p && decide (s < q))) := rfl
theorem refbefore_c (o s p q : Int) (w : World) : Calls Tryz.prog 40 #[.agg #[.int .i64 o, .int .i64 s], .agg #[.int .i64 p, .int .i64 q]] w fun e w' => e = .returned (.bool (kLt (o, s) (p, q))) ∧ Below w.heap.size w w' := by
  by_cases h : o < p
  · have e0 : decide (o < p) = true := by simpa using h
    have hl : kLt (o, s) (p, q) = true := by simp [kLt, h]
    rw [hl]
    clear hl
    go_enter Tryz.func40, Tryz.ntmps40
    go_wp2
    go_ret
    exact ⟨by simp, below_two _ _ _⟩
  · have e0 : decide (o < p) = false := by simpa using h
    by_cases h2 : o = p
    · subst h2
      have e1 : (o == o) = true := by simp
      have hl : kLt (o, s) (o, q) = decide (s < q) := by simp [kLt]
      rw [hl]
      clear hl h
      generalize hC : decide (s < q) = C
      go_enter Tryz.func40, Tryz.ntmps40
      go_wp2
      go_ret
      exact ⟨by simp, below_two _ _ _⟩
    · have e1 : (o == p) = false := by simpa using h2
      have hl : kLt (o, s) (p, q) = false := by simp [kLt, h, h2]
      rw [hl]
      clear hl
      go_enter Tryz.func40, Tryz.ntmps40
      go_wp2
      go_ret
      exact ⟨by simp, below_two _ _ _⟩
def inL (l : List Int) (n : Int) : Bool := l.contains n
theorem inL_nil (n : Int) : inL [] n = false := rfl
theorem inL_cons (a : Int) (l : List Int) (n : Int) : inL (a :: l) n = (n == a || inL l n) := rfl
end Go.Proofs.YtdjlgiinekighaaGreatDoor.P
/-
  one, of chapter 10's own answer, by contract.
-/
namespace Go.Proofs.YtdjlgiinekighaaGreatDoor.P
open Go.RowKit Go.Lib

theorem upB_le : ∀ (l : List Int) (p : Int), upB p l = true → ∀ x ∈ l, p < x
  | [], _, _, x, hx => by cases hx
  | a :: r, p, h, x, hx => by
    simp only [upB, Bool.and_eq_true, decide_eq_true_eq] at h
    rcases List.mem_cons.1 hx with rfl | hx
    · exact h.1
    · have := upB_le r a h.2 x hx
      omega
set_option maxHeartbeats 4000000 in
theorem one_c (x : Pv) (w : World) (h : Nl w x.a x.ns) (hn : x.ns.length ≤ 1000000) :
    Calls Tryz.prog 50 #[.agg #[.int .i64 x.o, .int .i64 x.s, x.a]] w fun e w' => e = .returned (.bool (oneB x.ns)) ∧ Below w.heap.size w w' := by
  obtain ⟨o, s, a, l⟩ := x
  simp only at h hn ⊢
  obtain ⟨ad, cap, rfl, k1⟩ := h.form
  have hal := alloc_below w (.cells #[.int .i64 o, .int .i64 s, .slice ad l.length cap] 66)
  have bx := Bx.new 66 w #[.int .i64 o, .int .i64 s, .slice ad l.length cap]
  obtain ⟨w1, hw1⟩ : ∃ w1, w1 = w.alloc (.cells #[.int .i64 o, .int .i64 s, .slice ad l.length cap] 66) := ⟨_, rfl⟩
  rw [← hw1] at hal bx
  have H1 : Hid (0 < l.length → ∃ b o', ad = some ⟨b, o', none⟩ ∧ Nums w1 b o' l) := Lib.hid (fun h0 => by obtain ⟨b, o', e, hs⟩ := k1 h0; exact ⟨b, o', e, hs.below hal⟩)
  have CB := Lib.hid bx
  have HW := Lib.hid hw1
  have HAL := Lib.hid hal
  clear h k1 hal bx hw1
  go_enter Tryz.func50, Tryz.ntmps50
  go_wp2
  go_loopw [3] (fun v3 wr => ∃ (k : Nat) (z : Int), k ≤ l.length ∧ v3 = .int .i64 (k : Int) ∧ Hid (Below w1.heap.size w1 wr) ∧ Hid (upB z (l.drop k) = upB (-1) l) ∧ Hid (-1 ≤ z) ∧ Hid (k = 0 ∧ z = -1 ∨ ∃ j, k = j + 1 ∧ ∃ hj : j < l.length, l[j] = z)) (fun v3 _ => l.length - (intOf v3).toNat)
  case atStart => exact ⟨0, -1, by omega, rfl, Lib.hid (by rw [HW.out]; exact Below.refl _ _), Lib.hid rfl, Lib.hid (by omega), Lib.hid (.inl ⟨rfl, rfl⟩)⟩
  case round =>
    obtain ⟨k, z, hk, rfl, HB, hs, hz, hj⟩ := hrel
    have cb := ((CB.out.below HB.out).cell 2)
    simp only [List.getElem?_toArray, List.getElem?_cons_succ, List.getElem?_cons_zero] at cb
    have hgl := (CB.out.below HB.out).lt
    by_cases hp : k < l.length
    · obtain ⟨g1, o1, rfl, c1⟩ := H1.out (by omega)
      have c11 := (c1.below HB.out) k hp
      have hgl1 := World.block_lt_of_cell? _ _ c11
      have hs' := hs.out
      rw [List.drop_eq_getElem_cons hp, upB] at hs'
      have HP := Lib.hid hp
      generalize hy : l[k] = y at c11 hs'
      have HY := Lib.hid hy
      clear hs hy
      cases h1 : decide (y < 0) with
      | true =>
        have hfin : oneB l = false := by
          have hz := hz.out
          have hyn : y < 0 := by simpa using h1
          have hd : decide (z < y) = false := by simp; omega
          rw [hd, Bool.false_and] at hs'
          simp [oneB, ← hs']
        have HF := Lib.hid hfin
        clear hfin hs' hz hj c1
        go_wp2_with fail
        go_quiet (fail)
        go_wp2
        go_ret
        exact ⟨by rw [HF.out]; rfl, bn HAL.out (below_drewN HB.out _)⟩
      | false =>
        have hy0 : 0 ≤ y := by simpa using h1
        rcases hj.out with ⟨rfl, rfl⟩ | ⟨j, rfl, hj1, hjz⟩
        · have hd : decide ((-1 : Int) < y) = true := by simp; omega
          rw [hd, Bool.true_and] at hs'
          have HS := Lib.hid hs'
          simp only [Nat.add_zero] at c11
          clear hs' hz hj c1 hd
          go_wp2_with fail
          go_quiet (fail)
          go_wp2
          go_roundw
          case rel => exact ⟨1, y, HP.out, by go_num, Lib.hid (below_drewN HB.out _), HS, Lib.hid (by omega), Lib.hid (.inr ⟨0, rfl, HP.out, HY.out⟩)⟩
          case measure => have := HP.out; simp [intOf]; omega
        · have c12 := (c1.below HB.out) j hj1
          rw [hjz] at c12
          have e3 : decide ((0 : Int) < (j : Int) + 1) = true := by rw [decide_eq_true_eq]; omega
          cases h2 : decide (y ≤ z) with
          | true =>
            have hfin : oneB l = false := by
              have hyz : y ≤ z := by simpa using h2
              have hd : decide (z < y) = false := by simp; omega
              rw [hd, Bool.false_and] at hs'
              simp [oneB, ← hs']
            have HF := Lib.hid hfin
            clear hfin hs' hz hj c1 hjz
            go_wp2_with fail
            go_quiet (fail)
            go_wp2
            go_ret
            exact ⟨by rw [HF.out]; rfl, bn HAL.out (below_drewN HB.out _)⟩
          | false =>
            have hyz : z < y := by simpa using h2
            have hd : decide (z < y) = true := by simpa using hyz
            rw [hd, Bool.true_and] at hs'
            have HS := Lib.hid hs'
            clear hs' hz hj c1 hd hjz hyz
            go_wp2_with fail
            go_quiet (fail)
            go_wp2
            go_roundw
            case rel => exact ⟨j + 1 + 1, y, HP.out, by go_num, Lib.hid (below_drewN HB.out _), HS, Lib.hid (by omega), Lib.hid (.inr ⟨j + 1, rfl, HP.out, HY.out⟩)⟩
            case measure => have := HP.out; simp [intOf]; omega
    · have hs' := hs.out
      rw [List.drop_of_length_le (by omega), upB] at hs'
      have hfin : oneB l = decide (0 < l.length) := by
        unfold oneB
        rw [← hs', Bool.and_true]
        cases l with
        | nil => rfl
        | cons a r => simp
      have HF := Lib.hid hfin
      obtain rfl : k = l.length := by omega
      clear hfin hs' hs hz hj
      go_wp2
      go_ret
      exact ⟨by rw [HF.out]; simp, bn HAL.out HB.out⟩
end Go.Proofs.YtdjlgiinekighaaGreatDoor.P
/-
  find, May, all, of chapter 10's own answer, by contract.
-/
namespace Go.Proofs.YtdjlgiinekighaaGreatDoor.P
open Go.RowKit Go.Lib

/-- Where a Key stands; -1. -/
def fndI (i : Nat) : List Pv → Int → Int → Int
  | [], _, _ => -1
  | x :: r, o, s => if x.o == o && x.s == s then (i : Int) else fndI (i + 1) r o s
theorem fndI_spec : ∀ (l : List Pv) (i : Nat) (o s : Int), (fndI i l o s = -1 ∧ (∀ x ∈ l, x.p.k ≠ (o, s))) ∨ ∃ j : Nat, ∃ hj : j < l.length, fndI i l o s = ((i + j : Nat) : Int) ∧ l[j].p.k = (o, s) ∧ ∀ t, (ht : t < l.length) → t < j → l[t].p.k ≠ (o, s)
  | [], i, o, s => .inl ⟨rfl, fun x hx => by cases hx⟩
  | x :: r, i, o, s => by
    unfold fndI
    by_cases h : x.o = o ∧ x.s = s
    · obtain ⟨rfl, rfl⟩ := h
      refine .inr ⟨0, by simp, by simp, rfl, fun t _ ht => by omega⟩
    · have hb : (x.o == o && x.s == s) = false := by
        cases hb : (x.o == o && x.s == s) with
        | false => rfl
        | true => simp at hb; exact absurd hb h
      rw [hb]
      have hne : x.p.k ≠ (o, s) := fun e => h (by rw [Pv.p_k, Prod.mk.injEq] at e; exact e)
      rcases fndI_spec r (i + 1) o s with ⟨h1, h2⟩ | ⟨j, hj, h1, h2, h3⟩
      · refine .inl ⟨h1, fun y hy => ?_⟩
        rcases List.mem_cons.1 hy with rfl | hy
        · exact hne
        · exact h2 y hy
      · refine .inr ⟨j + 1, by simpa using hj, ?_, h2, fun t ht htj => ?_⟩
        · simp only [Bool.false_eq_true, if_false]
          rw [h1]
          omega
        · cases t with
          | zero => exact hne
          | succ t => exact h3 t (by simpa using ht) (by omega)
end Go.Proofs.YtdjlgiinekighaaGreatDoor.P
/-
  May and all of chapter 10's own answer, by contract.
-/
namespace Go.Proofs.YtdjlgiinekighaaGreatDoor.P
open Go.RowKit Go.Lib

theorem take_ok {P : Program} {ops : Array Oper} {Q : Exit → Act → World → Prop} {md : Region.Mode} {S : World → Prop} {i : Nat} {oi : Oper} {d : Nat} {v : Value} {fuel : Nat} {listed : Array Bool} {a : Act} {w : World} (hi : ops[i]? = some oi) (hd : oi.dst = some d)
    (hs : Region.noSelect ops = true) (hf : Region.free md ops listed i = true) (hr : (Region.ready md ops listed).contains i = true)
    (hQ : ∀ c a w, Q (.panic c) (a.put oi.dst v) w → Q (.panic c) a w) (hy : YieldsIf P ops S oi v a) (hS : S w)
    (h : wpAnyH P md ops Q S fuel (listed.setIfInBounds i true) (a.put (some d) v) w) : wpAnyH P md ops Q S (fuel + 1) listed a w :=
  wpAnyH_take hi hs hf hr hQ hy hS (by rw [hd]; exact h)
theorem mayFrom_no {q : Option Ky} {x : Po} {r : List Po} (h : oneB x.ns = false) : mayFrom q (x :: r) = false := by
  cases q <;> simp [mayFrom, h]
theorem mayFrom_none {x : Po} {r : List Po} (h : oneB x.ns = true) : mayFrom none (x :: r) = mayFrom (some x.k) r := by simp [mayFrom, h]
theorem mayFrom_some {q : Ky} {x : Po} {r : List Po} (h : oneB x.ns = true) : mayFrom (some q) (x :: r) = (kLt q x.k && mayFrom (some x.k) r) := by simp [mayFrom, h]
set_option maxHeartbeats 8000000 in
theorem may_c (l : List Pv) (v : Value) (w : World) (h : PRd w v l) (hn : l.length ≤ 1000000) (hm : ∀ x ∈ l, x.ns.length ≤ 1000000) :
    Calls Tryz.prog 28 #[v] w fun e w' => e = .returned (.bool (mayL (ps l))) ∧ Below w.heap.size w w' := by
  have HM := Lib.hid hm
  obtain ⟨ad, cap, rfl, _, k1⟩ := h
  have H1 := Lib.hid k1
  clear k1 hm
  go_enter Tryz.func28, Tryz.ntmps28
  go_wp2
  go_loopw [3] (fun v3 wr => ∃ (k : Nat) (q : Option Ky), k ≤ l.length ∧ v3 = .int .i64 (k : Int) ∧ Hid (Below w.heap.size w wr) ∧ Hid (mayFrom q (ps (l.drop k)) = mayL (ps l)) ∧ Hid (k = 0 ∧ q = none ∨ ∃ j, k = j + 1 ∧ ∃ hj : j < l.length, q = some (l[j].o, l[j].s))) (fun v3 _ => l.length - (intOf v3).toNat)
  case atStart => exact ⟨0, none, by omega, rfl, Lib.hid (Below.refl _ _), Lib.hid rfl, Lib.hid (.inl ⟨rfl, rfl⟩)⟩
  case round =>
    obtain ⟨k, q, hk, rfl, HB, hs, hj⟩ := hrel
    by_cases hp : k < l.length
    · obtain ⟨g1, o1, rfl, c1⟩ := H1.out (by omega)
      have a1 := (c1 k hp).below HB.out
      have hs' := hs.out
      rw [List.drop_eq_getElem_cons hp, ps, List.map_cons] at hs'
      have HP := Lib.hid hp
      have hyn := HM.out l[k] (List.getElem_mem hp)
      have HJ : Hid (∀ y, l[k] = y → ∀ r, some r = some (y.o, y.s) → k + 1 = 0 ∧ some r = none ∨ ∃ j, k + 1 = j + 1 ∧ ∃ hj : j < l.length, some r = some (l[j].o, l[j].s)) := Lib.hid (fun y hy r hr => by subst hy; exact .inr ⟨k, rfl, hp, hr⟩)
      generalize hy : l[k] = y at a1 hs' hyn
      obtain ⟨yo, ys, ya, yn⟩ := y
      have HJ2 := Lib.hid (HJ.out _ hy (yo, ys) rfl)
      have HN := Lib.hid a1.nl
      have p0 := a1.c0
      have p1 := a1.c1
      have p2 := a1.c2
      simp only at p0 p1 p2 hyn
      have hgl := World.block_lt_of_cell? _ _ p0
      have CO : Hid (∀ W, Below wr.heap.size wr W → Calls Tryz.prog 50 #[.agg #[.int .i64 yo, .int .i64 ys, ya]] W fun e w' => e = .returned (.bool (oneB yn)) ∧ Below W.heap.size W w') := Lib.hid (fun W hW => one_c ⟨yo, ys, ya, yn⟩ W (HN.out.below hW) hyn)
      have a9 := Lib.hid a1
      have HPS : Hid (∀ q, mayFrom q ((⟨yo, ys, ya, yn⟩ : Pv).p :: List.map Pv.p (List.drop (k + 1) l)) = mayFrom q ((⟨yo, ys, ya, yn⟩ : Pv).p :: ps (List.drop (k + 1) l))) := Lib.hid (fun _ => rfl)
      clear hs HJ a1
      cases h1 : oneB yn with
      | false =>
        rw [h1] at CO
        rw [mayFrom_no (show oneB (Pv.p ⟨yo, ys, ya, yn⟩).ns = false from h1)] at hs'
        have HS := Lib.hid hs'
        have HSA : Hid (∀ w', Below wr.heap.size wr w' → w'.cell? ⟨g1, o1 + k * 3, none⟩ = some (.int .i64 yo) ∧ w'.cell? ⟨g1, o1 + k * 3 + 1, none⟩ = some (.int .i64 ys) ∧ w'.cell? ⟨g1, o1 + k * 3 + 2, none⟩ = some ya) := Lib.hid (fun w' hb => ⟨(a9.out.below hb).c0, (a9.out.below hb).c1, (a9.out.below hb).c2⟩)
        clear hs' c1 p0 p1 p2 hj h1 hy
        go_wp2_with fail
        refine wp_region_held_drew (S := fun w' => w'.cell? ⟨g1, o1 + k * 3, none⟩ = some (.int .i64 yo) ∧ w'.cell? ⟨g1, o1 + k * 3 + 1, none⟩ = some (.int .i64 ys) ∧ w'.cell? ⟨g1, o1 + k * 3 + 2, none⟩ = some ya) (by kernel_rfl) (HSA.out _ (Below.refl _ _).drew) (fun hHeld => ?_)
        refine take_ok (i := 0) (d := 10) (v := ?_) rfl rfl (by kernel_rfl) (by kernel_rfl) (by kernel_rfl) (fun _ _ _ h => h) (Or.inl ⟨by rfl, ?_⟩) (by assumption) ?_
        rotate_left
        · intro w9 hSw
          try dsimp only at hSw
          first | (go_simp; done) | (go_simp; with_reducible rfl)
        try simp only [Act.put, List.setIfInBounds_toArray, List.set_cons_zero, List.set_cons_succ]
        refine take_ok (i := 1) (d := 11) (v := ?_) rfl rfl (by kernel_rfl) (by kernel_rfl) (by kernel_rfl) (fun _ _ _ h => h) (Or.inl ⟨by rfl, ?_⟩) (by assumption) ?_
        rotate_left
        · intro w9 hSw
          try dsimp only at hSw
          first | (go_simp; done) | (go_simp; with_reducible rfl)
        try simp only [Act.put, List.setIfInBounds_toArray, List.set_cons_zero, List.set_cons_succ]
        refine take_ok (i := 2) (d := 12) (v := ?_) rfl rfl (by kernel_rfl) (by kernel_rfl) (by kernel_rfl) (fun _ _ _ h => h) (Or.inl ⟨by rfl, ?_⟩) (by assumption) ?_
        rotate_left
        · intro w9 hSw
          try dsimp only at hSw
          first | (go_simp; done) | (go_simp; with_reducible rfl)
        try simp only [Act.put, List.setIfInBounds_toArray, List.set_cons_zero, List.set_cons_succ]
        refine take_ok (i := 3) (d := 13) (v := ?_) rfl rfl (by kernel_rfl) (by kernel_rfl) (by kernel_rfl) (fun _ _ _ h => h) (Or.inl ⟨by rfl, ?_⟩) (by assumption) ?_
        rotate_left
        · intro w9 hSw
          try dsimp only at hSw
          first | (go_simp; done) | (go_simp; with_reducible rfl)
        try simp only [Act.put, List.setIfInBounds_toArray, List.set_cons_zero, List.set_cons_succ]
        refine wpAnyH_ready (rs := [4]) (by kernel_rfl) (by simp) ?_
        refine AllReadyH.cons rfl (fun K hK => ?_) AllReadyH.nil
        go_simp
        refine (CO.out _ (by first | exact (Below.refl _ _).drew | exact Below.refl _ _)).mono ?_
        rintro e w2 ⟨rfl, b2⟩
        have b2' : Below wr.heap.size wr w2 := bn (by first | exact (Below.refl _ _).drew | exact Below.refl _ _) b2
        refine hK.out _ _ (HSA.out _ b2') (fun hHeld => ?_)
        clear hK K
        try simp only [Act.put, List.setIfInBounds_toArray, List.set_cons_zero, List.set_cons_succ]
        refine take_ok (i := 5) (d := 15) (v := ?_) rfl rfl (by kernel_rfl) (by kernel_rfl) (by kernel_rfl) (fun _ _ _ h => h) (Or.inl ⟨by rfl, ?_⟩) (by assumption) ?_
        rotate_left
        · intro w9 hSw
          try dsimp only at hSw
          first | (go_simp; done) | (go_simp; with_reducible rfl)
        try simp only [Act.put, List.setIfInBounds_toArray, List.set_cons_zero, List.set_cons_succ]
        refine take_ok (i := 6) (d := 16) (v := ?_) rfl rfl (by kernel_rfl) (by kernel_rfl) (by kernel_rfl) (fun _ _ _ h => h) (Or.inl ⟨by rfl, ?_⟩) (by assumption) ?_
        rotate_left
        · intro w9 hSw
          try dsimp only at hSw
          first | (go_simp; done) | (go_simp; with_reducible rfl)
        try simp only [Act.put, List.setIfInBounds_toArray, List.set_cons_zero, List.set_cons_succ]
        refine take_ok (i := 7) (d := 17) (v := undef) rfl rfl (by kernel_rfl) (by kernel_rfl) (by kernel_rfl) (fun _ _ _ h => h) (Or.inr ⟨by rfl, rfl⟩) (by assumption) ?_
        try simp only [Act.put, List.setIfInBounds_toArray, List.set_cons_zero, List.set_cons_succ]
        refine take_ok (i := 8) (d := 18) (v := undef) rfl rfl (by kernel_rfl) (by kernel_rfl) (by kernel_rfl) (fun _ _ _ h => h) (Or.inr ⟨by rfl, rfl⟩) (by assumption) ?_
        try simp only [Act.put, List.setIfInBounds_toArray, List.set_cons_zero, List.set_cons_succ]
        refine take_ok (i := 9) (d := 19) (v := undef) rfl rfl (by kernel_rfl) (by kernel_rfl) (by kernel_rfl) (fun _ _ _ h => h) (Or.inr ⟨by rfl, rfl⟩) (by assumption) ?_
        try simp only [Act.put, List.setIfInBounds_toArray, List.set_cons_zero, List.set_cons_succ]
        refine take_ok (i := 10) (d := 20) (v := undef) rfl rfl (by kernel_rfl) (by kernel_rfl) (by kernel_rfl) (fun _ _ _ h => h) (Or.inr ⟨by rfl, rfl⟩) (by assumption) ?_
        try simp only [Act.put, List.setIfInBounds_toArray, List.set_cons_zero, List.set_cons_succ]
        refine take_ok (i := 11) (d := 21) (v := undef) rfl rfl (by kernel_rfl) (by kernel_rfl) (by kernel_rfl) (fun _ _ _ h => h) (Or.inr ⟨by rfl, rfl⟩) (by assumption) ?_
        try simp only [Act.put, List.setIfInBounds_toArray, List.set_cons_zero, List.set_cons_succ]
        refine take_ok (i := 12) (d := 22) (v := undef) rfl rfl (by kernel_rfl) (by kernel_rfl) (by kernel_rfl) (fun _ _ _ h => h) (Or.inr ⟨by rfl, rfl⟩) (by assumption) ?_
        try simp only [Act.put, List.setIfInBounds_toArray, List.set_cons_zero, List.set_cons_succ]
        refine take_ok (i := 13) (d := 23) (v := undef) rfl rfl (by kernel_rfl) (by kernel_rfl) (by kernel_rfl) (fun _ _ _ h => h) (Or.inr ⟨by rfl, rfl⟩) (by assumption) ?_
        try simp only [Act.put, List.setIfInBounds_toArray, List.set_cons_zero, List.set_cons_succ]
        refine take_ok (i := 14) (d := 24) (v := undef) rfl rfl (by kernel_rfl) (by kernel_rfl) (by kernel_rfl) (fun _ _ _ h => h) (Or.inr ⟨by rfl, rfl⟩) (by assumption) ?_
        try simp only [Act.put, List.setIfInBounds_toArray, List.set_cons_zero, List.set_cons_succ]
        refine take_ok (i := 15) (d := 25) (v := undef) rfl rfl (by kernel_rfl) (by kernel_rfl) (by kernel_rfl) (fun _ _ _ h => h) (Or.inr ⟨by rfl, rfl⟩) (by assumption) ?_
        try simp only [Act.put, List.setIfInBounds_toArray, List.set_cons_zero, List.set_cons_succ]
        refine take_ok (i := 16) (d := 26) (v := undef) rfl rfl (by kernel_rfl) (by kernel_rfl) (by kernel_rfl) (fun _ _ _ h => h) (Or.inr ⟨by rfl, rfl⟩) (by assumption) ?_
        try simp only [Act.put, List.setIfInBounds_toArray, List.set_cons_zero, List.set_cons_succ]
        refine take_ok (i := 17) (d := 27) (v := undef) rfl rfl (by kernel_rfl) (by kernel_rfl) (by kernel_rfl) (fun _ _ _ h => h) (Or.inr ⟨by rfl, rfl⟩) (by assumption) ?_
        try simp only [Act.put, List.setIfInBounds_toArray, List.set_cons_zero, List.set_cons_succ]
        refine take_ok (i := 18) (d := 28) (v := undef) rfl rfl (by kernel_rfl) (by kernel_rfl) (by kernel_rfl) (fun _ _ _ h => h) (Or.inr ⟨by rfl, rfl⟩) (by assumption) ?_
        try simp only [Act.put, List.setIfInBounds_toArray, List.set_cons_zero, List.set_cons_succ]
        refine take_ok (i := 19) (d := 29) (v := undef) rfl rfl (by kernel_rfl) (by kernel_rfl) (by kernel_rfl) (fun _ _ _ h => h) (Or.inr ⟨by rfl, rfl⟩) (by assumption) ?_
        try simp only [Act.put, List.setIfInBounds_toArray, List.set_cons_zero, List.set_cons_succ]
        refine take_ok (i := 20) (d := 30) (v := undef) rfl rfl (by kernel_rfl) (by kernel_rfl) (by kernel_rfl) (fun _ _ _ h => h) (Or.inr ⟨by rfl, rfl⟩) (by assumption) ?_
        try simp only [Act.put, List.setIfInBounds_toArray, List.set_cons_zero, List.set_cons_succ]
        refine take_ok (i := 21) (d := 31) (v := undef) rfl rfl (by kernel_rfl) (by kernel_rfl) (by kernel_rfl) (fun _ _ _ h => h) (Or.inr ⟨by rfl, rfl⟩) (by assumption) ?_
        try simp only [Act.put, List.setIfInBounds_toArray, List.set_cons_zero, List.set_cons_succ]
        refine take_ok (i := 22) (d := 32) (v := undef) rfl rfl (by kernel_rfl) (by kernel_rfl) (by kernel_rfl) (fun _ _ _ h => h) (Or.inr ⟨by rfl, rfl⟩) (by assumption) ?_
        try simp only [Act.put, List.setIfInBounds_toArray, List.set_cons_zero, List.set_cons_succ]
        refine take_ok (i := 23) (d := 33) (v := undef) rfl rfl (by kernel_rfl) (by kernel_rfl) (by kernel_rfl) (fun _ _ _ h => h) (Or.inr ⟨by rfl, rfl⟩) (by assumption) ?_
        try simp only [Act.put, List.setIfInBounds_toArray, List.set_cons_zero, List.set_cons_succ]
        refine take_ok (i := 24) (d := 34) (v := ?_) rfl rfl (by kernel_rfl) (by kernel_rfl) (by kernel_rfl) (fun _ _ _ h => h) (Or.inl ⟨by rfl, ?_⟩) (by assumption) ?_
        rotate_left
        · intro w9 hSw
          try dsimp only at hSw
          first | (go_simp; done) | (go_simp; with_reducible rfl)
        try simp only [Act.put, List.setIfInBounds_toArray, List.set_cons_zero, List.set_cons_succ]
        refine wpAnyH_done (by kernel_rfl) ?_ _
        have HB2 := Lib.hid b2'
        clear b2 b2' hHeld CO HSA
        go_wp2
        go_ret
        exact ⟨by rw [← HS.out]; rfl, bn HB.out HB2.out⟩
      | true =>
        rw [h1] at CO
        rcases hj.out with ⟨rfl, rfl⟩ | ⟨j, hkj, hj1, rfl⟩
        · rw [mayFrom_none (show oneB (Pv.p ⟨yo, ys, ya, yn⟩).ns = true from h1)] at hs'
          have HS := Lib.hid hs'
          have HSA : Hid (∀ w', Below wr.heap.size wr w' → w'.cell? ⟨g1, o1, none⟩ = some (.int .i64 yo) ∧ w'.cell? ⟨g1, o1 + 1, none⟩ = some (.int .i64 ys) ∧ w'.cell? ⟨g1, o1 + 2, none⟩ = some ya) := Lib.hid (fun w' hb => by
            have hq := a9.out.below hb
            rw [Nat.zero_mul, Nat.add_zero] at hq
            exact ⟨hq.c0, hq.c1, hq.c2⟩)
          clear hs' c1 p0 p1 p2 hj h1 hy
          go_wp2_with fail
          refine wp_region_held_drew (S := fun w' => w'.cell? ⟨g1, o1, none⟩ = some (.int .i64 yo) ∧ w'.cell? ⟨g1, o1 + 1, none⟩ = some (.int .i64 ys) ∧ w'.cell? ⟨g1, o1 + 2, none⟩ = some ya) (by kernel_rfl) (HSA.out _ (Below.refl _ _).drew) (fun hHeld => ?_)
          refine take_ok (i := 0) (d := 10) (v := ?_) rfl rfl (by kernel_rfl) (by kernel_rfl) (by kernel_rfl) (fun _ _ _ h => h) (Or.inl ⟨by rfl, ?_⟩) (by assumption) ?_
          rotate_left
          · intro w9 hSw
            try dsimp only at hSw
            first | (go_simp; done) | (go_simp; with_reducible rfl)
          try simp only [Act.put, List.setIfInBounds_toArray, List.set_cons_zero, List.set_cons_succ]
          refine take_ok (i := 1) (d := 11) (v := ?_) rfl rfl (by kernel_rfl) (by kernel_rfl) (by kernel_rfl) (fun _ _ _ h => h) (Or.inl ⟨by rfl, ?_⟩) (by assumption) ?_
          rotate_left
          · intro w9 hSw
            try dsimp only at hSw
            first | (go_simp; done) | (go_simp; with_reducible rfl)
          try simp only [Act.put, List.setIfInBounds_toArray, List.set_cons_zero, List.set_cons_succ]
          refine take_ok (i := 2) (d := 12) (v := ?_) rfl rfl (by kernel_rfl) (by kernel_rfl) (by kernel_rfl) (fun _ _ _ h => h) (Or.inl ⟨by rfl, ?_⟩) (by assumption) ?_
          rotate_left
          · intro w9 hSw
            try dsimp only at hSw
            first | (go_simp; done) | (go_simp; with_reducible rfl)
          try simp only [Act.put, List.setIfInBounds_toArray, List.set_cons_zero, List.set_cons_succ]
          refine take_ok (i := 3) (d := 13) (v := ?_) rfl rfl (by kernel_rfl) (by kernel_rfl) (by kernel_rfl) (fun _ _ _ h => h) (Or.inl ⟨by rfl, ?_⟩) (by assumption) ?_
          rotate_left
          · intro w9 hSw
            try dsimp only at hSw
            first | (go_simp; done) | (go_simp; with_reducible rfl)
          try simp only [Act.put, List.setIfInBounds_toArray, List.set_cons_zero, List.set_cons_succ]
          refine wpAnyH_ready (rs := [4]) (by kernel_rfl) (by simp) ?_
          refine AllReadyH.cons rfl (fun K hK => ?_) AllReadyH.nil
          go_simp
          refine (CO.out _ (by first | exact (Below.refl _ _).drew | exact Below.refl _ _)).mono ?_
          rintro e w2 ⟨rfl, b2⟩
          have b2' : Below wr.heap.size wr w2 := bn (by first | exact (Below.refl _ _).drew | exact Below.refl _ _) b2
          refine hK.out _ _ (HSA.out _ b2') (fun hHeld => ?_)
          clear hK K
          try simp only [Act.put, List.setIfInBounds_toArray, List.set_cons_zero, List.set_cons_succ]
          refine take_ok (i := 5) (d := 15) (v := ?_) rfl rfl (by kernel_rfl) (by kernel_rfl) (by kernel_rfl) (fun _ _ _ h => h) (Or.inl ⟨by rfl, ?_⟩) (by assumption) ?_
          rotate_left
          · intro w9 hSw
            try dsimp only at hSw
            first | (go_simp; done) | (go_simp; with_reducible rfl)
          try simp only [Act.put, List.setIfInBounds_toArray, List.set_cons_zero, List.set_cons_succ]
          refine take_ok (i := 6) (d := 16) (v := ?_) rfl rfl (by kernel_rfl) (by kernel_rfl) (by kernel_rfl) (fun _ _ _ h => h) (Or.inl ⟨by rfl, ?_⟩) (by assumption) ?_
          rotate_left
          · intro w9 hSw
            try dsimp only at hSw
            first | (go_simp; done) | (go_simp; with_reducible rfl)
          try simp only [Act.put, List.setIfInBounds_toArray, List.set_cons_zero, List.set_cons_succ]
          refine take_ok (i := 7) (d := 17) (v := ?_) rfl rfl (by kernel_rfl) (by kernel_rfl) (by kernel_rfl) (fun _ _ _ h => h) (Or.inl ⟨by rfl, ?_⟩) (by assumption) ?_
          rotate_left
          · intro w9 hSw
            try dsimp only at hSw
            first | (go_simp; done) | (go_simp; with_reducible rfl)
          try simp only [Act.put, List.setIfInBounds_toArray, List.set_cons_zero, List.set_cons_succ]
          refine take_ok (i := 8) (d := 18) (v := ?_) rfl rfl (by kernel_rfl) (by kernel_rfl) (by kernel_rfl) (fun _ _ _ h => h) (Or.inl ⟨by rfl, ?_⟩) (by assumption) ?_
          rotate_left
          · intro w9 hSw
            try dsimp only at hSw
            first | (go_simp; done) | (go_simp; with_reducible rfl)
          try simp only [Act.put, List.setIfInBounds_toArray, List.set_cons_zero, List.set_cons_succ]
          refine take_ok (i := 9) (d := 19) (v := ?_) rfl rfl (by kernel_rfl) (by kernel_rfl) (by kernel_rfl) (fun _ _ _ h => h) (Or.inl ⟨by rfl, ?_⟩) (by assumption) ?_
          rotate_left
          · intro w9 hSw
            try dsimp only at hSw
            first | (go_simp; done) | (go_simp; with_reducible rfl)
          try simp only [Act.put, List.setIfInBounds_toArray, List.set_cons_zero, List.set_cons_succ]
          refine take_ok (i := 10) (d := 20) (v := undef) rfl rfl (by kernel_rfl) (by kernel_rfl) (by kernel_rfl) (fun _ _ _ h => h) (Or.inr ⟨by rfl, rfl⟩) (by assumption) ?_
          try simp only [Act.put, List.setIfInBounds_toArray, List.set_cons_zero, List.set_cons_succ]
          refine take_ok (i := 11) (d := 21) (v := undef) rfl rfl (by kernel_rfl) (by kernel_rfl) (by kernel_rfl) (fun _ _ _ h => h) (Or.inr ⟨by rfl, rfl⟩) (by assumption) ?_
          try simp only [Act.put, List.setIfInBounds_toArray, List.set_cons_zero, List.set_cons_succ]
          refine take_ok (i := 12) (d := 22) (v := undef) rfl rfl (by kernel_rfl) (by kernel_rfl) (by kernel_rfl) (fun _ _ _ h => h) (Or.inr ⟨by rfl, rfl⟩) (by assumption) ?_
          try simp only [Act.put, List.setIfInBounds_toArray, List.set_cons_zero, List.set_cons_succ]
          refine take_ok (i := 13) (d := 23) (v := undef) rfl rfl (by kernel_rfl) (by kernel_rfl) (by kernel_rfl) (fun _ _ _ h => h) (Or.inr ⟨by rfl, rfl⟩) (by assumption) ?_
          try simp only [Act.put, List.setIfInBounds_toArray, List.set_cons_zero, List.set_cons_succ]
          refine take_ok (i := 14) (d := 24) (v := undef) rfl rfl (by kernel_rfl) (by kernel_rfl) (by kernel_rfl) (fun _ _ _ h => h) (Or.inr ⟨by rfl, rfl⟩) (by assumption) ?_
          try simp only [Act.put, List.setIfInBounds_toArray, List.set_cons_zero, List.set_cons_succ]
          refine take_ok (i := 15) (d := 25) (v := undef) rfl rfl (by kernel_rfl) (by kernel_rfl) (by kernel_rfl) (fun _ _ _ h => h) (Or.inr ⟨by rfl, rfl⟩) (by assumption) ?_
          try simp only [Act.put, List.setIfInBounds_toArray, List.set_cons_zero, List.set_cons_succ]
          refine take_ok (i := 16) (d := 26) (v := undef) rfl rfl (by kernel_rfl) (by kernel_rfl) (by kernel_rfl) (fun _ _ _ h => h) (Or.inr ⟨by rfl, rfl⟩) (by assumption) ?_
          try simp only [Act.put, List.setIfInBounds_toArray, List.set_cons_zero, List.set_cons_succ]
          refine take_ok (i := 17) (d := 27) (v := undef) rfl rfl (by kernel_rfl) (by kernel_rfl) (by kernel_rfl) (fun _ _ _ h => h) (Or.inr ⟨by rfl, rfl⟩) (by assumption) ?_
          try simp only [Act.put, List.setIfInBounds_toArray, List.set_cons_zero, List.set_cons_succ]
          refine take_ok (i := 18) (d := 28) (v := undef) rfl rfl (by kernel_rfl) (by kernel_rfl) (by kernel_rfl) (fun _ _ _ h => h) (Or.inr ⟨by rfl, rfl⟩) (by assumption) ?_
          try simp only [Act.put, List.setIfInBounds_toArray, List.set_cons_zero, List.set_cons_succ]
          refine take_ok (i := 19) (d := 29) (v := undef) rfl rfl (by kernel_rfl) (by kernel_rfl) (by kernel_rfl) (fun _ _ _ h => h) (Or.inr ⟨by rfl, rfl⟩) (by assumption) ?_
          try simp only [Act.put, List.setIfInBounds_toArray, List.set_cons_zero, List.set_cons_succ]
          refine take_ok (i := 20) (d := 30) (v := undef) rfl rfl (by kernel_rfl) (by kernel_rfl) (by kernel_rfl) (fun _ _ _ h => h) (Or.inr ⟨by rfl, rfl⟩) (by assumption) ?_
          try simp only [Act.put, List.setIfInBounds_toArray, List.set_cons_zero, List.set_cons_succ]
          refine take_ok (i := 21) (d := 31) (v := undef) rfl rfl (by kernel_rfl) (by kernel_rfl) (by kernel_rfl) (fun _ _ _ h => h) (Or.inr ⟨by rfl, rfl⟩) (by assumption) ?_
          try simp only [Act.put, List.setIfInBounds_toArray, List.set_cons_zero, List.set_cons_succ]
          refine take_ok (i := 22) (d := 32) (v := undef) rfl rfl (by kernel_rfl) (by kernel_rfl) (by kernel_rfl) (fun _ _ _ h => h) (Or.inr ⟨by rfl, rfl⟩) (by assumption) ?_
          try simp only [Act.put, List.setIfInBounds_toArray, List.set_cons_zero, List.set_cons_succ]
          refine take_ok (i := 23) (d := 33) (v := ?_) rfl rfl (by kernel_rfl) (by kernel_rfl) (by kernel_rfl) (fun _ _ _ h => h) (Or.inl ⟨by rfl, ?_⟩) (by assumption) ?_
          rotate_left
          · intro w9 hSw
            try dsimp only at hSw
            first | (go_simp; done) | (go_simp; with_reducible rfl)
          try simp only [Act.put, List.setIfInBounds_toArray, List.set_cons_zero, List.set_cons_succ]
          refine take_ok (i := 24) (d := 34) (v := ?_) rfl rfl (by kernel_rfl) (by kernel_rfl) (by kernel_rfl) (fun _ _ _ h => h) (Or.inl ⟨by rfl, ?_⟩) (by assumption) ?_
          rotate_left
          · intro w9 hSw
            try dsimp only at hSw
            first | (go_simp; done) | (go_simp; with_reducible rfl)
          try simp only [Act.put, List.setIfInBounds_toArray, List.set_cons_zero, List.set_cons_succ]
          refine wpAnyH_done (by kernel_rfl) ?_ _
          have HB2 := Lib.hid b2'
          clear b2 b2' hHeld CO HSA
          go_wp2
          go_roundw
          case rel => exact ⟨1, some (yo, ys), HP.out, by go_num, Lib.hid (bn HB.out HB2.out), HS, HJ2⟩
          case measure => have := HP.out; simp [intOf]; omega
        · rw [mayFrom_some (show oneB (Pv.p ⟨yo, ys, ya, yn⟩).ns = true from h1)] at hs'
          have z1 := Lib.hid ((c1 j hj1).below HB.out)
          generalize l[j] = z at z1 hs'
          obtain ⟨zo, zs, za, zn⟩ := z
          have HSC : Hid (∀ w', Below wr.heap.size wr w' → w'.cell? ⟨g1, o1 + k * 3, none⟩ = some (.int .i64 yo) ∧ w'.cell? ⟨g1, o1 + k * 3 + 1, none⟩ = some (.int .i64 ys) ∧ w'.cell? ⟨g1, o1 + k * 3 + 2, none⟩ = some ya ∧ w'.cell? ⟨g1, o1 + j * 3, none⟩ = some (.int .i64 zo) ∧ w'.cell? ⟨g1, o1 + j * 3 + 1, none⟩ = some (.int .i64 zs)) := Lib.hid (fun w' hb => ⟨(a9.out.below hb).c0, (a9.out.below hb).c1, (a9.out.below hb).c2, (z1.out.below hb).c0, (z1.out.below hb).c1⟩)
          have CK : Hid (∀ W, Below wr.heap.size wr W → Calls Tryz.prog 40 #[.agg #[.int .i64 zo, .int .i64 zs], .agg #[.int .i64 yo, .int .i64 ys]] W fun e w' => e = .returned (.bool (kLt (zo, zs) (yo, ys))) ∧ Below W.heap.size W w') := Lib.hid (fun W _ => refbefore_c zo zs yo ys W)
          have hs2 : (kLt (zo, zs) (yo, ys) && mayFrom (some (yo, ys)) (ps (List.drop (k + 1) l))) = mayL (ps l) := hs'
          have e3 : decide ((0 : Int) < (k : Int)) = true := by rw [decide_eq_true_eq]; omega
          have e4 : (k : Int) - 1 = (j : Int) := by omega
          have e5 : j < l.length := hj1
          have hk1 : 1 ≤ k := by omega
          have hk0 : 0 < k := by omega
          have e7 : IntKind.i64.wrap (j : Int) = (j : Int) := by rw [IntKind.wrap_i64]; omega
          have e6 : decide (0 < k) = true := by rw [decide_eq_true_eq]; exact hk0
          have HKJ := Lib.hid hkj
          clear hkj
          clear hs' c1 p0 p1 p2 hj h1 hy z1
          cases h2 : kLt (zo, zs) (yo, ys) with
          | false =>
            rw [h2] at CK hs2
            rw [Bool.false_and] at hs2
            have HS := Lib.hid hs2
            clear hs2 h2
            go_wp2_with fail
            refine wp_region_held_drew (S := fun w' => w'.cell? ⟨g1, o1 + k * 3, none⟩ = some (.int .i64 yo) ∧ w'.cell? ⟨g1, o1 + k * 3 + 1, none⟩ = some (.int .i64 ys) ∧ w'.cell? ⟨g1, o1 + k * 3 + 2, none⟩ = some ya ∧ w'.cell? ⟨g1, o1 + j * 3, none⟩ = some (.int .i64 zo) ∧ w'.cell? ⟨g1, o1 + j * 3 + 1, none⟩ = some (.int .i64 zs)) (by kernel_rfl) (HSC.out _ (Below.refl _ _).drew) (fun hHeld => ?_)
            refine take_ok (i := 0) (d := 10) (v := ?_) rfl rfl (by kernel_rfl) (by kernel_rfl) (by kernel_rfl) (fun _ _ _ h => h) (Or.inl ⟨by rfl, ?_⟩) (by assumption) ?_
            rotate_left
            · intro w9 hSw
              try dsimp only at hSw
              first | (go_simp; done) | (go_simp; with_reducible rfl)
            try simp only [Act.put, List.setIfInBounds_toArray, List.set_cons_zero, List.set_cons_succ]
            refine take_ok (i := 1) (d := 11) (v := ?_) rfl rfl (by kernel_rfl) (by kernel_rfl) (by kernel_rfl) (fun _ _ _ h => h) (Or.inl ⟨by rfl, ?_⟩) (by assumption) ?_
            rotate_left
            · intro w9 hSw
              try dsimp only at hSw
              first | (go_simp; done) | (go_simp; with_reducible rfl)
            try simp only [Act.put, List.setIfInBounds_toArray, List.set_cons_zero, List.set_cons_succ]
            refine take_ok (i := 2) (d := 12) (v := ?_) rfl rfl (by kernel_rfl) (by kernel_rfl) (by kernel_rfl) (fun _ _ _ h => h) (Or.inl ⟨by rfl, ?_⟩) (by assumption) ?_
            rotate_left
            · intro w9 hSw
              try dsimp only at hSw
              first | (go_simp; done) | (go_simp; with_reducible rfl)
            try simp only [Act.put, List.setIfInBounds_toArray, List.set_cons_zero, List.set_cons_succ]
            refine take_ok (i := 3) (d := 13) (v := ?_) rfl rfl (by kernel_rfl) (by kernel_rfl) (by kernel_rfl) (fun _ _ _ h => h) (Or.inl ⟨by rfl, ?_⟩) (by assumption) ?_
            rotate_left
            · intro w9 hSw
              try dsimp only at hSw
              first | (go_simp; done) | (go_simp; with_reducible rfl)
            try simp only [Act.put, List.setIfInBounds_toArray, List.set_cons_zero, List.set_cons_succ]
            refine wpAnyH_ready (rs := [4]) (by kernel_rfl) (by simp) ?_
            refine AllReadyH.cons rfl (fun K hK => ?_) AllReadyH.nil
            go_simp
            refine (CO.out _ (by first | exact (Below.refl _ _).drew | exact Below.refl _ _)).mono ?_
            rintro e w2 ⟨rfl, b2⟩
            have b2' : Below wr.heap.size wr w2 := bn (by first | exact (Below.refl _ _).drew | exact Below.refl _ _) b2
            refine hK.out _ _ (HSC.out _ b2') (fun hHeld => ?_)
            clear hK K
            try simp only [Act.put, List.setIfInBounds_toArray, List.set_cons_zero, List.set_cons_succ]
            refine take_ok (i := 5) (d := 15) (v := ?_) rfl rfl (by kernel_rfl) (by kernel_rfl) (by kernel_rfl) (fun _ _ _ h => h) (Or.inl ⟨by rfl, ?_⟩) (by assumption) ?_
            rotate_left
            · intro w9 hSw
              try dsimp only at hSw
              first | (go_simp; done) | (go_simp; with_reducible rfl)
            try simp only [Act.put, List.setIfInBounds_toArray, List.set_cons_zero, List.set_cons_succ]
            refine take_ok (i := 6) (d := 16) (v := ?_) rfl rfl (by kernel_rfl) (by kernel_rfl) (by kernel_rfl) (fun _ _ _ h => h) (Or.inl ⟨by rfl, ?_⟩) (by assumption) ?_
            rotate_left
            · intro w9 hSw
              try dsimp only at hSw
              first | (go_simp; done) | (go_simp; with_reducible rfl)
            try simp only [Act.put, List.setIfInBounds_toArray, List.set_cons_zero, List.set_cons_succ]
            refine take_ok (i := 7) (d := 17) (v := ?_) rfl rfl (by kernel_rfl) (by kernel_rfl) (by kernel_rfl) (fun _ _ _ h => h) (Or.inl ⟨by rfl, ?_⟩) (by assumption) ?_
            rotate_left
            · intro w9 hSw
              try dsimp only at hSw
              first | (go_simp; done) | (go_simp; with_reducible rfl)
            try simp only [Act.put, List.setIfInBounds_toArray, List.set_cons_zero, List.set_cons_succ]
            refine take_ok (i := 8) (d := 18) (v := ?_) rfl rfl (by kernel_rfl) (by kernel_rfl) (by kernel_rfl) (fun _ _ _ h => h) (Or.inl ⟨by rfl, ?_⟩) (by assumption) ?_
            rotate_left
            · intro w9 hSw
              try dsimp only at hSw
              first | (go_simp; done) | (go_simp; with_reducible rfl)
            try simp only [Act.put, List.setIfInBounds_toArray, List.set_cons_zero, List.set_cons_succ]
            refine take_ok (i := 9) (d := 19) (v := ?_) rfl rfl (by kernel_rfl) (by kernel_rfl) (by kernel_rfl) (fun _ _ _ h => h) (Or.inl ⟨by rfl, ?_⟩) (by assumption) ?_
            rotate_left
            · intro w9 hSw
              try dsimp only at hSw
              first | (go_simp; done) | (go_simp; with_reducible rfl)
            try simp only [Act.put, List.setIfInBounds_toArray, List.set_cons_zero, List.set_cons_succ]
            refine take_ok (i := 10) (d := 20) (v := ?_) rfl rfl (by kernel_rfl) (by kernel_rfl) (by kernel_rfl) (fun _ _ _ h => h) (Or.inl ⟨by rfl, ?_⟩) (by assumption) ?_
            rotate_left
            · intro w9 hSw
              try dsimp only at hSw
              first | (go_simp; done) | (go_simp; with_reducible rfl)
            try simp only [Act.put, List.setIfInBounds_toArray, List.set_cons_zero, List.set_cons_succ]
            refine take_ok (i := 11) (d := 21) (v := ?_) rfl rfl (by kernel_rfl) (by kernel_rfl) (by kernel_rfl) (fun _ _ _ h => h) (Or.inl ⟨by rfl, ?_⟩) (by assumption) ?_
            rotate_left
            · intro w9 hSw
              try dsimp only at hSw
              first | (go_simp; done) | (go_simp; with_reducible rfl)
            try simp only [Act.put, List.setIfInBounds_toArray, List.set_cons_zero, List.set_cons_succ]
            refine take_ok (i := 12) (d := 22) (v := ?_) rfl rfl (by kernel_rfl) (by kernel_rfl) (by kernel_rfl) (fun _ _ _ h => h) (Or.inl ⟨by rfl, ?_⟩) (by assumption) ?_
            rotate_left
            · intro w9 hSw
              try dsimp only at hSw
              first | (go_simp; done) | (go_simp; with_reducible rfl)
            try simp only [Act.put, List.setIfInBounds_toArray, List.set_cons_zero, List.set_cons_succ]
            refine take_ok (i := 13) (d := 23) (v := ?_) rfl rfl (by kernel_rfl) (by kernel_rfl) (by kernel_rfl) (fun _ _ _ h => h) (Or.inl ⟨by rfl, ?_⟩) (by assumption) ?_
            rotate_left
            · intro w9 hSw
              try dsimp only at hSw
              first | (go_simp; done) | (go_simp; with_reducible rfl)
            try simp only [Act.put, List.setIfInBounds_toArray, List.set_cons_zero, List.set_cons_succ]
            refine take_ok (i := 14) (d := 24) (v := ?_) rfl rfl (by kernel_rfl) (by kernel_rfl) (by kernel_rfl) (fun _ _ _ h => h) (Or.inl ⟨by rfl, ?_⟩) (by assumption) ?_
            rotate_left
            · intro w9 hSw
              try dsimp only at hSw
              first | (go_simp; done) | (go_simp; with_reducible rfl)
            try simp only [Act.put, List.setIfInBounds_toArray, List.set_cons_zero, List.set_cons_succ]
            refine take_ok (i := 15) (d := 25) (v := ?_) rfl rfl (by kernel_rfl) (by kernel_rfl) (by kernel_rfl) (fun _ _ _ h => h) (Or.inl ⟨by rfl, ?_⟩) (by assumption) ?_
            rotate_left
            · intro w9 hSw
              try dsimp only at hSw
              first | (go_simp; done) | (go_simp; with_reducible rfl)
            try simp only [Act.put, List.setIfInBounds_toArray, List.set_cons_zero, List.set_cons_succ]
            refine take_ok (i := 16) (d := 26) (v := ?_) rfl rfl (by kernel_rfl) (by kernel_rfl) (by kernel_rfl) (fun _ _ _ h => h) (Or.inl ⟨by rfl, ?_⟩) (by assumption) ?_
            rotate_left
            · intro w9 hSw
              try dsimp only at hSw
              first | (go_simp; done) | (go_simp; with_reducible rfl)
            try simp only [Act.put, List.setIfInBounds_toArray, List.set_cons_zero, List.set_cons_succ]
            refine take_ok (i := 17) (d := 27) (v := ?_) rfl rfl (by kernel_rfl) (by kernel_rfl) (by kernel_rfl) (fun _ _ _ h => h) (Or.inl ⟨by rfl, ?_⟩) (by assumption) ?_
            rotate_left
            · intro w9 hSw
              try dsimp only at hSw
              first | (go_simp; done) | (go_simp; with_reducible rfl)
            try simp only [Act.put, List.setIfInBounds_toArray, List.set_cons_zero, List.set_cons_succ]
            refine take_ok (i := 18) (d := 28) (v := ?_) rfl rfl (by kernel_rfl) (by kernel_rfl) (by kernel_rfl) (fun _ _ _ h => h) (Or.inl ⟨by rfl, ?_⟩) (by assumption) ?_
            rotate_left
            · intro w9 hSw
              try dsimp only at hSw
              first | (go_simp; done) | (go_simp; with_reducible rfl)
            try simp only [Act.put, List.setIfInBounds_toArray, List.set_cons_zero, List.set_cons_succ]
            refine take_ok (i := 19) (d := 29) (v := ?_) rfl rfl (by kernel_rfl) (by kernel_rfl) (by kernel_rfl) (fun _ _ _ h => h) (Or.inl ⟨by rfl, ?_⟩) (by assumption) ?_
            rotate_left
            · intro w9 hSw
              try dsimp only at hSw
              first | (go_simp; done) | (go_simp; with_reducible rfl)
            try simp only [Act.put, List.setIfInBounds_toArray, List.set_cons_zero, List.set_cons_succ]
            refine take_ok (i := 20) (d := 30) (v := ?_) rfl rfl (by kernel_rfl) (by kernel_rfl) (by kernel_rfl) (fun _ _ _ h => h) (Or.inl ⟨by rfl, ?_⟩) (by assumption) ?_
            rotate_left
            · intro w9 hSw
              try dsimp only at hSw
              first | (go_simp; done) | (go_simp; with_reducible rfl)
            try simp only [Act.put, List.setIfInBounds_toArray, List.set_cons_zero, List.set_cons_succ]
            refine wpAnyH_ready (rs := [21]) (by kernel_rfl) (by simp) ?_
            refine AllReadyH.cons rfl (fun K hK => ?_) AllReadyH.nil
            go_simp
            refine (CK.out _ b2').mono ?_
            rintro e w3 ⟨rfl, b3⟩
            have b3' : Below wr.heap.size wr w3 := bn b2' b3
            refine hK.out _ _ (HSC.out _ b3') (fun hHeld => ?_)
            clear hK K
            try simp only [Act.put, List.setIfInBounds_toArray, List.set_cons_zero, List.set_cons_succ]
            refine take_ok (i := 22) (d := 32) (v := ?_) rfl rfl (by kernel_rfl) (by kernel_rfl) (by kernel_rfl) (fun _ _ _ h => h) (Or.inl ⟨by rfl, ?_⟩) (by assumption) ?_
            rotate_left
            · intro w9 hSw
              try dsimp only at hSw
              first | (go_simp; done) | (go_simp; with_reducible rfl)
            try simp only [Act.put, List.setIfInBounds_toArray, List.set_cons_zero, List.set_cons_succ]
            refine take_ok (i := 23) (d := 33) (v := ?_) rfl rfl (by kernel_rfl) (by kernel_rfl) (by kernel_rfl) (fun _ _ _ h => h) (Or.inl ⟨by rfl, ?_⟩) (by assumption) ?_
            rotate_left
            · intro w9 hSw
              try dsimp only at hSw
              first | (go_simp; done) | (go_simp; with_reducible rfl)
            try simp only [Act.put, List.setIfInBounds_toArray, List.set_cons_zero, List.set_cons_succ]
            refine take_ok (i := 24) (d := 34) (v := ?_) rfl rfl (by kernel_rfl) (by kernel_rfl) (by kernel_rfl) (fun _ _ _ h => h) (Or.inl ⟨by rfl, ?_⟩) (by assumption) ?_
            rotate_left
            · intro w9 hSw
              try dsimp only at hSw
              first | (go_simp; done) | (go_simp; with_reducible rfl)
            try simp only [Act.put, List.setIfInBounds_toArray, List.set_cons_zero, List.set_cons_succ]
            refine wpAnyH_done (by kernel_rfl) ?_ _
            have HB2 := Lib.hid b3'
            clear b2 b2' b3 b3' hHeld CO HSC CK
            go_wp2
            go_ret
            exact ⟨by rw [← HS.out]; rfl, bn HB.out HB2.out⟩
          | true =>
            rw [h2] at CK hs2
            rw [Bool.true_and] at hs2
            have HS := Lib.hid hs2
            clear hs2 h2
            go_wp2_with fail
            refine wp_region_held_drew (S := fun w' => w'.cell? ⟨g1, o1 + k * 3, none⟩ = some (.int .i64 yo) ∧ w'.cell? ⟨g1, o1 + k * 3 + 1, none⟩ = some (.int .i64 ys) ∧ w'.cell? ⟨g1, o1 + k * 3 + 2, none⟩ = some ya ∧ w'.cell? ⟨g1, o1 + j * 3, none⟩ = some (.int .i64 zo) ∧ w'.cell? ⟨g1, o1 + j * 3 + 1, none⟩ = some (.int .i64 zs)) (by kernel_rfl) (HSC.out _ (Below.refl _ _).drew) (fun hHeld => ?_)
            refine take_ok (i := 0) (d := 10) (v := ?_) rfl rfl (by kernel_rfl) (by kernel_rfl) (by kernel_rfl) (fun _ _ _ h => h) (Or.inl ⟨by rfl, ?_⟩) (by assumption) ?_
            rotate_left
            · intro w9 hSw
              try dsimp only at hSw
              first | (go_simp; done) | (go_simp; with_reducible rfl)
            try simp only [Act.put, List.setIfInBounds_toArray, List.set_cons_zero, List.set_cons_succ]
            refine take_ok (i := 1) (d := 11) (v := ?_) rfl rfl (by kernel_rfl) (by kernel_rfl) (by kernel_rfl) (fun _ _ _ h => h) (Or.inl ⟨by rfl, ?_⟩) (by assumption) ?_
            rotate_left
            · intro w9 hSw
              try dsimp only at hSw
              first | (go_simp; done) | (go_simp; with_reducible rfl)
            try simp only [Act.put, List.setIfInBounds_toArray, List.set_cons_zero, List.set_cons_succ]
            refine take_ok (i := 2) (d := 12) (v := ?_) rfl rfl (by kernel_rfl) (by kernel_rfl) (by kernel_rfl) (fun _ _ _ h => h) (Or.inl ⟨by rfl, ?_⟩) (by assumption) ?_
            rotate_left
            · intro w9 hSw
              try dsimp only at hSw
              first | (go_simp; done) | (go_simp; with_reducible rfl)
            try simp only [Act.put, List.setIfInBounds_toArray, List.set_cons_zero, List.set_cons_succ]
            refine take_ok (i := 3) (d := 13) (v := ?_) rfl rfl (by kernel_rfl) (by kernel_rfl) (by kernel_rfl) (fun _ _ _ h => h) (Or.inl ⟨by rfl, ?_⟩) (by assumption) ?_
            rotate_left
            · intro w9 hSw
              try dsimp only at hSw
              first | (go_simp; done) | (go_simp; with_reducible rfl)
            try simp only [Act.put, List.setIfInBounds_toArray, List.set_cons_zero, List.set_cons_succ]
            refine wpAnyH_ready (rs := [4]) (by kernel_rfl) (by simp) ?_
            refine AllReadyH.cons rfl (fun K hK => ?_) AllReadyH.nil
            go_simp
            refine (CO.out _ (by first | exact (Below.refl _ _).drew | exact Below.refl _ _)).mono ?_
            rintro e w2 ⟨rfl, b2⟩
            have b2' : Below wr.heap.size wr w2 := bn (by first | exact (Below.refl _ _).drew | exact Below.refl _ _) b2
            refine hK.out _ _ (HSC.out _ b2') (fun hHeld => ?_)
            clear hK K
            try simp only [Act.put, List.setIfInBounds_toArray, List.set_cons_zero, List.set_cons_succ]
            refine take_ok (i := 5) (d := 15) (v := ?_) rfl rfl (by kernel_rfl) (by kernel_rfl) (by kernel_rfl) (fun _ _ _ h => h) (Or.inl ⟨by rfl, ?_⟩) (by assumption) ?_
            rotate_left
            · intro w9 hSw
              try dsimp only at hSw
              first | (go_simp; done) | (go_simp; with_reducible rfl)
            try simp only [Act.put, List.setIfInBounds_toArray, List.set_cons_zero, List.set_cons_succ]
            refine take_ok (i := 6) (d := 16) (v := ?_) rfl rfl (by kernel_rfl) (by kernel_rfl) (by kernel_rfl) (fun _ _ _ h => h) (Or.inl ⟨by rfl, ?_⟩) (by assumption) ?_
            rotate_left
            · intro w9 hSw
              try dsimp only at hSw
              first | (go_simp; done) | (go_simp; with_reducible rfl)
            try simp only [Act.put, List.setIfInBounds_toArray, List.set_cons_zero, List.set_cons_succ]
            refine take_ok (i := 7) (d := 17) (v := ?_) rfl rfl (by kernel_rfl) (by kernel_rfl) (by kernel_rfl) (fun _ _ _ h => h) (Or.inl ⟨by rfl, ?_⟩) (by assumption) ?_
            rotate_left
            · intro w9 hSw
              try dsimp only at hSw
              first | (go_simp; done) | (go_simp; with_reducible rfl)
            try simp only [Act.put, List.setIfInBounds_toArray, List.set_cons_zero, List.set_cons_succ]
            refine take_ok (i := 8) (d := 18) (v := ?_) rfl rfl (by kernel_rfl) (by kernel_rfl) (by kernel_rfl) (fun _ _ _ h => h) (Or.inl ⟨by rfl, ?_⟩) (by assumption) ?_
            rotate_left
            · intro w9 hSw
              try dsimp only at hSw
              first | (go_simp; done) | (go_simp; with_reducible rfl)
            try simp only [Act.put, List.setIfInBounds_toArray, List.set_cons_zero, List.set_cons_succ]
            refine take_ok (i := 9) (d := 19) (v := ?_) rfl rfl (by kernel_rfl) (by kernel_rfl) (by kernel_rfl) (fun _ _ _ h => h) (Or.inl ⟨by rfl, ?_⟩) (by assumption) ?_
            rotate_left
            · intro w9 hSw
              try dsimp only at hSw
              first | (go_simp; done) | (go_simp; with_reducible rfl)
            try simp only [Act.put, List.setIfInBounds_toArray, List.set_cons_zero, List.set_cons_succ]
            refine take_ok (i := 10) (d := 20) (v := ?_) rfl rfl (by kernel_rfl) (by kernel_rfl) (by kernel_rfl) (fun _ _ _ h => h) (Or.inl ⟨by rfl, ?_⟩) (by assumption) ?_
            rotate_left
            · intro w9 hSw
              try dsimp only at hSw
              first | (go_simp; done) | (go_simp; with_reducible rfl)
            try simp only [Act.put, List.setIfInBounds_toArray, List.set_cons_zero, List.set_cons_succ]
            refine take_ok (i := 11) (d := 21) (v := ?_) rfl rfl (by kernel_rfl) (by kernel_rfl) (by kernel_rfl) (fun _ _ _ h => h) (Or.inl ⟨by rfl, ?_⟩) (by assumption) ?_
            rotate_left
            · intro w9 hSw
              try dsimp only at hSw
              first | (go_simp; done) | (go_simp; with_reducible rfl)
            try simp only [Act.put, List.setIfInBounds_toArray, List.set_cons_zero, List.set_cons_succ]
            refine take_ok (i := 12) (d := 22) (v := ?_) rfl rfl (by kernel_rfl) (by kernel_rfl) (by kernel_rfl) (fun _ _ _ h => h) (Or.inl ⟨by rfl, ?_⟩) (by assumption) ?_
            rotate_left
            · intro w9 hSw
              try dsimp only at hSw
              first | (go_simp; done) | (go_simp; with_reducible rfl)
            try simp only [Act.put, List.setIfInBounds_toArray, List.set_cons_zero, List.set_cons_succ]
            refine take_ok (i := 13) (d := 23) (v := ?_) rfl rfl (by kernel_rfl) (by kernel_rfl) (by kernel_rfl) (fun _ _ _ h => h) (Or.inl ⟨by rfl, ?_⟩) (by assumption) ?_
            rotate_left
            · intro w9 hSw
              try dsimp only at hSw
              first | (go_simp; done) | (go_simp; with_reducible rfl)
            try simp only [Act.put, List.setIfInBounds_toArray, List.set_cons_zero, List.set_cons_succ]
            refine take_ok (i := 14) (d := 24) (v := ?_) rfl rfl (by kernel_rfl) (by kernel_rfl) (by kernel_rfl) (fun _ _ _ h => h) (Or.inl ⟨by rfl, ?_⟩) (by assumption) ?_
            rotate_left
            · intro w9 hSw
              try dsimp only at hSw
              first | (go_simp; done) | (go_simp; with_reducible rfl)
            try simp only [Act.put, List.setIfInBounds_toArray, List.set_cons_zero, List.set_cons_succ]
            refine take_ok (i := 15) (d := 25) (v := ?_) rfl rfl (by kernel_rfl) (by kernel_rfl) (by kernel_rfl) (fun _ _ _ h => h) (Or.inl ⟨by rfl, ?_⟩) (by assumption) ?_
            rotate_left
            · intro w9 hSw
              try dsimp only at hSw
              first | (go_simp; done) | (go_simp; with_reducible rfl)
            try simp only [Act.put, List.setIfInBounds_toArray, List.set_cons_zero, List.set_cons_succ]
            refine take_ok (i := 16) (d := 26) (v := ?_) rfl rfl (by kernel_rfl) (by kernel_rfl) (by kernel_rfl) (fun _ _ _ h => h) (Or.inl ⟨by rfl, ?_⟩) (by assumption) ?_
            rotate_left
            · intro w9 hSw
              try dsimp only at hSw
              first | (go_simp; done) | (go_simp; with_reducible rfl)
            try simp only [Act.put, List.setIfInBounds_toArray, List.set_cons_zero, List.set_cons_succ]
            refine take_ok (i := 17) (d := 27) (v := ?_) rfl rfl (by kernel_rfl) (by kernel_rfl) (by kernel_rfl) (fun _ _ _ h => h) (Or.inl ⟨by rfl, ?_⟩) (by assumption) ?_
            rotate_left
            · intro w9 hSw
              try dsimp only at hSw
              first | (go_simp; done) | (go_simp; with_reducible rfl)
            try simp only [Act.put, List.setIfInBounds_toArray, List.set_cons_zero, List.set_cons_succ]
            refine take_ok (i := 18) (d := 28) (v := ?_) rfl rfl (by kernel_rfl) (by kernel_rfl) (by kernel_rfl) (fun _ _ _ h => h) (Or.inl ⟨by rfl, ?_⟩) (by assumption) ?_
            rotate_left
            · intro w9 hSw
              try dsimp only at hSw
              first | (go_simp; done) | (go_simp; with_reducible rfl)
            try simp only [Act.put, List.setIfInBounds_toArray, List.set_cons_zero, List.set_cons_succ]
            refine take_ok (i := 19) (d := 29) (v := ?_) rfl rfl (by kernel_rfl) (by kernel_rfl) (by kernel_rfl) (fun _ _ _ h => h) (Or.inl ⟨by rfl, ?_⟩) (by assumption) ?_
            rotate_left
            · intro w9 hSw
              try dsimp only at hSw
              first | (go_simp; done) | (go_simp; with_reducible rfl)
            try simp only [Act.put, List.setIfInBounds_toArray, List.set_cons_zero, List.set_cons_succ]
            refine take_ok (i := 20) (d := 30) (v := ?_) rfl rfl (by kernel_rfl) (by kernel_rfl) (by kernel_rfl) (fun _ _ _ h => h) (Or.inl ⟨by rfl, ?_⟩) (by assumption) ?_
            rotate_left
            · intro w9 hSw
              try dsimp only at hSw
              first | (go_simp; done) | (go_simp; with_reducible rfl)
            try simp only [Act.put, List.setIfInBounds_toArray, List.set_cons_zero, List.set_cons_succ]
            refine wpAnyH_ready (rs := [21]) (by kernel_rfl) (by simp) ?_
            refine AllReadyH.cons rfl (fun K hK => ?_) AllReadyH.nil
            go_simp
            refine (CK.out _ b2').mono ?_
            rintro e w3 ⟨rfl, b3⟩
            have b3' : Below wr.heap.size wr w3 := bn b2' b3
            refine hK.out _ _ (HSC.out _ b3') (fun hHeld => ?_)
            clear hK K
            try simp only [Act.put, List.setIfInBounds_toArray, List.set_cons_zero, List.set_cons_succ]
            refine take_ok (i := 22) (d := 32) (v := ?_) rfl rfl (by kernel_rfl) (by kernel_rfl) (by kernel_rfl) (fun _ _ _ h => h) (Or.inl ⟨by rfl, ?_⟩) (by assumption) ?_
            rotate_left
            · intro w9 hSw
              try dsimp only at hSw
              first | (go_simp; done) | (go_simp; with_reducible rfl)
            try simp only [Act.put, List.setIfInBounds_toArray, List.set_cons_zero, List.set_cons_succ]
            refine take_ok (i := 23) (d := 33) (v := ?_) rfl rfl (by kernel_rfl) (by kernel_rfl) (by kernel_rfl) (fun _ _ _ h => h) (Or.inl ⟨by rfl, ?_⟩) (by assumption) ?_
            rotate_left
            · intro w9 hSw
              try dsimp only at hSw
              first | (go_simp; done) | (go_simp; with_reducible rfl)
            try simp only [Act.put, List.setIfInBounds_toArray, List.set_cons_zero, List.set_cons_succ]
            refine take_ok (i := 24) (d := 34) (v := ?_) rfl rfl (by kernel_rfl) (by kernel_rfl) (by kernel_rfl) (fun _ _ _ h => h) (Or.inl ⟨by rfl, ?_⟩) (by assumption) ?_
            rotate_left
            · intro w9 hSw
              try dsimp only at hSw
              first | (go_simp; done) | (go_simp; with_reducible rfl)
            try simp only [Act.put, List.setIfInBounds_toArray, List.set_cons_zero, List.set_cons_succ]
            refine wpAnyH_done (by kernel_rfl) ?_ _
            have HB2 := Lib.hid b3'
            clear b2 b2' b3 b3' hHeld CO HSC CK
            go_wp2
            go_roundw
            case rel => exact ⟨k + 1, some (yo, ys), HP.out, by go_num, Lib.hid (bn HB.out HB2.out), HS, HJ2⟩
            case measure => have := HP.out; simp [intOf]; omega
    · have hs' := hs.out
      rw [List.drop_of_length_le (by omega)] at hs'
      have hfin : mayL (ps l) = true := by rw [← hs']; cases q <;> rfl
      have HS := Lib.hid hfin
      clear hs hs' hfin hj
      go_wp2
      go_ret
      exact ⟨by rw [HS.out]; rfl, HB.out⟩
end Go.Proofs.YtdjlgiinekighaaGreatDoor.P
/-
  Rows of Keys and of Posts of one's own: append.
-/
namespace Go.Proofs.YtdjlgiinekighaaGreatDoor.P
open Go.RowKit Go.Lib

theorem keyInfo : (Tryz.prog.info? 31).map (fun i => (i.zero, i.size, i.bytes)) = some (some (.agg #[.int .i64 0, .int .i64 0]), 2, 16) := by kernel_rfl
theorem postInfo : (Tryz.prog.info? 66).map (fun i => (i.zero, i.size, i.bytes)) = some (some (.agg #[.int .i64 0, .int .i64 0, .slice none 0 0]), 3, 40) := by kernel_rfl
theorem own_form {w : World} {B : Nat} {e : TypeId} {z : Nat} {v : Value} {n : Nat} {xs : List Value} (h : w.ownsRow B e z v n xs) : ∃ A C, v = .slice A n C ∧ n ≤ C := by
  rcases h.2 with ⟨rfl, h0⟩ | ⟨g, cap, cur, rfl, _, _, hn, _⟩
  · exact ⟨none, 0, by rw [h0], by omega⟩
  · exact ⟨_, _, rfl, hn⟩
/-- append of Keys to a row of one's own. -/
theorem kapp_run (l m : List Ky) (v u : Value) (w : World) (ty : TypeId) (B : Nat) (h : KRow w B v l) (hu : KRd w u m) (hn : l.length + m.length ≤ 1000000) (hB : B ≤ w.heap.size) :
    ∃ A C w1, (Builtin.append_ #[47, 47] ty #[v, u]).run Tryz.prog w = .ok (.slice A (l ++ m).length C) w1 ∧ KRow w1 B (.slice A (l ++ m).length C) (l ++ m) ∧ w.grownBy w1 v.ownBlock ∧ ((Value.slice A (l ++ m).length C).ownBlock = v.ownBlock ∨ (Value.slice A (l ++ m).length C).ownBlock = some w.heap.size) := by
  obtain ⟨i0, hi, hz0, hz1, hz2⟩ := info_parts keyInfo
  obtain ⟨ad, cap, rfl, hcap, h3⟩ := id hu
  have fin : ∀ a : Addr, (∀ j x, (cs2 m)[j]? = some x → w.cell? (a.add j) = some x) → ∃ A C w1, (Builtin.append_ #[47, 47] ty #[v, .slice (some a) m.length cap]).run Tryz.prog w = .ok (.slice A (l ++ m).length C) w1 ∧ KRow w1 B (.slice A (l ++ m).length C) (l ++ m) ∧ w.grownBy w1 v.ownBlock ∧ ((Value.slice A (l ++ m).length C).ownBlock = v.ownBlock ∨ (Value.slice A (l ++ m).length C).ownBlock = some w.heap.size) := fun a ha => by
    obtain ⟨v', w', h1, h2, h4, _, h5⟩ := run_append_own_at (P := Tryz.prog) w B 47 ty 31 i0 _ 2 16 Tryz.underlying47 hi hz0 hz1 hz2 rfl (by decide) v l.length (cs2 l) h a m.length cap (cs2 m) (cs2_len m) ha (cs2_one m) (by unfold maxLen; omega) (by omega) hB
    have hr : KRow w' B v' (l ++ m) := by
      unfold KRow
      rw [List.length_append, cs2_app]
      exact h2
    obtain ⟨A, C, rfl, _⟩ := own_form hr
    exact ⟨A, C, w', h1, hr, h4, h5⟩
  cases m with
  | nil =>
    cases ad with
    | some a => exact fin a (fun j x hj => by simp [cs2] at hj)
    | none =>
      obtain ⟨A, C, rfl, hc⟩ := own_form h
      refine ⟨A, C, w, ?_, ?_, grown_refl _ _, .inl ?_⟩
      · simp only [List.append_nil]
        cases A <;> simp [Builtin.append_, go_sem, run_underlying Tryz.underlying47, hc]
      · simp only [List.append_nil]
        exact h
      · simp only [List.append_nil]
  | cons k r =>
    obtain ⟨b, o, rfl, hat⟩ := h3 (by simp)
    refine fin ⟨b, o, none⟩ (fun j x hj => ?_)
    have hjl : j < (cs2 (k :: r)).length := by
      rcases Nat.lt_or_ge j (cs2 (k :: r)).length with h | h
      · exact h
      · rw [List.getElem?_eq_none h] at hj; cases hj
    rw [cs2_len] at hjl
    rw [Go.WideShapes.add_plain]
    obtain ⟨t, rfl | rfl⟩ : ∃ t, j = t * 2 ∨ j = t * 2 + 1 := ⟨j / 2, by omega⟩
    · rw [(cs2_at (k :: r) t (by omega)).1] at hj
      rw [← Option.some.inj hj]
      exact (hat t (by omega)).1
    · rw [(cs2_at (k :: r) t (by omega)).2] at hj
      rw [← Option.some.inj hj]
      exact (hat t (by omega)).2
/-- One Key just laid. -/
theorem KRd.one (w : World) (o s : Int) (T : TypeId) : KRd (w.alloc (.cells #[.int .i64 o, .int .i64 s] T)) (.slice (some ⟨w.heap.size, 0, none⟩) 1 1) [(o, s)] := by
  refine ⟨_, 1, rfl, by simp, fun _ => ⟨w.heap.size, 0, rfl, fun k hk => ?_⟩⟩
  have hx := Bx.new T w #[.int .i64 o, .int .i64 s]
  match k, hk with
  | 0, _ => exact ⟨hx.cell 0, hx.cell 1⟩
/-- One Key more behind a row of one's own. -/
theorem KRow.push {w : World} {B : Nat} {v : Value} {l : List Ky} (h : KRow w B v l) (o s : Int) (hn : l.length ≤ 100000) (hB : B ≤ w.heap.size) (ty T : TypeId) :
    ∃ A C w1, (Builtin.append_ #[47, 47] ty #[v, .slice (some ⟨w.heap.size, 0, none⟩) 1 1]).run Tryz.prog (w.alloc (.cells #[.int .i64 o, .int .i64 s] T)) = .ok (.slice A (l.length + 1) C) w1 ∧ KRow w1 B (.slice A (l.length + 1) C) (l ++ [(o, s)]) ∧ Below B w w1 := by
  have hal := alloc_below w (.cells #[.int .i64 o, .int .i64 s] T)
  obtain ⟨A, C, w1, h1, h2, h3, _⟩ := kapp_run l [(o, s)] v _ _ ty B (h.below hal) (KRd.one w o s T) (by simp; omega) (Nat.le_trans hB hal.size)
  simp only [List.length_append, List.length_singleton] at h1 h2
  refine ⟨A, C, w1, h1, h2, ?_⟩
  have hb := below_of_grown h3 (Nat.le_trans hB hal.size) (fun g hg => (World.ownsRow.lt h g hg).1)
  exact (hal.mono hB).trans hb
end Go.Proofs.YtdjlgiinekighaaGreatDoor.P
/-
  Less of chapter 10's own answer, by contract; what is answered is a row of one's own.
-/
namespace Go.Proofs.YtdjlgiinekighaaGreatDoor.P
open Go.RowKit Go.Lib

def keysT (l : List Ky) (w : World) (e : Ending) (w' : World) : Prop := ∃ v, e = .returned v ∧ KRow w' w.heap.size v l ∧ Below w.heap.size w w'
theorem lessK_snoc (a : List Ky) (k : Ky) (s : List Ky) : lessK (a ++ [k]) s = if s.contains k then lessK a s else lessK a s ++ [k] := by
  unfold lessK
  rw [List.filter_append]
  cases h : s.contains k with
  | true =>
    rw [List.filter_cons_of_neg (by rw [h]; simp), List.filter_nil, List.append_nil]
    rfl
  | false =>
    rw [List.filter_cons_of_pos (by rw [h]; rfl), List.filter_nil]
    rfl
end Go.Proofs.YtdjlgiinekighaaGreatDoor.P
/-
  Into of chapter 10's own answer, by contract: a Key among rising ones.
-/
namespace Go.Proofs.YtdjlgiinekighaaGreatDoor.P
open Go.RowKit Go.Lib
set_option maxRecDepth 100000

theorem sliced_is (ad : Option Addr) (lo hi cap z : Nat) : ∃ A N C, sliced ad lo hi cap z = .slice A N C := by
  unfold sliced
  cases ad with
  | none => exact ⟨_, _, _, rfl⟩
  | some a => exact ⟨_, _, _, rfl⟩
/-- A piece of a list of Keys holds the piece of them. -/
theorem krd_sliced {w : World} {ad : Option Addr} {cap : Nat} {l : List Ky} (h : KRd w (.slice ad l.length cap) l) (lo hi : Nat) (hlh : lo ≤ hi) (hhi : hi ≤ l.length) : KRd w (sliced ad lo hi cap 2) ((l.drop lo).take (hi - lo)) := by
  have hlen : ((l.drop lo).take (hi - lo)).length = hi - lo := by simp; omega
  obtain ⟨ad', cap', e, hcap, h2⟩ := h
  simp only [Value.slice.injEq, true_and] at e
  obtain ⟨rfl, rfl⟩ := e
  refine ⟨if cap = lo then ad else ad.map fun a => a.add (lo * 2), cap - lo, ?_, by rw [hlen]; omega, fun h0 => ?_⟩
  · rw [hlen]
    unfold sliced
    cases ad with
    | none => simp
    | some a =>
      by_cases h0 : cap = lo
      · simp [h0]
      · simp [h0]
  · rw [hlen] at h0
    obtain ⟨b, o, rfl, hs⟩ := h2 (by omega)
    have hne : ¬ cap = lo := by omega
    rw [if_neg hne]
    refine ⟨b, o + lo * 2, by simp only [Option.map_some]; rw [Go.WideShapes.add_plain], fun k hk => ?_⟩
    rw [hlen] at hk
    have h3 := hs (lo + k) (by omega)
    rw [List.getElem_take, List.getElem_drop, show o + lo * 2 + k * 2 = o + (lo + k) * 2 by omega]
    exact h3
theorem kslice_run (ad : Option Addr) (n cap : Nat) (lo hi : Option Value) (l h : Nat) (W : World) (hb : (Instr.sliceBounds true n cap lo hi none).run Tryz.prog W = .ok (l, h, cap) W) : (Instr.sliceAt 47 (.slice ad n cap) lo hi none).run Tryz.prog W = .ok (sliced ad l h cap 2) W := by
  have hs : (sizeOf 31).run Tryz.prog W = .ok 2 W := by
    have := Tryz.sizeOf31
    simp [sizeOf]
    rfl
  rw [run_sliceAt_slice W _ _ _ _ _ Tryz.underlying47, run_slice_any W _ _ _ _ Tryz.underlying47, hb]
  simp only [Result.andThen]
  rw [show Tryz.prog.elem 47 = 31 by kernel_rfl, hs]
theorem step_kapp {w : World} {ops : Array Oper} {o : Oper} {a : Act} {K : Act → World → Prop} {Q : Exit → Act → World → Prop} {E : Prop} (hgd : o.guard = none) (s x : Operand)
    (ho : o.op = .call { callee := .builtin .append, args := #[s, x], argTypes := #[47, 47] })
    (B : Nat) (v u : Value) (m l : List Ky) (hs : a.eval s = v) (hx : a.eval x = u) (hv : KRow w B v m) (hu : KRd w u l) (hn : m.length + l.length ≤ 1000000) (hB : B ≤ w.heap.size)
    (h : ∀ v' w', KRow w' B v' (m ++ l) → w.grownBy w' v.ownBlock → K (a.put o.dst v') w') :
    if Region.wanted o (yielded ops a.tmps) = true then Oper.wp Tryz.prog o a w K Q else E := by
  have hw : Region.wanted o (yielded ops a.tmps) = true := by simp [Region.wanted, hgd]
  rw [if_pos hw]
  obtain ⟨A, C, w', hr, h2, h3, _⟩ := kapp_run m l v u w o.type B hv hu hn hB
  unfold Oper.wp execOp
  simp only [ho, resolve, invoke, builtin, Sem.run_bind, Sem.run_pure, Result.andThen_ok, List.map_toArray, List.map_cons, List.map_nil, hs, hx, hr]
  exact h _ w' h2 h3
theorem krd_one {w : World} {B : Nat} {o s : Int} (h : Bx 31 w B #[.int .i64 o, .int .i64 s]) : KRd w (.slice (some ⟨B, 0, none⟩) 1 1) [(o, s)] := by
  refine ⟨_, 1, rfl, by simp, fun _ => ⟨B, 0, rfl, fun k hk => ?_⟩⟩
  match k, hk with
  | 0, _ => exact ⟨h.cell 0, h.cell 1⟩
theorem tw_split (f : Ky → Bool) : ∀ (l : List Ky) (i : Nat), i ≤ l.length → (∀ t (ht : t < l.length), t < i → f l[t] = true) → (∀ h : i < l.length, f l[i] = false) → l.takeWhile f = l.take i ∧ l.dropWhile f = l.drop i
  | [], i, hi, _, _ => by simp
  | a :: l, 0, _, _, h => by
    have := h (by simp)
    simp only [List.getElem_cons_zero] at this
    simp [this]
  | a :: l, i + 1, hi, h1, h2 => by
    have h0 := h1 0 (by simp) (by omega)
    simp only [List.getElem_cons_zero] at h0
    have ih := tw_split f l i (by simpa using hi) (fun t ht hti => h1 (t + 1) (by simpa using ht) (by omega)) (fun h => h2 (by simpa using h))
    simp [h0, ih]
set_option maxHeartbeats 16000000 in
theorem into_c (l : List Ky) (o s : Int) (v : Value) (w : World) (B : Nat) (h : KRow w B v l) (hB : B ≤ w.heap.size) (hn : l.length ≤ 100000) :
    Calls Tryz.prog 20 #[v, .agg #[.int .i64 o, .int .i64 s]] w fun e w' => ∃ v', e = .returned v' ∧ KRow w' B v' (into l (o, s)) ∧ Below w.heap.size w w' := by
  obtain ⟨ad, cap, rfl, hcap⟩ := own_form h
  have hal := alloc_below w (.cells #[.int .i64 o, .int .i64 s] 31)
  have bx := Bx.new 31 w #[.int .i64 o, .int .i64 s]
  obtain ⟨w1, hw1⟩ : ∃ w1, w1 = w.alloc (.cells #[.int .i64 o, .int .i64 s] 31) := ⟨_, rfl⟩
  rw [← hw1] at hal bx
  have HK := Lib.hid (h.below hal)
  have CB := Lib.hid bx
  have HW := Lib.hid hw1
  have HAL := Lib.hid hal
  have HBB := Lib.hid hB
  clear h hal bx hw1
  go_enter Tryz.func20, Tryz.ntmps20
  go_wp2
  go_loopw [5] (fun v5 wr => ∃ k : Nat, k ≤ l.length ∧ v5 = .int .i64 (k : Int) ∧ Hid (Below w1.heap.size w1 wr) ∧ Hid (∀ t (ht : t < l.length), t < k → kLt l[t] (o, s) = true)) (fun v5 _ => l.length - (intOf v5).toNat)
  case atStart => exact ⟨0, by omega, rfl, Lib.hid (by rw [HW.out]; exact Below.refl _ _), Lib.hid (fun t _ ht => by omega)⟩
  case round =>
    obtain ⟨k, hk, rfl, HB, hs⟩ := hrel
    have hgl := (CB.out.below HB.out).lt
    by_cases hp : k < l.length
    · obtain ⟨ad', cap', e1, _, c3⟩ := (HK.out.below HB.out).rd
      simp only [Value.slice.injEq, true_and] at e1
      obtain ⟨rfl, rfl⟩ := e1
      obtain ⟨g, o1, rfl, c1⟩ := c3 (by omega)
      have a1 := c1 k hp
      have HP := Lib.hid hp
      have HT : Hid (∀ y, l[k] = y → kLt y (o, s) = true → ∀ t (ht : t < l.length), t < k + 1 → kLt l[t] (o, s) = true) := Lib.hid (fun y hy h t ht htk => by
        subst hy
        rcases Nat.lt_or_ge t k with h1 | h1
        · exact hs.out t ht h1
        · obtain rfl : t = k := by omega
          exact h)
      have HF : Hid (∀ y, l[k] = y → kLt y (o, s) = false → l.takeWhile (fun x => kLt x (o, s)) = l.take k ∧ l.dropWhile (fun x => kLt x (o, s)) = y :: l.drop (k + 1)) := Lib.hid (fun y hy h => by
        subst hy
        have h1 := tw_split (fun x => kLt x (o, s)) l k hk hs.out (fun _ => h)
        rw [h1.1, h1.2, List.drop_eq_getElem_cons hp]
        exact ⟨rfl, rfl⟩)
      have HD : Hid (∀ y, l[k] = y → l.drop k = y :: l.drop (k + 1)) := Lib.hid (fun y hy => by subst hy; exact List.drop_eq_getElem_cons hp)
      generalize hy : l[k] = y at a1
      obtain ⟨yo, ys⟩ := y
      have HY := Lib.hid hy
      have HA1 := Lib.hid a1
      have HS : Hid (∀ W, Below wr.heap.size wr W → W.cell? ⟨w.heap.size, 0, none⟩ = some (.int .i64 o) ∧ W.cell? ⟨w.heap.size, 1, none⟩ = some (.int .i64 s) ∧ W.cell? ⟨g, o1 + k * 2, none⟩ = some (.int .i64 yo) ∧ W.cell? ⟨g, o1 + k * 2 + 1, none⟩ = some (.int .i64 ys)) := Lib.hid (fun W hb => ⟨(CB.out.below (bn HB.out hb)).cell 0, (CB.out.below (bn HB.out hb)).cell 1, (a1.below hb).1, (a1.below hb).2⟩)
      have CK := Lib.hid (fun W => refbefore_c yo ys o s W)
      have hgl1 := World.block_lt_of_cell? _ _ a1.1
      clear c3 c1 a1 hy
      cases hL : kLt (yo, ys) (o, s) with
      | true =>
        rw [hL] at CK
        have HT2 := Lib.hid (HT.out _ HY.out hL)
        clear hL HT HF HD
        go_wp2_with fail
        go_region_held3 (fun W => W.cell? ⟨w.heap.size, 0, none⟩ = some (.int .i64 o) ∧ W.cell? ⟨w.heap.size, 1, none⟩ = some (.int .i64 s) ∧ W.cell? ⟨g, o1 + k * 2, none⟩ = some (.int .i64 yo) ∧ W.cell? ⟨g, o1 + k * 2 + 1, none⟩ = some (.int .i64 ys)) (exact HS.out _ (by first | assumption | exact (Below.refl _ _).drew | exact Below.refl _ _))
          (first
          | (go_at_call 40; refine (CK.out _).mono ?_; rintro e w5 ⟨rfl, b5⟩; have b5' : Below wr.heap.size wr w5 := bn (by first | assumption | exact (Below.refl _ _).drew | exact Below.refl _ _) b5; clear b5)
          | fail)
        have HB5 := Lib.hid (bn HB.out b5')
        clear b5' HS CK
        go_wp2
        go_roundw
        case rel => exact ⟨k + 1, HP.out, by go_num, HB5, HT2⟩
        case measure => have := HP.out; simp [intOf]; omega
      | false =>
        rw [hL] at CK
        have HF2 := Lib.hid (HF.out _ HY.out hL)
        clear hL HT HF
        go_wp2_with fail
        go_region_held3 (fun W => W.cell? ⟨w.heap.size, 0, none⟩ = some (.int .i64 o) ∧ W.cell? ⟨w.heap.size, 1, none⟩ = some (.int .i64 s) ∧ W.cell? ⟨g, o1 + k * 2, none⟩ = some (.int .i64 yo) ∧ W.cell? ⟨g, o1 + k * 2 + 1, none⟩ = some (.int .i64 ys)) (exact HS.out _ (by first | assumption | exact (Below.refl _ _).drew | exact Below.refl _ _))
          (first
          | (go_at_call 40; refine (CK.out _).mono ?_; rintro e w5 ⟨rfl, b5⟩; have b5' : Below wr.heap.size wr w5 := bn (by first | assumption | exact (Below.refl _ _).drew | exact Below.refl _ _) b5; clear b5)
          | fail)
        have HB8 := Lib.hid (bn HB.out b5')
        obtain ⟨c0, c1, y0, y1⟩ := HS.out w5 b5'
        have hgl2 := World.block_lt_of_cell? _ _ c0
        have hgl3 := World.block_lt_of_cell? _ _ y0
        clear b5' HS CK
        cases e1 : (yo == o && ys == s) with
        | true =>
          have q : ∀ W, (Op.equalIn 10000 31 (.agg #[.int .i64 yo, .int .i64 ys]) (.agg #[.int .i64 o, .int .i64 s])).run Tryz.prog W = .ok true W := fun W => by rw [← e1]; exact eq_key yo ys o s W
          have HI : Hid (into l (o, s) = l) := Lib.hid (by
            simp only [Bool.and_eq_true, beq_iff_eq] at e1
            unfold into
            rw [HF2.out.2, List.head?_cons, e1.1, e1.2, if_pos rfl])
          clear e1
          go_wp2_with fail
          go_quiet (fail)
          go_wp2
          go_ret
          exact ⟨_, rfl, by rw [HI.out]; exact HK.out.below (below_drewN HB8.out _), bn HAL.out (below_drewN HB8.out _)⟩
        | false =>
          have q : ∀ W, (Op.equalIn 10000 31 (.agg #[.int .i64 yo, .int .i64 ys]) (.agg #[.int .i64 o, .int .i64 s])).run Tryz.prog W = .ok false W := fun W => by rw [← e1]; exact eq_key yo ys o s W
          have HI : Hid (into l (o, s) = l.take k ++ (o, s) :: l.drop k) := Lib.hid (by
            unfold into
            rw [HF2.out.2, List.head?_cons, if_neg (by intro e; cases e; simp at e1), HF2.out.1, HD.out _ HY.out])
          have HB9 : Hid (∀ n, Below w1.heap.size w1 (w5.drewN n)) := Lib.hid (fun n => below_drewN HB8.out n)
          clear e1 HF2 HD HB8
          go_wp2_with fail
          go_quiet (fail)
          have HB8 : Hid (Below w1.heap.size w1 (w5.drewN nq)) := Lib.hid (HB9.out _)
          obtain ⟨W0, hW0⟩ : ∃ W0, W0 = w5.drewN nq := ⟨_, rfl⟩
          rw [← hW0] at HB8
          obtain ⟨A1, N1, C1, hV1⟩ : ∃ A1 N1 C1, sliced (some ⟨g, o1, none⟩) 0 k cap 2 = .slice A1 N1 C1 := sliced_is ..
          obtain ⟨A3, N3, C3, hV3⟩ : ∃ A3 N3 C3, sliced (some ⟨g, o1, none⟩) k l.length cap 2 = .slice A3 N3 C3 := sliced_is ..
          have r1 : ∀ W, (Instr.sliceAt 47 (.slice (some ⟨g, o1, none⟩) l.length cap) none (some (.int .i64 (k : Int))) none).run Tryz.prog W = .ok (.slice A1 N1 C1) W := fun W => by
            rw [← hV1]
            exact kslice_run (some ⟨g, o1, none⟩) _ cap _ _ _ _ W (by simp [Instr.sliceBounds, run_sliceBound_if, show k ≤ cap by omega])
          have r3 : ∀ W, (Instr.sliceAt 47 (.slice (some ⟨g, o1, none⟩) l.length cap) (some (.int .i64 (k : Int))) none none).run Tryz.prog W = .ok (.slice A3 N3 C3) W := fun W => by
            rw [← hV3]
            exact kslice_run (some ⟨g, o1, none⟩) _ cap _ _ _ _ W (by simp [Instr.sliceBounds, run_sliceBound_if, hk])
          have HV1 : Hid (∀ W, Below W0.heap.size W0 W → KRd W (.slice A1 N1 C1) (l.take k)) := Lib.hid (fun W hb => by
            have h := (krd_sliced (HK.out.below (bn HB8.out hb)).rd 0 k (by omega) hk)
            rwa [hV1, List.drop_zero, Nat.sub_zero] at h)
          have HV3 : Hid (∀ W, Below W0.heap.size W0 W → KRd W (.slice A3 N3 C3) (l.drop k)) := Lib.hid (fun W hb => by
            have h := (krd_sliced (HK.out.below (bn HB8.out hb)).rd k l.length hk (Nat.le_refl _))
            rwa [hV3, List.take_of_length_le (by simp)] at h)
          have HC8 : Hid (∀ W, Below W0.heap.size W0 W → W.cell? ⟨w.heap.size, 0, none⟩ = some (.int .i64 o) ∧ W.cell? ⟨w.heap.size, 1, none⟩ = some (.int .i64 s)) := Lib.hid (fun W hb => ⟨(CB.out.below (bn HB8.out hb)).cell 0, (CB.out.below (bn HB8.out hb)).cell 1⟩)
          have HSZ := Lib.hid HB8.out.size
          clear hV1 hV3
          go_wp2_with fail
          rw [← hW0]
          clear hW0
          go_region_held3 (fun W => W.cell? ⟨w.heap.size, 0, none⟩ = some (.int .i64 o) ∧ W.cell? ⟨w.heap.size, 1, none⟩ = some (.int .i64 s)) (exact HC8.out _ (by first | assumption | exact Below.refl _ _ | exact (Below.refl _ _).drew | exact alloc_below _ _ | exact (alloc_below _ _).drew | exact ba.alloc ba.size _ | exact (ba.alloc ba.size _).drew))
            (first
            | (refine step_kapp rfl _ _ rfl W0.heap.size vb (.slice A3 N3 C3) (l.take k ++ [(o, s)]) (l.drop k) rfl rfl (by exact hrb) (HV3.out _ (by exact bb)) (by simp; omega) (by exact bb.size) ?_; intro vc wc hrc hgc; have bc : Below W0.heap.size W0 wc := bb.trans (below_of_grown hgc bb.size (fun g hg => (World.ownsRow.lt hrb g hg).1)))
            | (refine step_kapp rfl _ _ rfl W0.heap.size va (.slice (some ⟨W0.heap.size, 0, none⟩) 1 1) (l.take k) [(o, s)] rfl rfl (by exact hra) (by exact krd_one ((hga.block W0.heap.size (by simp) (by intro h; cases h)).trans (Bx.new 31 W0 _))) (by simp; omega) (by exact ba.size) ?_; intro vb wb hrb hgb; have bb : Below W0.heap.size W0 wb := ba.trans (below_of_grown hgb ba.size (fun g hg => (World.ownsRow.lt hra g hg).1)))
            | (refine step_kapp rfl _ _ rfl W0.heap.size va (.slice (some ⟨wa.heap.size, 0, none⟩) 1 1) (l.take k) [(o, s)] rfl rfl (by first | exact own_below hra (alloc_below _ _) | exact own_below hra (alloc_below _ _).drew) (by exact krd_one (Bx.new 31 wa _)) (by simp; omega) (by first | exact (ba.alloc ba.size _).size | exact (ba.alloc ba.size _).drew.size) ?_; intro vb wb hrb hgb; have bb : Below W0.heap.size W0 wb := (ba.alloc ba.size _).trans (below_of_grown hgb (ba.alloc ba.size _).size (fun g hg => (World.ownsRow.lt hra g hg).1)))
            | (refine step_kapp rfl _ _ rfl W0.heap.size (.slice none 0 0) (.slice A1 N1 C1) [] (l.take k) rfl rfl (World.ownsRow_nil _ _ _ _) (HV1.out _ (by first | assumption | exact Below.refl _ _ | exact (Below.refl _ _).drew | exact alloc_below _ _ | exact (alloc_below _ _).drew)) (by simp; omega) (by first | exact Nat.le_refl _ | (simp; done)) ?_; intro va wa hra hga; have ba : Below W0.heap.size W0 wa := bn (by first | assumption | exact Below.refl _ _ | exact (Below.refl _ _).drew | exact alloc_below _ _ | exact (alloc_below _ _).drew) (below_of_grown hga (Nat.le_refl _) (by intro g hg; cases hg)))
            | fail)
          all_goals
            go_wp2
            go_ret
            exact ⟨_, rfl, by rw [HI.out]; have h := own_mono hrc (Nat.le_trans HBB.out (Nat.le_trans HAL.out.size HSZ.out)); rwa [List.append_assoc] at h, bn HAL.out (HB8.out.trans (bc.mono HB8.out.size))⟩
    · have HI : Hid (into l (o, s) = l.take k ++ (o, s) :: l.drop k) := Lib.hid (by
        have h1 := tw_split (fun x => kLt x (o, s)) l k hk hs.out (fun h => absurd h hp)
        unfold into
        rw [h1.1, h1.2, List.drop_of_length_le (by omega), if_neg (by simp)])
      have HS : Hid (∀ W, Below wr.heap.size wr W → W.cell? ⟨w.heap.size, 0, none⟩ = some (.int .i64 o) ∧ W.cell? ⟨w.heap.size, 1, none⟩ = some (.int .i64 s)) := Lib.hid (fun W hb => ⟨(CB.out.below (bn HB.out hb)).cell 0, (CB.out.below (bn HB.out hb)).cell 1⟩)
      have hlk : decide ((k : Int) < (l.length : Int)) = false := by rw [decide_eq_false_iff_not]; omega
      have HS4 : Hid (∀ W, Below wr.drew.heap.size wr.drew W → W.cell? ⟨w.heap.size, 0, none⟩ = some (.int .i64 o) ∧ W.cell? ⟨w.heap.size, 1, none⟩ = some (.int .i64 s)) := Lib.hid (fun W hb => HS.out W (bn (Below.refl _ _).drew hb))
      go_wp2_with fail
      refine wp_region_held_drew (S := fun W => W.cell? ⟨w.heap.size, 0, none⟩ = some (.int .i64 o) ∧ W.cell? ⟨w.heap.size, 1, none⟩ = some (.int .i64 s)) (by kernel_rfl) (HS.out _ (Below.refl _ _).drew) (fun hHeld => ?_)
      refine take_ok (i := 0) (d := 6) (v := ?_) rfl rfl (by kernel_rfl) (by kernel_rfl) (by kernel_rfl) (fun _ _ _ h => h) (Or.inl ⟨by rfl, ?_⟩) (by assumption) ?_
      rotate_left
      · intro w9 hSw
        try dsimp only at hSw
        first | (go_simp; done) | (go_simp; with_reducible rfl)
      try simp only [Act.put, List.setIfInBounds_toArray, List.set_cons_zero, List.set_cons_succ]
      refine take_ok (i := 1) (d := 7) (v := ?_) rfl rfl (by kernel_rfl) (by kernel_rfl) (by kernel_rfl) (fun _ _ _ h => h) (Or.inl ⟨by rfl, ?_⟩) (by assumption) ?_
      rotate_left
      · intro w9 hSw
        try dsimp only at hSw
        first | (go_simp; done) | (go_simp; with_reducible rfl)
      try simp only [Act.put, List.setIfInBounds_toArray, List.set_cons_zero, List.set_cons_succ]
      refine take_ok (i := 2) (d := 8) (v := ?_) rfl rfl (by kernel_rfl) (by kernel_rfl) (by kernel_rfl) (fun _ _ _ h => h) (Or.inl ⟨by rfl, ?_⟩) (by assumption) ?_
      rotate_left
      · intro w9 hSw
        try dsimp only at hSw
        first | (go_simp; done) | (go_simp; with_reducible rfl)
      try simp only [Act.put, List.setIfInBounds_toArray, List.set_cons_zero, List.set_cons_succ]
      refine take_ok (i := 3) (d := 9) (v := ?_) rfl rfl (by kernel_rfl) (by kernel_rfl) (by kernel_rfl) (fun _ _ _ h => h) (Or.inl ⟨by rfl, ?_⟩) (by assumption) ?_
      rotate_left
      · intro w9 hSw
        try dsimp only at hSw
        first | (go_simp; done) | (go_simp; with_reducible rfl)
      try simp only [Act.put, List.setIfInBounds_toArray, List.set_cons_zero, List.set_cons_succ]
      refine take_ok (i := 4) (d := 10) (v := ?_) rfl rfl (by kernel_rfl) (by kernel_rfl) (by kernel_rfl) (fun _ _ _ h => h) (Or.inl ⟨by rfl, ?_⟩) (by assumption) ?_
      rotate_left
      · intro w9 hSw
        try dsimp only at hSw
        first | (go_simp; done) | (go_simp; with_reducible rfl)
      try simp only [Act.put, List.setIfInBounds_toArray, List.set_cons_zero, List.set_cons_succ]
      refine take_ok (i := 5) (d := 11) (v := undef) rfl rfl (by kernel_rfl) (by kernel_rfl) (by kernel_rfl) (fun _ _ _ h => h) (Or.inr ⟨by rfl, rfl⟩) (by assumption) ?_
      try simp only [Act.put, List.setIfInBounds_toArray, List.set_cons_zero, List.set_cons_succ]
      refine take_ok (i := 6) (d := 12) (v := undef) rfl rfl (by kernel_rfl) (by kernel_rfl) (by kernel_rfl) (fun _ _ _ h => h) (Or.inr ⟨by rfl, rfl⟩) (by assumption) ?_
      try simp only [Act.put, List.setIfInBounds_toArray, List.set_cons_zero, List.set_cons_succ]
      refine take_ok (i := 7) (d := 13) (v := undef) rfl rfl (by kernel_rfl) (by kernel_rfl) (by kernel_rfl) (fun _ _ _ h => h) (Or.inr ⟨by rfl, rfl⟩) (by assumption) ?_
      try simp only [Act.put, List.setIfInBounds_toArray, List.set_cons_zero, List.set_cons_succ]
      refine take_ok (i := 8) (d := 14) (v := undef) rfl rfl (by kernel_rfl) (by kernel_rfl) (by kernel_rfl) (fun _ _ _ h => h) (Or.inr ⟨by rfl, rfl⟩) (by assumption) ?_
      try simp only [Act.put, List.setIfInBounds_toArray, List.set_cons_zero, List.set_cons_succ]
      refine take_ok (i := 9) (d := 15) (v := undef) rfl rfl (by kernel_rfl) (by kernel_rfl) (by kernel_rfl) (fun _ _ _ h => h) (Or.inr ⟨by rfl, rfl⟩) (by assumption) ?_
      try simp only [Act.put, List.setIfInBounds_toArray, List.set_cons_zero, List.set_cons_succ]
      refine take_ok (i := 10) (d := 16) (v := undef) rfl rfl (by kernel_rfl) (by kernel_rfl) (by kernel_rfl) (fun _ _ _ h => h) (Or.inr ⟨by rfl, rfl⟩) (by assumption) ?_
      try simp only [Act.put, List.setIfInBounds_toArray, List.set_cons_zero, List.set_cons_succ]
      refine take_ok (i := 11) (d := 17) (v := ?_) rfl rfl (by kernel_rfl) (by kernel_rfl) (by kernel_rfl) (fun _ _ _ h => h) (Or.inl ⟨by rfl, ?_⟩) (by assumption) ?_
      rotate_left
      · intro w9 hSw
        try dsimp only at hSw
        first | (go_simp; done) | (go_simp; with_reducible rfl)
      try simp only [Act.put, List.setIfInBounds_toArray, List.set_cons_zero, List.set_cons_succ]
      refine wpAnyH_done (by kernel_rfl) ?_ _
      clear hHeld
      go_wp2_with fail
      refine wp_region_held_drew (S := fun W => W.cell? ⟨w.heap.size, 0, none⟩ = some (.int .i64 o) ∧ W.cell? ⟨w.heap.size, 1, none⟩ = some (.int .i64 s)) (by kernel_rfl) (HS4.out _ (Below.refl _ _).drew) (fun hHeld => ?_)
      refine take_ok (i := 0) (d := 20) (v := ?_) rfl rfl (by kernel_rfl) (by kernel_rfl) (by kernel_rfl) (fun _ _ _ h => h) (Or.inl ⟨by rfl, ?_⟩) (by assumption) ?_
      rotate_left
      · intro w9 hSw
        try dsimp only at hSw
        first | (go_simp; done) | (go_simp; with_reducible rfl)
      try simp only [Act.put, List.setIfInBounds_toArray, List.set_cons_zero, List.set_cons_succ]
      refine take_ok (i := 1) (d := 21) (v := ?_) rfl rfl (by kernel_rfl) (by kernel_rfl) (by kernel_rfl) (fun _ _ _ h => h) (Or.inl ⟨by rfl, ?_⟩) (by assumption) ?_
      rotate_left
      · intro w9 hSw
        try dsimp only at hSw
        first | (go_simp; done) | (go_simp; with_reducible rfl)
      try simp only [Act.put, List.setIfInBounds_toArray, List.set_cons_zero, List.set_cons_succ]
      refine take_ok (i := 2) (d := 22) (v := ?_) rfl rfl (by kernel_rfl) (by kernel_rfl) (by kernel_rfl) (fun _ _ _ h => h) (Or.inl ⟨by rfl, ?_⟩) (by assumption) ?_
      rotate_left
      · intro w9 hSw
        try dsimp only at hSw
        first | (go_simp; done) | (go_simp; with_reducible rfl)
      try simp only [Act.put, List.setIfInBounds_toArray, List.set_cons_zero, List.set_cons_succ]
      refine take_ok (i := 3) (d := 23) (v := ?_) rfl rfl (by kernel_rfl) (by kernel_rfl) (by kernel_rfl) (fun _ _ _ h => h) (Or.inl ⟨by rfl, ?_⟩) (by assumption) ?_
      rotate_left
      · intro w9 hSw
        try dsimp only at hSw
        first | (go_simp; done) | (go_simp; with_reducible rfl)
      try simp only [Act.put, List.setIfInBounds_toArray, List.set_cons_zero, List.set_cons_succ]
      refine take_ok (i := 4) (d := 24) (v := ?_) rfl rfl (by kernel_rfl) (by kernel_rfl) (by kernel_rfl) (fun _ _ _ h => h) (Or.inl ⟨by rfl, ?_⟩) (by assumption) ?_
      rotate_left
      · intro w9 hSw
        try dsimp only at hSw
        first | (go_simp; done) | (go_simp; with_reducible rfl)
      try simp only [Act.put, List.setIfInBounds_toArray, List.set_cons_zero, List.set_cons_succ]
      refine take_ok (i := 5) (d := 25) (v := undef) rfl rfl (by kernel_rfl) (by kernel_rfl) (by kernel_rfl) (fun _ _ _ h => h) (Or.inr ⟨by rfl, rfl⟩) (by assumption) ?_
      try simp only [Act.put, List.setIfInBounds_toArray, List.set_cons_zero, List.set_cons_succ]
      refine take_ok (i := 6) (d := 26) (v := undef) rfl rfl (by kernel_rfl) (by kernel_rfl) (by kernel_rfl) (fun _ _ _ h => h) (Or.inr ⟨by rfl, rfl⟩) (by assumption) ?_
      try simp only [Act.put, List.setIfInBounds_toArray, List.set_cons_zero, List.set_cons_succ]
      refine take_ok (i := 7) (d := 27) (v := undef) rfl rfl (by kernel_rfl) (by kernel_rfl) (by kernel_rfl) (fun _ _ _ h => h) (Or.inr ⟨by rfl, rfl⟩) (by assumption) ?_
      try simp only [Act.put, List.setIfInBounds_toArray, List.set_cons_zero, List.set_cons_succ]
      refine take_ok (i := 8) (d := 28) (v := undef) rfl rfl (by kernel_rfl) (by kernel_rfl) (by kernel_rfl) (fun _ _ _ h => h) (Or.inr ⟨by rfl, rfl⟩) (by assumption) ?_
      try simp only [Act.put, List.setIfInBounds_toArray, List.set_cons_zero, List.set_cons_succ]
      refine take_ok (i := 9) (d := 29) (v := undef) rfl rfl (by kernel_rfl) (by kernel_rfl) (by kernel_rfl) (fun _ _ _ h => h) (Or.inr ⟨by rfl, rfl⟩) (by assumption) ?_
      try simp only [Act.put, List.setIfInBounds_toArray, List.set_cons_zero, List.set_cons_succ]
      refine take_ok (i := 10) (d := 30) (v := undef) rfl rfl (by kernel_rfl) (by kernel_rfl) (by kernel_rfl) (fun _ _ _ h => h) (Or.inr ⟨by rfl, rfl⟩) (by assumption) ?_
      try simp only [Act.put, List.setIfInBounds_toArray, List.set_cons_zero, List.set_cons_succ]
      refine take_ok (i := 11) (d := 31) (v := ?_) rfl rfl (by kernel_rfl) (by kernel_rfl) (by kernel_rfl) (fun _ _ _ h => h) (Or.inl ⟨by rfl, ?_⟩) (by assumption) ?_
      rotate_left
      · intro w9 hSw
        try dsimp only at hSw
        first | (go_simp; done) | (go_simp; with_reducible rfl)
      try simp only [Act.put, List.setIfInBounds_toArray, List.set_cons_zero, List.set_cons_succ]
      refine wpAnyH_done (by kernel_rfl) ?_ _
      clear hHeld
      have HB8 : Hid (Below w1.heap.size w1 wr.drew.drew) := Lib.hid HB.out.drew.drew
      obtain ⟨W0, hW0⟩ : ∃ W0, W0 = wr.drew.drew := ⟨_, rfl⟩
      rw [← hW0] at HB8
      obtain ⟨A1, N1, C1, hV1⟩ : ∃ A1 N1 C1, sliced ad 0 k cap 2 = .slice A1 N1 C1 := sliced_is ..
      obtain ⟨A3, N3, C3, hV3⟩ : ∃ A3 N3 C3, sliced ad k l.length cap 2 = .slice A3 N3 C3 := sliced_is ..
      have r1 : ∀ W, (Instr.sliceAt 47 (.slice ad l.length cap) none (some (.int .i64 (k : Int))) none).run Tryz.prog W = .ok (.slice A1 N1 C1) W := fun W => by
        rw [← hV1]
        exact kslice_run ad _ cap _ _ _ _ W (by simp [Instr.sliceBounds, run_sliceBound_if, show k ≤ cap by omega])
      have r3 : ∀ W, (Instr.sliceAt 47 (.slice ad l.length cap) (some (.int .i64 (k : Int))) none none).run Tryz.prog W = .ok (.slice A3 N3 C3) W := fun W => by
        rw [← hV3]
        exact kslice_run ad _ cap _ _ _ _ W (by simp [Instr.sliceBounds, run_sliceBound_if, hk])
      have HV1 : Hid (∀ W, Below W0.heap.size W0 W → KRd W (.slice A1 N1 C1) (l.take k)) := Lib.hid (fun W hb => by
        have h := (krd_sliced (HK.out.below (bn HB8.out hb)).rd 0 k (by omega) hk)
        rwa [hV1, List.drop_zero, Nat.sub_zero] at h)
      have HV3 : Hid (∀ W, Below W0.heap.size W0 W → KRd W (.slice A3 N3 C3) (l.drop k)) := Lib.hid (fun W hb => by
        have h := (krd_sliced (HK.out.below (bn HB8.out hb)).rd k l.length hk (Nat.le_refl _))
        rwa [hV3, List.take_of_length_le (by simp)] at h)
      have HC8 : Hid (∀ W, Below W0.heap.size W0 W → W.cell? ⟨w.heap.size, 0, none⟩ = some (.int .i64 o) ∧ W.cell? ⟨w.heap.size, 1, none⟩ = some (.int .i64 s)) := Lib.hid (fun W hb => ⟨(CB.out.below (bn HB8.out hb)).cell 0, (CB.out.below (bn HB8.out hb)).cell 1⟩)
      have HSZ := Lib.hid HB8.out.size
      clear hV1 hV3
      go_wp2_with fail
      rw [← hW0]
      clear hW0
      go_region_held3 (fun W => W.cell? ⟨w.heap.size, 0, none⟩ = some (.int .i64 o) ∧ W.cell? ⟨w.heap.size, 1, none⟩ = some (.int .i64 s)) (exact HC8.out _ (by first | assumption | exact Below.refl _ _ | exact (Below.refl _ _).drew | exact alloc_below _ _ | exact (alloc_below _ _).drew | exact ba.alloc ba.size _ | exact (ba.alloc ba.size _).drew))
        (first
        | (refine step_kapp rfl _ _ rfl W0.heap.size vb (.slice A3 N3 C3) (l.take k ++ [(o, s)]) (l.drop k) rfl rfl (by exact hrb) (HV3.out _ (by exact bb)) (by simp; omega) (by exact bb.size) ?_; intro vc wc hrc hgc; have bc : Below W0.heap.size W0 wc := bb.trans (below_of_grown hgc bb.size (fun g hg => (World.ownsRow.lt hrb g hg).1)))
        | (refine step_kapp rfl _ _ rfl W0.heap.size va (.slice (some ⟨W0.heap.size, 0, none⟩) 1 1) (l.take k) [(o, s)] rfl rfl (by exact hra) (by exact krd_one ((hga.block W0.heap.size (by simp) (by intro h; cases h)).trans (Bx.new 31 W0 _))) (by simp; omega) (by exact ba.size) ?_; intro vb wb hrb hgb; have bb : Below W0.heap.size W0 wb := ba.trans (below_of_grown hgb ba.size (fun g hg => (World.ownsRow.lt hra g hg).1)))
        | (refine step_kapp rfl _ _ rfl W0.heap.size va (.slice (some ⟨wa.heap.size, 0, none⟩) 1 1) (l.take k) [(o, s)] rfl rfl (by first | exact own_below hra (alloc_below _ _) | exact own_below hra (alloc_below _ _).drew) (by exact krd_one (Bx.new 31 wa _)) (by simp; omega) (by first | exact (ba.alloc ba.size _).size | exact (ba.alloc ba.size _).drew.size) ?_; intro vb wb hrb hgb; have bb : Below W0.heap.size W0 wb := (ba.alloc ba.size _).trans (below_of_grown hgb (ba.alloc ba.size _).size (fun g hg => (World.ownsRow.lt hra g hg).1)))
        | (refine step_kapp rfl _ _ rfl W0.heap.size (.slice none 0 0) (.slice A1 N1 C1) [] (l.take k) rfl rfl (World.ownsRow_nil _ _ _ _) (HV1.out _ (by first | assumption | exact Below.refl _ _ | exact (Below.refl _ _).drew | exact alloc_below _ _ | exact (alloc_below _ _).drew)) (by simp; omega) (by first | exact Nat.le_refl _ | (simp; done)) ?_; intro va wa hra hga; have ba : Below W0.heap.size W0 wa := bn (by first | assumption | exact Below.refl _ _ | exact (Below.refl _ _).drew | exact alloc_below _ _ | exact (alloc_below _ _).drew) (below_of_grown hga (Nat.le_refl _) (by intro g hg; cases hg)))
        | fail)
      all_goals
        go_wp2
        go_ret
        exact ⟨_, rfl, by rw [HI.out]; have h := own_mono hrc (Nat.le_trans HBB.out (Nat.le_trans HAL.out.size HSZ.out)); rwa [List.append_assoc] at h, bn HAL.out (HB8.out.trans (bc.mono HB8.out.size))⟩
end Go.Proofs.YtdjlgiinekighaaGreatDoor.P
/-
  SameKeys and OverKeys, by contract.
-/
namespace Go.Proofs.YtdjlgiinekighaaGreatDoor.P
open Go.RowKit Go.Lib

theorem cell_two_new (w : World) (a b : Value) (t : TypeId) : ∀ j u, [a, b][j]? = some u → (w.alloc (.cells #[a, b] t)).cell? ((⟨w.heap.size, 0, none⟩ : Addr).add j) = some u := by
  intro j u hj
  have hx := Bx.new t w #[a, b]
  rw [Go.WideShapes.add_plain, Nat.zero_add, hx.cell j]
  simpa using hj
set_option maxHeartbeats 4000000 in
theorem samek_c (l : List Ky) (v1 v2 : Value) (w : World) (h1 : KRd w v1 l) (h2 : KRd w v2 l) (hn : l.length ≤ 1000000) :
    Calls Tryz.prog 22 #[v1, v2] w fun e w' => e = .returned (.bool true) ∧ Below w.heap.size w w' := by
  obtain ⟨ad1, cap1, rfl, _, k1⟩ := h1
  obtain ⟨ad2, cap2, rfl, _, k2⟩ := h2
  have H1 := Lib.hid k1
  have H2 := Lib.hid k2
  clear k1 k2
  go_enter Tryz.func22, Tryz.ntmps22
  go_wp2
  go_loopw [5] (fun v5 wr => ∃ k q : Nat, k ≤ l.length ∧ v5 = .int .i64 (k : Int) ∧ wr = w.drewN q) (fun v5 _ => l.length - (intOf v5).toNat)
  case atStart => exact ⟨0, 0, by omega, rfl, rfl⟩
  case round =>
    obtain ⟨k, q, hk, rfl, rfl⟩ := hrel
    by_cases hp : k < l.length
    · obtain ⟨g1, o1, rfl, c1⟩ := H1.out (by omega)
      obtain ⟨g2, o2, rfl, c2⟩ := H2.out (by omega)
      obtain ⟨c11, c12⟩ := c1 k hp
      obtain ⟨c21, c22⟩ := c2 k hp
      clear c1 c2 H1 H2
      generalize l[k] = u at c11 c12 c21 c22
      obtain ⟨u1, u2⟩ := u
      simp only at c11 c12 c21 c22
      have q9 : ∀ W, (Op.equalIn 10000 31 (.agg #[.int .i64 u1, .int .i64 u2]) (.agg #[.int .i64 u1, .int .i64 u2])).run Tryz.prog W = .ok true W := fun W => by rw [eq_key]; simp
      go_wp2
      go_quiet (fail)
      go_wp2
      go_roundw
      case rel => exact ⟨k + 1, q + nq, hp, by go_num, rfl⟩
      case measure => simp [intOf]; omega
    · go_wp2
      go_ret
      exact ⟨rfl, below_drewN (Below.refl _ _) q⟩
end Go.Proofs.YtdjlgiinekighaaGreatDoor.P
/-
  Or of chapter 10's own answer, by contract.
-/
namespace Go.Proofs.YtdjlgiinekighaaGreatDoor.P
open Go.RowKit Go.Lib

def kyL (l : List Pv) : List Ky := l.map fun x => (x.o, x.s)
def kyLs (ls : List Lv) : List Ky := (ls.map fun y => kyL y.l).flatten
theorem kyL_ps (l : List Pv) : (ps l).map Po.k = kyL l := by simp [ps, kyL, Pv.p]
theorem kyLs_pls : ∀ ls : List Lv, (pls ls).flatten.map Po.k = kyLs ls
  | [] => rfl
  | y :: r => by
    have ih := kyLs_pls r
    simp only [pls, List.map_cons, List.flatten_cons, List.map_append, kyL_ps, kyLs] at ih ⊢
    rw [ih]
theorem kyLs_take {ls : List Lv} {i : Nat} (hi : i < ls.length) : kyLs (ls.take (i + 1)) = kyLs (ls.take i) ++ kyL ls[i].l := by
  unfold kyLs
  rw [List.take_succ_eq_append_getElem hi, List.map_append, List.flatten_append]
  simp only [List.map_cons, List.map_nil, List.flatten_cons, List.flatten_nil, List.append_nil]
theorem into_len (l : List Ky) (k : Ky) : (into l k).length ≤ l.length + 1 := by
  unfold into
  split
  · omega
  · have h := congrArg List.length (List.takeWhile_append_dropWhile (p := fun x => kLt x k) (l := l))
    rw [List.length_append] at h ⊢
    rw [List.length_cons]
    omega
theorem fold_len : ∀ (m l : List Ky), (m.foldl into l).length ≤ l.length + m.length
  | [], l => by simp
  | a :: m, l => by
    have h1 := fold_len m (into l a)
    have h2 := into_len l a
    simp only [List.foldl_cons, List.length_cons]
    omega
theorem orK_no {ls : List (List Po)} (h : allMay ls = false) : orK ls = [] := by unfold orK; rw [h]; rfl
theorem orK_yes {ls : List Lv} (h : allMay (pls ls) = true) : orK (pls ls) = (kyLs ls).foldl into [] := by unfold orK; rw [if_pos h, kyLs_pls]
end Go.Proofs.YtdjlgiinekighaaGreatDoor.P
/-
  And of chapter 10's own answer, by contract.
-/
namespace Go.Proofs.YtdjlgiinekighaaGreatDoor.P
open Go.RowKit Go.Lib

theorem fnd_has (l : List Pv) (o s : Int) : decide (0 ≤ fndI 0 l o s) = hasK (ps l) (o, s) := by
  rcases fndI_spec l 0 o s with ⟨h1, h2⟩ | ⟨j, hj, h1, h2, _⟩
  · have h3 : hasK (ps l) (o, s) = false := by
      cases h : hasK (ps l) (o, s) with
      | false => rfl
      | true =>
        rw [hasK_iff, ps, List.map_map] at h
        obtain ⟨x, hx, e⟩ := List.mem_map.1 h
        exact absurd e (h2 x hx)
    rw [h1, h3]
    decide
  · have h3 : hasK (ps l) (o, s) = true := by
      rw [hasK_iff, ps, List.map_map]
      exact List.mem_map.2 ⟨l[j], List.getElem_mem hj, h2⟩
    rw [h1, h3]
    simp
def inAll (ls : List Lv) (x : Pv) : Bool := (pls ls).all fun m => hasK m (x.o, x.s)
def andL (ls : List Lv) (l : List Pv) : List Ky := kyL (l.filter (inAll ls))
theorem andL_take {ls : List Lv} {l : List Pv} {i : Nat} (hi : i < l.length) : andL ls (l.take (i + 1)) = if inAll ls l[i] then andL ls (l.take i) ++ [(l[i].o, l[i].s)] else andL ls (l.take i) := by
  unfold andL kyL
  rw [List.take_succ_eq_append_getElem hi, List.filter_append, List.map_append]
  cases h : inAll ls l[i] with
  | true => rw [List.filter_cons_of_pos h]; rfl
  | false => rw [List.filter_cons_of_neg (by rw [h]; simp)]; simp
theorem andL_len (ls : List Lv) (l : List Pv) : (andL ls l).length ≤ l.length := by
  unfold andL kyL
  rw [List.length_map]
  exact List.length_filter_le _ _
theorem andK_andL (y : Lv) (r : List Lv) (h : allMay (pls (y :: r)) = true) : andK (pls (y :: r)) = andL (y :: r) y.l := by
  have e : pls (y :: r) = ps y.l :: pls r := rfl
  rw [e] at h ⊢
  rw [andK_cons, if_pos h]
  unfold andL kyL inAll
  rw [e]
  unfold ps
  rw [List.filter_map, List.map_map]
  rfl
theorem andK_no {ls : List (List Po)} (h : allMay ls = false) : andK ls = [] := by
  cases ls with
  | nil => rfl
  | cons l r => rw [andK_cons, h]; rfl
end Go.Proofs.YtdjlgiinekighaaGreatDoor.P
/-
  GreatPosts, SamePosts, by contract.
-/
namespace Go.Proofs.YtdjlgiinekighaaGreatDoor.P
open Go.RowKit Go.Lib

/-- What is gone through. -/
def small (ls : List Lv) (most : Nat) : Prop := ls.length ≤ most ∧ ∀ y ∈ ls, y.l.length ≤ 40 ∧ ∀ x ∈ y.l, x.ns.length ≤ 30
def greatT (ls : List Lv) (most : Nat) (w : World) (e : Ending) (w' : World) : Prop := ∃ b : Bool, e = .returned (.bool b) ∧ w = w' ∧ (b = false → small ls most)
theorem mem_of_lt {α : Type} {P : α → Prop} {l : List α} {k : Nat} (hk : l.length ≤ k) (h : ∀ t (ht : t < l.length), t < k → P l[t]) : ∀ x ∈ l, P x := fun x hx => by
  obtain ⟨t, ht, rfl⟩ := List.getElem_of_mem hx
  exact h t ht (by omega)
end Go.Proofs.YtdjlgiinekighaaGreatDoor.P
/-
  SamePosts, by contract.
-/
namespace Go.Proofs.YtdjlgiinekighaaGreatDoor.P
open Go.RowKit Go.Lib

theorem sameB_self (l : List Int) : sameB l l = true := (sameB_iff l l).2 rfl
set_option maxHeartbeats 8000000 in
theorem samep_c (l m : List Pv) (v1 v2 : Value) (w : World) (h1 : PRd w v1 l) (h2 : PRd w v2 m) (he : ps l = ps m) (hn : l.length ≤ 1000000) (hns : ∀ x ∈ l, x.ns.length ≤ 1000000) :
    Calls Tryz.prog 17 #[v1, v2] w fun e w' => e = .returned (.bool true) ∧ Below w.heap.size w w' := by
  have hlen : m.length = l.length := by have := congrArg List.length he; simp only [ps, List.length_map] at this; exact this.symm
  have HE := Lib.hid he
  have HNS := Lib.hid hns
  have HP1 := Lib.hid h1
  have HP2 := Lib.hid h2
  obtain ⟨ad1, cap1, rfl, _, _⟩ := h1
  obtain ⟨ad2, cap2, rfl, _, _⟩ := h2
  rw [hlen] at HP2 ⊢
  have HLN := Lib.hid hlen
  clear he hns hlen
  go_enter Tryz.func17, Tryz.ntmps17
  go_wp2
  go_loopw [5] (fun v5 wr => ∃ k : Nat, k ≤ l.length ∧ v5 = .int .i64 (k : Int) ∧ Hid (Below w.heap.size w wr)) (fun v5 _ => l.length - (intOf v5).toNat)
  case atStart => exact ⟨0, by omega, rfl, Lib.hid (Below.refl _ _)⟩
  case round =>
    obtain ⟨k, hk, rfl, HB⟩ := hrel
    by_cases hp : k < l.length
    · have hpm : k < m.length := by have := HLN.out; omega
      obtain ⟨ad1', cap1', e1, _, c1⟩ := HP1.out.below HB.out
      simp only [Value.slice.injEq, true_and] at e1
      obtain ⟨rfl, rfl⟩ := e1
      obtain ⟨ad2', cap2', e2, _, c2⟩ := HP2.out.below HB.out
      simp only [Value.slice.injEq] at e2
      obtain ⟨rfl, e9, rfl⟩ := e2
      clear e9
      obtain ⟨g1, o1, rfl, d1⟩ := c1 (by omega)
      obtain ⟨g2, o2, rfl, d2⟩ := c2 (by omega)
      have a1 := d1 k hp
      have a2 := d2 k hpm
      have hd : (l[k]).p = (m[k]).p := by
        have h3 := congrArg (fun z : List Po => z[k]?) HE.out
        simpa [ps, hp, hpm] using h3
      have hn1 := HNS.out _ (List.getElem_mem hp)
      have HP := Lib.hid hp
      generalize l[k] = X at a1 hd hn1
      generalize m[k] = Y at a2 hd
      obtain ⟨xo, xs, xa, xn⟩ := X
      obtain ⟨yo, ys, ya, yn⟩ := Y
      simp only [Pv.p, Po.mk.injEq, Prod.mk.injEq] at hd
      obtain ⟨⟨rfl, rfl⟩, rfl⟩ := hd
      simp only at hn1
      have HA1 := Lib.hid a1
      have HA2 := Lib.hid a2
      have q : ∀ W, (Op.equalIn 10000 31 (.agg #[.int .i64 xo, .int .i64 xs]) (.agg #[.int .i64 xo, .int .i64 xs])).run Tryz.prog W = .ok true W := fun W => by rw [eq_key]; simp
      have CS : Hid (∀ W, Below wr.heap.size wr W → Calls Tryz.prog 37 #[xa, ya] W fun e w' => e = .returned (.bool true) ∧ Below W.heap.size W w') := Lib.hid (fun W hW => by
        have h := same_c xn xn xa ya W ((HA1.out.nl).below hW) ((HA2.out.nl).below hW) hn1
        rwa [sameB_self] at h)
      have HS : Hid (∀ W, Below wr.heap.size wr W → W.cell? ⟨g1, o1 + k * 3, none⟩ = some (.int .i64 xo) ∧ W.cell? ⟨g1, o1 + k * 3 + 1, none⟩ = some (.int .i64 xs) ∧ W.cell? ⟨g1, o1 + k * 3 + 2, none⟩ = some xa ∧ W.cell? ⟨g2, o2 + k * 3, none⟩ = some (.int .i64 xo) ∧ W.cell? ⟨g2, o2 + k * 3 + 1, none⟩ = some (.int .i64 xs) ∧ W.cell? ⟨g2, o2 + k * 3 + 2, none⟩ = some ya) := Lib.hid (fun W hb => ⟨(HA1.out.below hb).c0, (HA1.out.below hb).c1, (HA1.out.below hb).c2, (HA2.out.below hb).c0, (HA2.out.below hb).c1, (HA2.out.below hb).c2⟩)
      clear c1 c2 d1 d2 a1 a2
      go_wp2_with fail
      go_region_held3 (fun W => W.cell? ⟨g1, o1 + k * 3, none⟩ = some (.int .i64 xo) ∧ W.cell? ⟨g1, o1 + k * 3 + 1, none⟩ = some (.int .i64 xs) ∧ W.cell? ⟨g1, o1 + k * 3 + 2, none⟩ = some xa ∧ W.cell? ⟨g2, o2 + k * 3, none⟩ = some (.int .i64 xo) ∧ W.cell? ⟨g2, o2 + k * 3 + 1, none⟩ = some (.int .i64 xs) ∧ W.cell? ⟨g2, o2 + k * 3 + 2, none⟩ = some ya) (exact HS.out _ (by first | assumption | exact (Below.refl _ _).drew | exact Below.refl _ _))
        (first
        | (go_at_call 37; refine (CS.out _ (by first | assumption | exact (Below.refl _ _).drew | exact Below.refl _ _)).mono ?_; rintro e w5 ⟨rfl, b5⟩; have b5' : Below wr.heap.size wr w5 := bn (by first | assumption | exact (Below.refl _ _).drew | exact Below.refl _ _) b5; clear b5)
        | fail)
      have HB5 := Lib.hid (bn HB.out b5')
      clear b5' HS CS
      go_wp2
      go_roundw
      case rel => exact ⟨k + 1, HP.out, by go_num, HB5⟩
      case measure => have := HP.out; simp [intOf]; omega
    · go_wp2
      go_ret
      exact ⟨rfl, HB.out⟩
end Go.Proofs.YtdjlgiinekighaaGreatDoor.P
/-
  Rows of Posts of one's own with their places; OverPosts, by contract.
-/
namespace Go.Proofs.YtdjlgiinekighaaGreatDoor.P
open Go.RowKit Go.Lib

theorem Bx.soft {T : TypeId} {w : World} {g : Nat} {cs : Array Value} (h : Bx T w g cs) (k : Nat) : w.frozen? ⟨g, k, none⟩ = false := by
  unfold Bx at h
  simp [World.frozen?, h]
theorem Bx.far {T : TypeId} {w w' : World} {g : Nat} {r : Option Nat} {cs : Array Value} (h : Bx T w g cs) (hg : w.grownBy w' r) (hne : some g ≠ r) : Bx T w' g cs := (hg.block g h.lt hne).trans h
theorem Bx.set {T : TypeId} {w : World} {g : Nat} {cs : Array Value} (h : Bx T w g cs) (k : Nat) (u : Value) : Bx T (w.setCell ⟨g, k, none⟩ u) g (cs.setIfInBounds k u) := by
  unfold Bx at h ⊢
  simp [World.setCell, Array.getElem?_modify, h]
/-- The cells of Posts. -/
def csP : List Pv → List Value
  | [] => []
  | x :: r => .int .i64 x.o :: .int .i64 x.s :: x.a :: csP r
theorem csP_len : ∀ l : List Pv, (csP l).length = l.length * 3
  | [] => rfl
  | x :: r => by simp only [csP, List.length_cons, csP_len r]; omega
theorem csP_app : ∀ l m : List Pv, csP (l ++ m) = csP l ++ csP m
  | [], _ => rfl
  | x :: r, m => by simp only [csP, List.cons_append, csP_app r m]
theorem csP_at : ∀ (l : List Pv) (k : Nat) (hk : k < l.length), (csP l)[k * 3]? = some (.int .i64 l[k].o) ∧ (csP l)[k * 3 + 1]? = some (.int .i64 l[k].s) ∧ (csP l)[k * 3 + 2]? = some l[k].a
  | a :: r, 0, _ => ⟨rfl, rfl, rfl⟩
  | a :: r, k + 1, hk => by
    have h := csP_at r k (by simpa using hk)
    rw [show (k + 1) * 3 = k * 3 + 1 + 1 + 1 by omega]
    simpa [csP] using h
def PRow (w : World) (B : Nat) (v : Value) (l : List Pv) : Prop := w.ownsRow B 66 3 v l.length (csP l)
theorem PRow.below {w w' : World} {B : Nat} {v : Value} {l : List Pv} (h : PRow w B v l) (hb : Below w.heap.size w w') : PRow w' B v l := own_below h hb
theorem PRow.nil (w : World) (B : Nat) : PRow w B (.slice none 0 0) [] := World.ownsRow_nil _ _ _ _
/-- A row of Posts of one's own, whose places can be read. -/
theorem PRow.rd {w : World} {B : Nat} {v : Value} {l : List Pv} (h : PRow w B v l) (hl : ∀ x ∈ l, Nl w x.a x.ns) : PRd w v l := by
  rcases h.2 with ⟨rfl, h0⟩ | ⟨g, cap, cur, rfl, _, hh, hn, _, hsz, htake⟩
  · exact ⟨none, 0, by rw [h0], by omega, fun h => by omega⟩
  · refine ⟨_, cap, rfl, hn, fun _ => ⟨g, 0, rfl, fun k hk => ?_⟩⟩
    obtain ⟨c0, c1, c2⟩ := csP_at l k hk
    have f : ∀ t, t < l.length * 3 → w.cell? ⟨g, t, none⟩ = (csP l)[t]? := fun t ht => by
      rw [cell_of_row w g t _ _ _ hh, ← htake, List.getElem?_take_of_lt ht, Array.getElem?_toList]
    rw [Nat.zero_add]
    exact ⟨(f _ (by omega)).trans c0, (f _ (by omega)).trans c1, (f _ (by omega)).trans c2, hl _ (List.getElem_mem hk)⟩
def apart (a b : Value) : Prop := ∀ g, a.ownBlock = some g → b.ownBlock ≠ some g
/-- With its places, all one's own. -/
structure POwn (w : World) (B : Nat) (v : Value) (l : List Pv) : Prop where
  row : PRow w B v l
  rows : ∀ x ∈ l, Row w B x.a x.ns
  pw : (l.map Pv.a).Pairwise apart
theorem POwn.below {w w' : World} {B : Nat} {v : Value} {l : List Pv} (h : POwn w B v l) (hb : Below w.heap.size w w') : POwn w' B v l := ⟨h.row.below hb, fun x hx => (h.rows x hx).below hb, h.pw⟩
theorem POwn.rd {w : World} {B : Nat} {v : Value} {l : List Pv} (h : POwn w B v l) : PRd w v l := h.row.rd fun x hx => (h.rows x hx).nl
theorem tag_bx {w : World} {B g : Nat} {cs : Array Value} {a : Value} {l : List Int} (hx : Bx 66 w g cs) (ha : Row w B a l) : a.ownBlock ≠ some g := fun hg' => by
  rcases ha.2 with ⟨rfl, _⟩ | ⟨g2, cap', cur', rfl, _, h2, _⟩
  · cases hg'
  · simp only [Value.ownBlock, Option.some.injEq] at hg'
    subst hg'
    unfold Bx at hx
    rw [hx] at h2
    simp only [Option.some.injEq, Obj.cells.injEq] at h2
    exact absurd h2.2.1 (by decide)
def set3 (w : World) (g o : Nat) (a b c : Value) : World := ((w.setCell ⟨g, o, none⟩ a).setCell ⟨g, o + 1, none⟩ b).setCell ⟨g, o + 2, none⟩ c
theorem below_set3 {W w : World} {B g : Nat} (h : Below B W w) (hg : B ≤ g) (o : Nat) (a b c : Value) : Below B W (set3 w g o a b c) :=
  ((h.setCell hg _).setCell hg _).setCell hg _
theorem heap_set3 (w : World) (g o : Nat) (a b c : Value) (p : Nat) (hp : p ≠ g) : (set3 w g o a b c).heap[p]? = w.heap[p]? := by
  unfold set3
  simp only [Below.heap_setCell _ _ _ p (show p ≠ (⟨g, _, none⟩ : Addr).block from hp)]
theorem grown_set3 (w : World) (g o : Nat) (a b c : Value) : w.grownBy (set3 w g o a b c) (some g) := by
  have h := below_set3 (Below.refl 0 w) (Nat.zero_le g) o a b c
  exact ⟨h.os, h.tape, h.output, h.size, fun p _ hne => heap_set3 w g o a b c p (by intro e; exact hne (by rw [e]))⟩
theorem row_set3 {w : World} {B g o : Nat} {v : Value} {l : List Int} (h : Row w B v l) (hg : v.ownBlock ≠ some g) (a b c : Value) : Row (set3 w g o a b c) B v l :=
  h.far (grown_set3 w g o a b c) (by rintro g' hg' g'' hg'' rfl; cases hg'; exact hg hg'')
structure OvAt (w : World) (B g : Nat) (l : List Pv) (k : Nat) : Prop where
  cells : ∃ cs, Bx 66 w g cs ∧ l.length * 3 ≤ cs.size ∧ ∀ j (hj : j < l.length), k ≤ j → cs[j * 3 + 2]? = some l[j].a
  rows : ∀ x ∈ l.drop k, Row w B x.a x.ns
  pw : ((l.drop k).map Pv.a).Pairwise apart
theorem bx_set3At {w : World} {g o : Nat} {cs : Array Value} (h : Bx 66 w g cs) (a b c : Value) : ∃ ds, Bx 66 (set3 w g o a b c) g ds ∧ ds.size = cs.size ∧ ∀ k, (k < o ∨ o + 3 ≤ k) → ds[k]? = cs[k]? := by
  refine ⟨_, ((h.set _ a).set _ b).set _ c, by simp, fun k hk => ?_⟩
  rw [Array.getElem?_setIfInBounds_ne (by omega), Array.getElem?_setIfInBounds_ne (by omega), Array.getElem?_setIfInBounds_ne (by omega)]
theorem POwn.ov {w : World} {B g cap : Nat} {l : List Pv} (h : POwn w B (.slice (some ⟨g, 0, none⟩) l.length cap) l) : OvAt w B g l 0 ∧ B ≤ g := by
  rcases h.row.2 with ⟨h1, _⟩ | ⟨g', cap', cur, h1, hg, hh, hn, _, hsz, htake⟩
  · cases h1
  · simp only [Value.slice.injEq, Option.some.injEq, Addr.mk.injEq] at h1
    obtain ⟨⟨rfl, _, _⟩, _, rfl⟩ := h1
    refine ⟨⟨⟨cur, hh, by rw [hsz]; exact Nat.mul_le_mul_right 3 hn, fun j hj _ => ?_⟩, fun x hx => h.rows x (by simpa using hx), by simpa using h.pw⟩, hg⟩
    obtain ⟨_, _, c2⟩ := csP_at l j hj
    have f : ∀ t, t < l.length * 3 → cur[t]? = (csP l)[t]? := fun t ht => by
      rw [← htake, List.getElem?_take_of_lt ht, Array.getElem?_toList]
    exact (f _ (by omega)).trans c2
set_option maxHeartbeats 8000000 in
theorem overp_c (l : List Pv) (v : Value) (w : World) (B : Nat) (h : POwn w B v l) (hn : l.length ≤ 1000000) (hv : ∀ x ∈ l, x.ns.length ≤ 1000000) (hB : B ≤ w.heap.size) :
    Calls Tryz.prog 19 #[v] w fun e w' => e = .returned (.tuple #[]) ∧ Below B w w' := by
  have HV := Lib.hid hv
  rcases h.row.2 with ⟨rfl, h0⟩ | ⟨g, cap, cur, rfl, hg, hh, hnn, _⟩
  · go_enter Tryz.func19, Tryz.ntmps19
    go_wp2
    go_loopw [2] (fun v2 wr => v2 = .int .i64 0 ∧ wr = w) (fun _ _ => 0)
    case atStart => exact ⟨rfl, rfl⟩
    case round =>
      obtain ⟨rfl, rfl⟩ := hrel
      go_wp2
      go_end0
      exact ⟨rfl, Below.refl _ _⟩
  · obtain ⟨ho, hBg⟩ := h.ov
    have HO := Lib.hid ho
    clear h ho hv hh hg hnn
    go_enter Tryz.func19, Tryz.ntmps19
    go_wp2
    go_loopw [2] (fun v2 wr => ∃ k : Nat, k ≤ l.length ∧ v2 = .int .i64 (k : Int) ∧ Hid (OvAt wr B g l k) ∧ Hid (Below B w wr)) (fun v2 _ => l.length - (RowKit.intOf v2).toNat)
    case atStart => exact ⟨0, by omega, rfl, HO, Lib.hid (Below.refl _ _)⟩
    case round =>
      obtain ⟨k, hk, rfl, HK, HB⟩ := hrel
      by_cases hp : k < l.length
      · obtain ⟨cs, hx, hsz, hat⟩ := HK.out.cells
        have hrows := HK.out.rows
        have hpw := HK.out.pw
        rw [List.drop_eq_getElem_cons hp] at hrows hpw
        have ca := hat k hp (Nat.le_refl _)
        have hv1 := HV.out l[k] (List.getElem_mem hp)
        have ra := hrows l[k] (List.mem_cons_self ..)
        have rest : ∀ x ∈ l.drop (k + 1), Row wr B x.a x.ns := fun x hx => hrows x (List.mem_cons_of_mem _ hx)
        simp only [List.map_cons, List.pairwise_cons] at hpw
        obtain ⟨pa, pr⟩ := hpw
        have HAT : Hid (∀ j (hj : j < l.length), k + 1 ≤ j → cs[j * 3 + 2]? = some l[j].a) := Lib.hid (fun j hj hkj => hat j hj (by omega))
        generalize l[k] = X at ca hv1 ra pa
        obtain ⟨xo, xs, A, ns⟩ := X
        simp only at ca hv1 ra pa
        have C1 := Lib.hid (over_c ns A wr B ra hv1 (Nat.le_trans hB HB.out.size))
        have HXr := Lib.hid hx
        have HRA := Lib.hid ra
        have HREST := Lib.hid rest
        have HPA := Lib.hid pa
        have HPR := Lib.hid pr
        have HSZ := Lib.hid hsz
        have c1 : wr.cell? ⟨g, k * 3 + 2, none⟩ = some A := (hx.cell _).trans ca
        have hgl := hx.lt
        obtain ⟨adA, capA, rfl, _⟩ := ra.nl.form
        have hpi : decide ((k : Int) < (l.length : Int)) = true := by simpa using hp
        clear hat hrows pa pr ra rest hx hsz
        go_wp2_with fail
        refine C1.out.mono ?_
        rintro e w3 ⟨rfl, g3⟩
        have hx3 := HXr.out.far g3 (fun e => tag_bx HXr.out HRA.out e.symm)
        have hb3 : Below B w w3 := HB.out.trans (below_of_grown g3 (Nat.le_trans hB HB.out.size) (fun i hi => (World.ownsRow.lt HRA.out i hi).1))
        have rest3 : ∀ x ∈ l.drop (k + 1), Row w3 B x.a x.ns := fun x hx =>
          (HREST.out x hx).far g3 (by rintro i hi i' hi' rfl; exact HPA.out x.a (List.mem_map_of_mem hx) i hi hi')
        have hsz := HSZ.out
        have ex : ∀ t, t < 3 → ∃ u, w3.cell? ⟨g, k * 3 + t, none⟩ = some u := fun t ht => ⟨cs[k * 3 + t]'(by omega), (hx3.cell _).trans (Array.getElem?_eq_getElem (by omega))⟩
        obtain ⟨y0, e0⟩ := ex 0 (by omega)
        rw [Nat.add_zero] at e0
        obtain ⟨y1, e1⟩ := ex 1 (by omega)
        obtain ⟨y2, e2⟩ := ex 2 (by omega)
        have s0 := hx3.soft (k * 3)
        have s1 := hx3.soft (k * 3 + 1)
        have s2 := hx3.soft (k * 3 + 2)
        have hgl3 := hx3.lt
        have HX3 := Lib.hid hx3
        have HB3 := Lib.hid hb3
        have HREST3 := Lib.hid rest3
        clear g3 hx3 hb3 rest3 ex c1 hsz
        have fin : Hid (OvAt (set3 w3 g (k * 3) (.int .i64 (-9)) (.int .i64 0) (.slice none 0 0)) B g l (k + 1)) := Lib.hid (by
          obtain ⟨ds, hd1, hd2, hd3⟩ := bx_set3At (o := k * 3) HX3.out (.int .i64 (-9)) (.int .i64 0) (.slice none 0 0)
          refine ⟨⟨ds, hd1, by rw [hd2]; exact HSZ.out, fun j hj hkj => ?_⟩, fun x hx => row_set3 (HREST3.out x hx) (tag_bx HX3.out (HREST3.out x hx)) _ _ _, HPR.out⟩
          rw [hd3 _ (.inr (by omega))]
          exact HAT.out j hj hkj)
        have finb : Hid (Below B w (set3 w3 g (k * 3) (.int .i64 (-9)) (.int .i64 0) (.slice none 0 0))) := Lib.hid (below_set3 HB3.out hBg _ _ _ _)
        go_wp2
        go_roundw
        case rel => exact ⟨k + 1, hp, by go_num, fin, finb⟩
        case measure => simp [RowKit.intOf]; omega
      · go_wp2
        go_end0
        exact ⟨rfl, HB.out⟩
end Go.Proofs.YtdjlgiinekighaaGreatDoor.P
/-
  Rows of Posts of one's own: append; Drop of chapter 10's own answer, by contract.
-/
namespace Go.Proofs.YtdjlgiinekighaaGreatDoor.P
open Go.RowKit Go.Lib

theorem nl_one {w : World} {v : Value} {l : List Int} (h : Nl w v l) : v.oneCell' = true := by
  obtain ⟨ad, cap, rfl, _⟩ := h.form
  rfl
theorem PRd.nls {w : World} {v : Value} {l : List Pv} (h : PRd w v l) : ∀ x ∈ l, Nl w x.a x.ns := fun x hx => by
  obtain ⟨ad, cap, _, _, h2⟩ := h
  obtain ⟨k, hk, rfl⟩ := List.getElem_of_mem hx
  obtain ⟨b, o, _, hs⟩ := h2 (by omega)
  exact (hs k hk).nl
theorem csP_one {w : World} {v : Value} (l : List Pv) (h : PRd w v l) : ∀ u ∈ csP l, u.oneCell' = true := by
  have hn := h.nls
  clear h
  induction l with
  | nil => intro u hu; cases hu
  | cons x r ih =>
    intro u hu
    simp only [csP, List.mem_cons] at hu
    rcases hu with rfl | rfl | rfl | hu
    · rfl
    · rfl
    · exact nl_one (hn x (List.mem_cons_self ..))
    · exact ih (fun y hy => hn y (List.mem_cons_of_mem _ hy)) u hu
/-- append of Posts to a row of one's own. -/
theorem papp_run (l m : List Pv) (v u : Value) (w : World) (ty : TypeId) (B : Nat) (h : PRow w B v l) (hu : PRd w u m) (hn : l.length + m.length ≤ 1000000) (hB : B ≤ w.heap.size) :
    ∃ A C w1, (Builtin.append_ #[42, 42] ty #[v, u]).run Tryz.prog w = .ok (.slice A (l ++ m).length C) w1 ∧ PRow w1 B (.slice A (l ++ m).length C) (l ++ m) ∧ w.grownBy w1 v.ownBlock ∧ ((Value.slice A (l ++ m).length C).ownBlock = v.ownBlock ∨ (Value.slice A (l ++ m).length C).ownBlock = some w.heap.size) := by
  obtain ⟨i0, hi, hz0, hz1, hz2⟩ := info_parts postInfo
  obtain ⟨ad, cap, rfl, hcap, h3⟩ := id hu
  have fin : ∀ a : Addr, (∀ j x, (csP m)[j]? = some x → w.cell? (a.add j) = some x) → ∃ A C w1, (Builtin.append_ #[42, 42] ty #[v, .slice (some a) m.length cap]).run Tryz.prog w = .ok (.slice A (l ++ m).length C) w1 ∧ PRow w1 B (.slice A (l ++ m).length C) (l ++ m) ∧ w.grownBy w1 v.ownBlock ∧ ((Value.slice A (l ++ m).length C).ownBlock = v.ownBlock ∨ (Value.slice A (l ++ m).length C).ownBlock = some w.heap.size) := fun a ha => by
    obtain ⟨v', w', h1, h2, h4, _, h5⟩ := run_append_own_at (P := Tryz.prog) w B 42 ty 66 i0 _ 3 40 Tryz.underlying42 hi hz0 hz1 hz2 rfl (by decide) v l.length (csP l) h a m.length cap (csP m) (csP_len m) ha (csP_one m hu) (by unfold maxLen; omega) (by omega) hB
    have hr : PRow w' B v' (l ++ m) := by
      unfold PRow
      rw [List.length_append, csP_app]
      exact h2
    obtain ⟨A, C, rfl, _⟩ := own_form hr
    exact ⟨A, C, w', h1, hr, h4, h5⟩
  cases m with
  | nil =>
    cases ad with
    | some a => exact fin a (fun j x hj => by simp [csP] at hj)
    | none =>
      obtain ⟨A, C, rfl, hc⟩ := own_form h
      refine ⟨A, C, w, ?_, ?_, grown_refl _ _, .inl ?_⟩
      · simp only [List.append_nil]
        cases A <;> simp [Builtin.append_, go_sem, run_underlying Tryz.underlying42, hc]
      · simp only [List.append_nil]
        exact h
      · simp only [List.append_nil]
  | cons k r =>
    obtain ⟨b, o, rfl, hat⟩ := h3 (by simp)
    refine fin ⟨b, o, none⟩ (fun j x hj => ?_)
    have hjl : j < (csP (k :: r)).length := by
      rcases Nat.lt_or_ge j (csP (k :: r)).length with h | h
      · exact h
      · rw [List.getElem?_eq_none h] at hj; cases hj
    rw [csP_len] at hjl
    rw [Go.WideShapes.add_plain]
    obtain ⟨t, rfl | rfl | rfl⟩ : ∃ t, j = t * 3 ∨ j = t * 3 + 1 ∨ j = t * 3 + 2 := ⟨j / 3, by omega⟩
    · rw [(csP_at (k :: r) t (by omega)).1] at hj
      rw [← Option.some.inj hj]
      exact (hat t (by omega)).c0
    · rw [(csP_at (k :: r) t (by omega)).2.1] at hj
      rw [← Option.some.inj hj]
      exact (hat t (by omega)).c1
    · rw [(csP_at (k :: r) t (by omega)).2.2] at hj
      rw [← Option.some.inj hj]
      exact (hat t (by omega)).c2
/-- One Post just laid. -/
theorem prd_one {w : World} {B : Nat} {x : Pv} (h : Bx 66 w B #[.int .i64 x.o, .int .i64 x.s, x.a]) (hn : Nl w x.a x.ns) : PRd w (.slice (some ⟨B, 0, none⟩) 1 1) [x] := by
  refine ⟨_, 1, rfl, by simp, fun _ => ⟨B, 0, rfl, fun k hk => ?_⟩⟩
  match k, hk with
  | 0, _ => exact ⟨h.cell 0, h.cell 1, h.cell 2, hn⟩
/-- One Post more behind a row of one's own. -/
theorem PRow.push {w : World} {B : Nat} {v : Value} {l : List Pv} (h : PRow w B v l) (o s : Int) (a : Value) (ns : List Int) (hx : Nl w a ns) (hn : l.length ≤ 100000) (hB : B ≤ w.heap.size) (ty : TypeId) :
    ∃ A C w1, (Builtin.append_ #[42, 42] ty #[v, .slice (some ⟨w.heap.size, 0, none⟩) 1 1]).run Tryz.prog (w.alloc (.cells #[.int .i64 o, .int .i64 s, a] 66)) = .ok (.slice A (l.length + 1) C) w1 ∧ PRow w1 B (.slice A (l.length + 1) C) (l ++ [⟨o, s, a, ns⟩]) ∧ Below B w w1 := by
  have hal := alloc_below w (.cells #[.int .i64 o, .int .i64 s, a] 66)
  obtain ⟨A, C, w1, h1, h2, h3, _⟩ := papp_run l [⟨o, s, a, ns⟩] v _ _ ty B (h.below hal) (prd_one (x := ⟨o, s, a, ns⟩) (Bx.new 66 w _) (hx.below hal)) (by simp; omega) (Nat.le_trans hB hal.size)
  simp only [List.length_append, List.length_singleton] at h1 h2
  refine ⟨A, C, w1, h1, h2, ?_⟩
  have hb := below_of_grown h3 (Nat.le_trans hB hal.size) (fun g hg => (World.ownsRow.lt h g hg).1)
  exact (hal.mono hB).trans hb
def dropV (l : List Pv) (o s : Int) : List Pv := if mayL (ps l) then l.filter (fun x => !(x.o == o && x.s == s)) else []
theorem dropV_ps (l : List Pv) (o s : Int) : ps (dropV l o s) = dropP (ps l) (o, s) := by
  unfold dropV dropP
  split
  · unfold ps
    rw [List.filter_map]
    rfl
  · rfl
def postsT (l : List Pv) (w : World) (e : Ending) (w' : World) : Prop := ∃ v, e = .returned v ∧ PRow w' w.heap.size v l ∧ Below w.heap.size w w'
set_option maxHeartbeats 8000000 in
theorem drop_c (l : List Pv) (o s : Int) (v : Value) (w : World) (h : PRd w v l) (hn : l.length ≤ 10000) (hm : ∀ x ∈ l, x.ns.length ≤ 1000000) :
    Calls Tryz.prog 61 #[v, .agg #[.int .i64 o, .int .i64 s]] w (postsT (dropV l o s) w) := by
  have HP := Lib.hid h
  obtain ⟨ad, cap, rfl, _, _⟩ := h
  have hal := alloc_below w (.cells #[.int .i64 o, .int .i64 s] 31)
  have bx := Bx.new 31 w #[.int .i64 o, .int .i64 s]
  obtain ⟨w1, hw1⟩ : ∃ w1, w1 = w.alloc (.cells #[.int .i64 o, .int .i64 s] 31) := ⟨_, rfl⟩
  rw [← hw1] at hal bx
  have CM := Lib.hid (may_c l _ w1 (HP.out.below hal) (by omega) hm)
  have CB := Lib.hid bx
  have HAL := Lib.hid hal
  have HW := Lib.hid hw1
  have HPP := Lib.hid (HP.out.below hal)
  clear hm hal bx hw1 HP
  cases h1 : mayL (ps l) with
  | false =>
    rw [h1] at CM
    have HO : Hid (dropV l o s = []) := Lib.hid (by unfold dropV; rw [h1]; rfl)
    clear h1
    go_enter Tryz.func61, Tryz.ntmps61
    go_wp2_with fail
    rw [← HW.out]
    refine CM.out.mono ?_
    rintro e w2 ⟨rfl, b2⟩
    have HB2 := Lib.hid (bn HAL.out b2)
    clear b2 CM
    go_wp2
    go_ret
    exact ⟨_, rfl, by rw [HO.out]; exact PRow.nil _ _, HB2.out⟩
  | true =>
    rw [h1] at CM
    have HO : Hid (dropV l o s = l.filter (fun x => !(x.o == o && x.s == s))) := Lib.hid (by unfold dropV; rw [if_pos h1])
    clear h1
    go_enter Tryz.func61, Tryz.ntmps61
    go_wp2_with fail
    rw [← HW.out]
    refine CM.out.mono ?_
    rintro e w2 ⟨rfl, b2⟩
    have HB2 := Lib.hid b2
    clear b2 CM
    go_wp2
    go_loopw [5, 6] (fun v5 v6 wr => ∃ i : Nat, i ≤ l.length ∧ v6 = .int .i64 (i : Int) ∧ Hid (PRow wr w1.heap.size v5 ((l.take i).filter (fun x => !(x.o == o && x.s == s)))) ∧ Hid (Below w1.heap.size w1 wr)) (fun _ v6 _ => l.length - (intOf v6).toNat)
    case atStart => exact ⟨0, by omega, rfl, Lib.hid (PRow.nil _ _), HB2⟩
    case round =>
      clear HB2
      obtain ⟨i, hi, rfl, HR, HB⟩ := hrel
      have cb0 := ((CB.out.below HB.out).cell 0)
      have cb1 := ((CB.out.below HB.out).cell 1)
      simp only [List.getElem?_toArray, List.getElem?_cons_succ, List.getElem?_cons_zero] at cb0 cb1
      have hgl := (CB.out.below HB.out).lt
      by_cases hp : i < l.length
      · obtain ⟨ad', cap', e2, _, c3⟩ := HPP.out.below HB.out
        simp only [Value.slice.injEq, true_and] at e2
        obtain ⟨rfl, rfl⟩ := e2
        obtain ⟨g1, o1, rfl, d1⟩ := c3 (by omega)
        have a1 := d1 i hp
        have HTK : Hid (l.take (i + 1) = l.take i ++ [l[i]]) := Lib.hid (List.take_succ_eq_append_getElem hp)
        have HP := Lib.hid hp
        generalize l[i] = y at a1 HTK
        obtain ⟨yo, ys, ya, yn⟩ := y
        have p0 := a1.c0
        have p1 := a1.c1
        have p2 := a1.c2
        simp only at p0 p1 p2
        have HA1 := Lib.hid a1
        have hgl1 := World.block_lt_of_cell? _ _ p0
        clear c3 d1 a1
        cases e1 : (yo == o && ys == s) with
        | true =>
          have q : ∀ W, (Op.equalIn 10000 31 (.agg #[.int .i64 yo, .int .i64 ys]) (.agg #[.int .i64 o, .int .i64 s])).run Tryz.prog W = .ok true W := fun W => by rw [← e1]; exact eq_key yo ys o s W
          have HF : Hid ((l.take (i + 1)).filter (fun x => !(x.o == o && x.s == s)) = (l.take i).filter (fun x => !(x.o == o && x.s == s))) := Lib.hid (by rw [HTK.out, List.filter_append, List.filter_cons_of_neg (by simp only [e1]; simp)]; simp)
          clear e1
          go_wp2_with fail
          go_quiet (fail)
          go_wp2
          go_roundw
          case rel => exact ⟨i + 1, HP.out, by go_num, Lib.hid (by rw [HF.out]; exact HR.out.below (below_drewN (Below.refl _ _) _)), Lib.hid (below_drewN HB.out _)⟩
          case measure => have := HP.out; simp [intOf]; omega
        | false =>
          have q : ∀ W, (Op.equalIn 10000 31 (.agg #[.int .i64 yo, .int .i64 ys]) (.agg #[.int .i64 o, .int .i64 s])).run Tryz.prog W = .ok false W := fun W => by rw [← e1]; exact eq_key yo ys o s W
          have HF : Hid ((l.take (i + 1)).filter (fun x => !(x.o == o && x.s == s)) = (l.take i).filter (fun x => !(x.o == o && x.s == s)) ++ [⟨yo, ys, ya, yn⟩]) := Lib.hid (by rw [HTK.out, List.filter_append, List.filter_cons_of_pos (by simp only [e1]; rfl)]; rfl)
          have HPU : Hid (∀ n, ∃ A C w5, (Builtin.append_ #[42, 42] 42 #[_, .slice (some ⟨(wr.drewN n).heap.size, 0, none⟩) 1 1]).run Tryz.prog ((wr.drewN n).alloc (.cells #[.int .i64 yo, .int .i64 ys, ya] 66)) = .ok (.slice A (((l.take i).filter (fun x => !(x.o == o && x.s == s))).length + 1) C) w5 ∧ PRow w5 w1.heap.size (.slice A (((l.take i).filter (fun x => !(x.o == o && x.s == s))).length + 1) C) ((l.take i).filter (fun x => !(x.o == o && x.s == s)) ++ [⟨yo, ys, ya, yn⟩]) ∧ Below w1.heap.size (wr.drewN n) w5) := Lib.hid (fun n => (HR.out.below (below_drewN (Below.refl _ _) n)).push yo ys ya yn (HA1.out.nl.below (below_drewN (Below.refl _ _) n)) (by have h1 := List.length_filter_le (fun x : Pv => !(x.o == o && x.s == s)) (l.take i); have h2 := List.length_take_le i l; omega) HB.out.size 42)
          clear e1
          go_wp2_with fail
          go_quiet (fail)
          obtain ⟨A, C, w5, run5, r5, b5⟩ := HPU.out nq
          obtain ⟨N, hN⟩ : ∃ N, N = ((l.take i).filter (fun x => !(x.o == o && x.s == s))).length + 1 := ⟨_, rfl⟩
          rw [← hN] at run5 r5
          clear hN
          have HR5 := Lib.hid run5
          have HK5 := Lib.hid r5
          have HB5 := Lib.hid ((below_drewN HB.out nq).trans b5)
          clear run5 r5 b5 HPU
          go_wp2_with (at_builtin; refine wpList_append_run rfl _ _ 42 rfl _ _ HR5.out ?_; clear HR5)
          go_roundw
          case rel => exact ⟨i + 1, HP.out, by go_num, Lib.hid (by rw [HF.out]; exact HK5.out), HB5⟩
          case measure => have := HP.out; simp [intOf]; omega
      · have HL : Hid ((l.take i).filter (fun x => !(x.o == o && x.s == s)) = dropV l o s) := Lib.hid (by rw [HO.out, show l.take i = l from List.take_of_length_le (by omega)])
        go_wp2
        go_ret
        exact ⟨_, rfl, by rw [← HL.out]; exact own_mono HR.out HAL.out.size, bn HAL.out HB.out⟩
end Go.Proofs.YtdjlgiinekighaaGreatDoor.P
/-
  Maps from Keys to nothing: which Keys are among them.
-/
namespace Go.Proofs.YtdjlgiinekighaaGreatDoor.P
open Go.RowKit Go.Lib Go.Maps
set_option maxRecDepth 100000

theorem laidOut : laidOutB Tryz.prog = true := by kernel_rfl
theorem rowKey : (31 : TypeId) < Tryz.prog.types.size := of_decide_eq_true (by kernel_rfl)
theorem wideKey : (match Tryz.prog.underlying 31 with | some (.array _ _) | some (.struct _) => true | _ => false) = true := by kernel_rfl
theorem lawKey : Keyed Tryz.prog 31 := Keyed.of_law (deep_law_laid laidOut (m := 2) (by omega) rowKey (by kernel_rfl) wideKey)
theorem cellsKey : Tryz.prog.cellsOf 31 = 2 := by kernel_rfl
theorem cellsInt : Tryz.prog.cellsOf 3 = 1 := by kernel_rfl
theorem keyTypeKey : Tryz.prog.keyType 31 = true := by kernel_rfl
def okKy (k : Ky) : Prop := inR k.1 ∧ inR k.2
theorem wf_in {x : Int} (h : inR x) : (Lit.int .i64 x).wf = true := by
  obtain ⟨h1, h2⟩ := h
  simp [Lit.wf, IntKind.min, IntKind.max, IntKind.signed, IntKind.bits]
  omega
theorem key_lit (k : Ky) (h : okKy k) : ∃ l, keyOf Tryz.prog 31 (.agg #[.int .i64 k.1, .int .i64 k.2]) = some l := by
  have h1 := wf_in h.1
  have h2 := wf_in h.2
  have hf : (Value.agg #[.int .i64 k.1, .int .i64 k.2]).formed Tryz.prog 31 = true := by
    simp [Value.formed, Tryz.underlying31, cellsKey]
  unfold keyOf
  simp only [Tryz.underlying31, keyTypeKey, hf, Bool.and_self, if_true]
  have hs : ∃ n, Tryz.prog.types.size = n + 1 := Nat.exists_eq_succ_of_ne_zero (Nat.ne_of_gt (Nat.lt_of_le_of_lt (Nat.zero_le _) rowKey))
  obtain ⟨n, hn⟩ := hs
  rw [hn]
  simp [Program.keyLits, Tryz.underlying31, Tryz.underlying3, cellsKey, cellsInt, Value.cells, h1, h2]
theorem agg_inj {a b : Ky} (h : Value.agg #[.int .i64 a.1, .int .i64 a.2] = .agg #[.int .i64 b.1, .int .i64 b.2]) : a = b := by
  simp only [Value.agg.injEq, Array.mk.injEq, List.cons.injEq, Value.int.injEq, true_and, and_true] at h
  exact Prod.ext h.1 h.2
/-- The map's keys are these. -/
def HasD {H : Type} (D : DataW H) (ks : List Ky) : Prop := IsMap D ∧ ∀ k l, keyOf Tryz.prog 31 (.agg #[.int .i64 k.1, .int .i64 k.2]) = some l → has D l = ks.contains k
theorem HasD.nil {H : Type} : HasD (.map [] : DataW H) [] := ⟨isMap_empty, fun k l _ => by
  simp [has]⟩
theorem HasD.put {H : Type} {D : DataW H} {ks : List Ky} (h : HasD D ks) (k : Ky) (l : Lit) (d : DataW H) (hk : keyOf Tryz.prog 31 (.agg #[.int .i64 k.1, .int .i64 k.2]) = some l) (hm : IsMap (D.put l d)) : HasD (D.put l d) (ks ++ [k]) := by
  refine ⟨hm, fun k2 l2 hk2 => ?_⟩
  by_cases e : l2 = l
  · subst e
    have : k2 = k := agg_inj (lawKey.inj hk2 hk)
    subst this
    rw [has_put_same h.1 (lawKey.key hk)]
    simp
  · rw [has_put_other e, h.2 k2 l2 hk2]
    have : k2 ≠ k := fun e2 => e (by rw [e2, hk] at hk2; exact (Option.some.inj hk2).symm)
    simp [this]
theorem ownsMap_below {H : Type} {w w' : World} {b n : Nat} {D : DataW H} (h : w.ownsMap Tryz.prog 31 unitElem b n D) (hb : Below w.heap.size w w') : w'.ownsMap Tryz.prog 31 unitElem b n D := by
  obtain ⟨es, clock, h1, r⟩ := h
  exact ⟨es, clock, (hb.block b (Array.getElem?_eq_some_iff.1 h1).1).trans h1, r⟩
end Go.Proofs.YtdjlgiinekighaaGreatDoor.P
