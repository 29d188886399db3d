/-
  Lists of numbers in memory: read, made, written over.
-/
import Derived.Test.YtgdajnjfkokmdaaProg
import Derived.Test.YtgdajnjfkokmdaaChecked
import Derived.WalkKit
import Derived.WalkMore
import Derived.BigCall
import Derived.Below
import Derived.Lib.Hide
import Derived.Deep.QuietTactic
import Derived.BigQuiet
import Derived.OwnWalk
import Derived.Laws.OwnMore
import Derived.WalkSmall
import Derived.Deep.AppendLies
import Derived.Deep.RegionHeld3
import Derived.Deep.DeepCutAuto
import Derived.Deep.OwnRows
import Derived.IntWalk
import Derived.Lib.SliceRun
import Derived.Maps.AppendAt
import Derived.BigRegion
import Derived.Deep.DeepAppendRoom
namespace Go.Proofs.Ytgdajnjfkokmdaa
open Go.RowKit Go.Lib

theorem below_drewN {B : Nat} {a w : World} (h : Below B a w) (n : Nat) : Below B a (w.drewN n) := ⟨h.os, h.tape, h.output, h.size, h.block⟩
theorem Below.next {W0 w w' : World} (h : Below W0.heap.size W0 w) (hb : Below w.heap.size w w') : Below W0.heap.size W0 w' := h.trans (hb.mono h.size)
theorem grown_refl (w : World) (r : Option Nat) : w.grownBy w r := ⟨rfl, rfl, rfl, Nat.le_refl _, fun _ _ _ => rfl⟩
theorem grown_trans {a b c : World} {r : Option Nat} (h : a.grownBy b r) (k : b.grownBy c r) : a.grownBy c r :=
  ⟨k.os.trans h.os, k.tape.trans h.tape, k.output.trans h.output, Nat.le_trans h.size k.size, fun i hi hne => (k.block i (Nat.lt_of_lt_of_le hi h.size) hne).trans (h.block i hi hne)⟩
theorem grown_below {a b : World} (h : Below a.heap.size a b) (r : Option Nat) : a.grownBy b r := ⟨h.os, h.tape, h.output, h.size, fun i hi _ => h.block i hi⟩
theorem below_of_grown {a b : World} {r : Option Nat} {B : Nat} (h : a.grownBy b r) (hB : B ≤ a.heap.size) (hg : ∀ g, r = some g → B ≤ g) : Below B a b :=
  ⟨h.os, h.tape, h.output, h.size, fun i hi => h.block i (by omega) (by intro e; have := hg i e.symm; omega)⟩
theorem grown_cell {a b : World} {r : Option Nat} (h : a.grownBy b r) {p : Addr} (hp : p.block < a.heap.size) (hne : some p.block ≠ r) : b.cell? p = a.cell? p :=
  World.cell?_of_block (h.block p.block hp hne)

/-- From offset o of block b on the numbers l lie. -/
def Nums (w : World) (b o : Nat) (l : List Int) : Prop := ∀ k (hk : k < l.length), w.cell? ⟨b, o + k, none⟩ = some (.int .i64 l[k])
theorem Nums.below {w w' : World} {b o : Nat} {l : List Int} (h : Nums w b o l) (hb : Below w.heap.size w w') : Nums w' b o l := fun k hk =>
  (hb.cell (World.block_lt_of_cell? w _ (h k hk))).trans (h k hk)
/-- The slice v holds the numbers l. -/
def Nl (w : World) (v : Value) (l : List Int) : Prop :=
  (v = .slice none 0 0 ∧ l = []) ∨ ∃ ad cap, v = .slice (some ad) l.length cap ∧ (0 < l.length → ∃ b o, ad = ⟨b, o, none⟩ ∧ Nums w b o l)
theorem Nl.below {w w' : World} {v : Value} {l : List Int} (h : Nl w v l) (hb : Below w.heap.size w w') : Nl w' v l := by
  rcases h with h | ⟨ad, cap, h1, h2⟩
  · exact .inl h
  · exact .inr ⟨ad, cap, h1, fun h0 => by obtain ⟨b, o, e, hs⟩ := h2 h0; exact ⟨b, o, e, hs.below hb⟩⟩
theorem Nl.drew {w : World} {v : Value} {l : List Int} (h : Nl w v l) (n : Nat) : Nl (w.drewN n) v l := h
theorem Nl.form {w : World} {v : Value} {l : List Int} (h : Nl w v l) : ∃ ad cap, v = .slice ad l.length cap ∧ (0 < l.length → ∃ b o, ad = some ⟨b, o, none⟩ ∧ Nums w b o l) := by
  rcases h with ⟨rfl, rfl⟩ | ⟨ad, cap, rfl, h2⟩
  · exact ⟨none, 0, rfl, fun h => by simp at h⟩
  · exact ⟨some ad, cap, rfl, fun h0 => by obtain ⟨b, o, e, hs⟩ := h2 h0; exact ⟨b, o, by rw [e], hs⟩⟩

def ints (l : List Int) : List Value := l.map (Value.int .i64)
theorem ints_len (l : List Int) : (ints l).length = l.length := List.length_map ..
theorem ints_one (l : List Int) : ∀ u ∈ ints l, u.oneCell' = true := by
  intro u hu
  obtain ⟨x, _, rfl⟩ := List.mem_map.1 hu
  rfl
theorem ints_at (l : List Int) (k : Nat) (hk : k < l.length) : (ints l)[k]? = some (.int .i64 l[k]) := by simp [ints, hk]
theorem Nums.news {w : World} {b o : Nat} {l : List Int} (h : Nums w b o l) : ∀ i u, (ints l)[i]? = some u → w.cell? ((⟨b, o, none⟩ : Addr).add i) = some u := by
  intro i u hu
  have hi : i < l.length := by have := (List.getElem?_eq_some_iff.1 hu).1; rwa [ints_len] at this
  rw [ints_at l i hi] at hu
  rw [Go.WideShapes.add_plain, h i hi, hu]

/-- The row v, of one's own from block B on, holds the numbers l. -/
def Row (w : World) (B : Nat) (v : Value) (l : List Int) : Prop := w.ownsRow B 3 1 v l.length (ints l)
theorem own_below {w w' : World} {base : Nat} {e : TypeId} {size : Nat} {v : Value} {n : Nat} {xs : List Value} (h : w.ownsRow base e size v n xs) (hb : Below w.heap.size w w') : w'.ownsRow base e size v n xs := by
  cases hv : v.ownBlock with
  | none => exact h.kept (row := none) ⟨hb.os, hb.tape, hb.output, hb.size, fun i hi _ => hb.block i hi⟩ (.inl hv)
  | some g => exact h.kept (row := none) ⟨hb.os, hb.tape, hb.output, hb.size, fun i hi _ => hb.block i hi⟩ (.inr (by rw [hv]; simp))
theorem own_mono {w : World} {base base' : Nat} {e : TypeId} {size : Nat} {v : Value} {n : Nat} {xs : List Value} (h : w.ownsRow base e size v n xs) (hb : base' ≤ base) : w.ownsRow base' e size v n xs :=
  ⟨h.1, h.2.imp id fun ⟨g, cap, cur, h1, h2, h3⟩ => ⟨g, cap, cur, h1, Nat.le_trans hb h2, h3⟩⟩
theorem Row.below {w w' : World} {B : Nat} {v : Value} {l : List Int} (h : Row w B v l) (hb : Below w.heap.size w w') : Row w' B v l := own_below h hb
theorem Row.mono {w : World} {B B' : Nat} {v : Value} {l : List Int} (h : Row w B v l) (hb : B' ≤ B) : Row w B' v l := own_mono h hb
theorem Row.nl {w : World} {B : Nat} {v : Value} {l : List Int} (h : Row w B v l) : Nl w v l := by
  rcases h.2 with ⟨rfl, h0⟩ | ⟨g, cap, cur, rfl, _⟩
  · exact .inl ⟨rfl, List.eq_nil_of_length_eq_zero h0⟩
  · refine .inr ⟨⟨g, 0, none⟩, cap, rfl, fun _ => ⟨g, 0, rfl, fun k hk => ?_⟩⟩
    rw [Nat.zero_add]
    exact (World.ownsRow.cellAt h k (by omega)).trans (ints_at l k hk)
theorem Row.nil (w : World) (B : Nat) : Row w B (.slice none 0 0) [] := World.ownsRow_nil _ _ _ _
theorem Row.far {w w' : World} {B : Nat} {v : Value} {l : List Int} {r : Option Nat} (h : Row w B v l) (hg : w.grownBy w' r) (hne : ∀ g, r = some g → ∀ g', v.ownBlock = some g' → g ≠ g') : Row w' B v l := by
  refine World.ownsRow.kept h hg ?_
  cases hv : v.ownBlock with
  | none => exact .inl rfl
  | some g' => exact .inr fun e => hne g' e.symm g' hv rfl

theorem intInfo : (Try.prog.info? 3).map (fun i => (i.zero, i.size, i.bytes)) = some (some (.int .i64 0), 1, 8) := by kernel_rfl

/-! What is answered. -/
def mx (a b : Int) : Int := if b > a then b else a
def mn (a b : Int) : Int := if b < a then b else a
def manyB (n : Int) : Bool := decide (1 ≤ n) && decide (n ≤ 8)
def okN : List Int → Bool
  | [] => true
  | x :: t => decide (0 ≤ x) && (decide (x ≤ 1023) && okN t)
def mayB (l : List Int) (n : Int) : Bool := manyB n && (decide ((l.length : Int) = n) && okN l)
def sameB : List Int → List Int → Bool
  | [], [] => true
  | x :: s, y :: t => (x == y) && sameB s t
  | _, _ => false
def leB : List Int → List Int → Bool
  | [], [] => true
  | x :: s, y :: t => decide (x ≤ y) && leB s t
  | _, _ => false
def sumL (s : Int) : List Int → Int
  | [] => s
  | x :: t => sumL (wrap64 (s + x)) t
theorem sameB_iff : ∀ (a b : List Int), sameB a b = true ↔ a = b
  | [], [] => by simp [sameB]
  | x :: s, y :: t => by simp [sameB, sameB_iff s t]
  | [], _ :: _ => by simp [sameB]
  | _ :: _, [] => by simp [sameB]
theorem sameB_len : ∀ (a b : List Int), a.length ≠ b.length → sameB a b = false
  | [], [], h => by simp at h
  | x :: s, y :: t, h => by rw [sameB, sameB_len s t (by simpa using h), Bool.and_false]
  | [], _ :: _, _ => rfl
  | _ :: _, [], _ => rfl
theorem leB_len : ∀ (a b : List Int), a.length ≠ b.length → leB a b = false
  | [], [], h => by simp at h
  | x :: s, y :: t, h => by rw [leB, leB_len s t (by simpa using h), Bool.and_false]
  | [], _ :: _, _ => rfl
  | _ :: _, [], _ => rfl
set_option maxHeartbeats 4000000 in
theorem same_c (l m : List Int) (v1 v2 : Value) (w : World) (h1 : Nl w v1 l) (h2 : Nl w v2 m) (hn : l.length ≤ 1000000) :
    Calls Try.prog 29 #[v1, v2] w fun e w' => e = .returned (.bool (sameB l m)) ∧ Below w.heap.size w w' := by
  obtain ⟨ad1, cap1, rfl, k1⟩ := h1.form
  obtain ⟨ad2, cap2, rfl, k2⟩ := h2.form
  have H1 := Lib.hid k1
  have H2 := Lib.hid k2
  clear h1 h2 k1 k2
  by_cases hl : l.length = m.length
  · have e0 : ((l.length : Int) != (m.length : Int)) = false := by simp [hl]
    have HL := Lib.hid hl
    clear hl
    go_enter Try.func29, Try.ntmps29
    go_wp2
    go_loopw [5] (fun v5 wr => ∃ k q : Nat, k ≤ l.length ∧ v5 = .int .i64 (k : Int) ∧ wr = w.drewN q ∧ Hid (sameB (l.drop k) (m.drop k) = sameB l m)) (fun v5 _ => l.length - (intOf v5).toNat)
    case atStart => exact ⟨0, 0, by omega, rfl, rfl, Lib.hid rfl⟩
    case round =>
      obtain ⟨k, q, hk, rfl, rfl, hs⟩ := hrel
      by_cases hp : k < l.length
      · obtain ⟨g1, o1, rfl, c1⟩ := H1.out (by omega)
        have hpm : k < m.length := by have := HL.out; omega
        obtain ⟨g2, o2, rfl, c2⟩ := H2.out (by omega)
        have c11 := c1 k hp
        have c21 := c2 k hpm
        have hs' := hs.out
        rw [List.drop_eq_getElem_cons hp, List.drop_eq_getElem_cons hpm, sameB] at hs'
        clear c1 c2 H1 H2 hs
        generalize l[k] = x at c11 hs'
        generalize m[k] = y at c21 hs'
        by_cases hxy : x = y
        · have f1 : (x != y) = false := by simpa using hxy
          have f2 : (x == y) = true := by simpa using hxy
          rw [f2, Bool.true_and] at hs'
          have HS := Lib.hid hs'
          clear hs' hxy f2
          go_wp2
          go_quiet (fail)
          go_wp2
          go_roundw
          case rel => exact ⟨k + 1, q + nq, hp, by go_num, rfl, HS⟩
          case measure => simp [intOf]; omega
        · have f1 : (x != y) = true := by simpa using hxy
          have f2 : (x == y) = false := by simpa using hxy
          rw [f2, Bool.false_and] at hs'
          have HS := Lib.hid hs'
          clear hs' hxy f2
          go_wp2
          go_quiet (fail)
          go_wp2
          go_ret
          exact ⟨by rw [← HS.out]; rfl, below_drewN (below_drewN (Below.refl _ _) q) nq⟩
      · have hs' := hs.out
        rw [List.drop_eq_nil_of_le (by omega), List.drop_eq_nil_of_le (by have := HL.out; omega), sameB] at hs'
        have HS := Lib.hid hs'
        clear hs' hs
        go_wp2
        go_ret
        exact ⟨by rw [← HS.out]; rfl, below_drewN (Below.refl _ _) q⟩
  · have e0 : ((l.length : Int) != (m.length : Int)) = true := by simp; omega
    rw [sameB_len l m hl]
    go_enter Try.func29, Try.ntmps29
    go_wp2
    go_ret
    exact ⟨rfl, Below.refl _ _⟩

/-- What is answered: a row of one's own. -/
def rowT (l : List Int) (w : World) (e : Ending) (w' : World) : Prop := ∃ v, e = .returned v ∧ Row w' w.heap.size v l ∧ Below w.heap.size w w'
theorem row_empty (w : World) : (w.alloc (.cells #[] 3)).ownsRow w.heap.size 3 1 (.slice (some ⟨w.heap.size, 0, none⟩) 0 0) 0 [] :=
  ⟨rfl, .inr ⟨w.heap.size, 0, #[], rfl, Nat.le_refl _, heap_alloc_new w _, Nat.le_refl _, Nat.zero_le _, rfl, rfl⟩⟩
theorem Nl.news {w : World} {ad : Addr} {l : List Int} (h : 0 < l.length → ∃ b o, ad = ⟨b, o, none⟩ ∧ Nums w b o l) : ∀ i u, (ints l)[i]? = some u → w.cell? (ad.add i) = some u := by
  intro i u hu
  have hi : i < l.length := by have := (List.getElem?_eq_some_iff.1 hu).1; rwa [ints_len] at this
  obtain ⟨b, o, rfl, hs⟩ := h (by omega)
  exact hs.news i u hu
theorem Row.at {w : World} {B g cap : Nat} {l : List Int} (h : Row w B (.slice (some ⟨g, 0, none⟩) l.length cap) l) (k : Nat) (hk : k < l.length) : w.cell? ⟨g, k, none⟩ = some (.int .i64 l[k]) :=
  (World.ownsRow.cellAt h k (by omega)).trans (ints_at l k hk)
theorem Row.soft {w : World} {B g cap : Nat} {l : List Int} (h : Row w B (.slice (some ⟨g, 0, none⟩) l.length cap) l) (k : Nat) : w.frozen? ⟨g, k, none⟩ = false := World.ownsRow.frozenAt h k
theorem ints_set (l : List Int) (k : Nat) (x : Int) : (ints l).set k (.int .i64 x) = ints (l.set k x) := by simp [ints, List.map_set]
theorem Row.set {w : World} {B g cap : Nat} {l : List Int} (h : Row w B (.slice (some ⟨g, 0, none⟩) l.length cap) l) (k : Nat) (x : Int) : Row (w.setCell ⟨g, k, none⟩ (.int .i64 x)) B (.slice (some ⟨g, 0, none⟩) (l.set k x).length cap) (l.set k x) := by
  have h1 := (World.ownsRow.stored h k (.int .i64 x)).1
  rw [ints_set] at h1
  unfold Row
  rw [List.length_set]
  exact h1
theorem Row.form {w : World} {B : Nat} {v : Value} {l : List Int} (h : Row w B v l) (hn : 0 < l.length) : ∃ g cap, v = .slice (some ⟨g, 0, none⟩) l.length cap ∧ B ≤ g ∧ g < w.heap.size := by
  obtain ⟨g, cap, e, h1, h2⟩ := World.ownsRow.form h hn
  exact ⟨g, cap, e, h1, h2⟩

/-- append, as a step whose answer is known. -/
theorem wpList_append_run {P : Program} {w : World} {ops : Array Oper} {rest : List Oper} {o : Oper} {a : Act} {Q : Exit → Act → World → Prop} (hgd : o.guard = none) (s x : Operand) (t : TypeId)
    (ho : o.op = .call { callee := .builtin .append, args := #[s, x], argTypes := #[t, t] }) (v' : Value) (w' : World)
    (hr : (Builtin.append_ #[t, t] o.type #[a.eval s, a.eval x]).run P w = .ok v' w') (h : wpList P ops Q rest (a.put o.dst v') w') : wpList P ops Q (o :: rest) a w :=
  wpList_plain hgd fun _ hK => by
    unfold Oper.wp execOp
    simp only [ho, resolve, invoke, builtin, Sem.run_bind, Sem.run_pure, Result.andThen_ok, List.map_toArray, List.map_cons, List.map_nil, hr]
    exact hK _ _ h
theorem copy_run (l : List Int) (u : Value) (w : World) (ty : TypeId) (h : Nl w u l) (hn : l.length ≤ 1000000) :
    ∃ vm w1, (Builtin.append_ #[35, 35] ty #[.slice none 0 0, u]).run Try.prog w = .ok vm w1 ∧ Row w1 w.heap.size vm l ∧ Below w.heap.size w w1 := by
  rcases h with ⟨rfl, rfl⟩ | ⟨ad, cap, rfl, h⟩
  · refine ⟨.slice none 0 0, w, ?_, Row.nil _ _, Below.refl _ _⟩
    simp [Builtin.append_, go_sem, run_underlying Try.underlying35]
  · obtain ⟨i0, hi, hz0, hz1, hz2⟩ := info_parts intInfo
    obtain ⟨v', w', h1, h2, h3, _, _⟩ := run_append_own_at (P := Try.prog) w w.heap.size 35 ty 3 i0 (.int .i64 0) 1 8 Try.underlying35 hi hz0 hz1 hz2 rfl (by decide) (.slice none 0 0) 0 [] (World.ownsRow_nil _ _ _ _) ad l.length cap (ints l) (by rw [ints_len, Nat.mul_one]) (Nl.news h) (ints_one l) (by unfold maxLen; omega) (by omega) (Nat.le_refl _)
    refine ⟨v', w', h1, by rw [Nat.zero_add, List.nil_append] at h2; exact h2, below_of_grown h3 (Nat.le_refl _) (by intro g hg; cases hg)⟩
theorem Row.at2 {w : World} {B g cap n : Nat} {l : List Int} (h : Row w B (.slice (some ⟨g, 0, none⟩) n cap) l) (hn : l.length = n) (k : Nat) (x : Int) (hk : l[k]? = some x) : w.cell? ⟨g, k, none⟩ = some (.int .i64 x) := by
  subst hn
  obtain ⟨hk', rfl⟩ := List.getElem?_eq_some_iff.1 hk
  exact h.at k hk'
theorem Row.soft2 {w : World} {B g cap n : Nat} {l : List Int} (h : Row w B (.slice (some ⟨g, 0, none⟩) n cap) l) (hn : l.length = n) (k : Nat) : w.frozen? ⟨g, k, none⟩ = false := by
  subst hn
  exact h.soft k
theorem Row.set2 {w : World} {B g cap n : Nat} {l : List Int} (h : Row w B (.slice (some ⟨g, 0, none⟩) n cap) l) (hn : l.length = n) (k : Nat) (x : Int) : Row (w.setCell ⟨g, k, none⟩ (.int .i64 x)) B (.slice (some ⟨g, 0, none⟩) n cap) (l.set k x) := by
  subst hn
  have h1 := h.set k x
  rw [List.length_set] at h1
  exact h1
set_option maxHeartbeats 4000000 in
theorem over_c (l : List Int) (v : Value) (w : World) (B : Nat) (h : Row w B v l) (hn : l.length ≤ 1000000) (hB : B ≤ w.heap.size) :
    Calls Try.prog 47 #[v] w fun e w' => e = .returned (.tuple #[]) ∧ w.grownBy w' v.ownBlock := by
  obtain ⟨i0, hi, hz0, hz1, hz2⟩ := info_parts intInfo
  have HI := Lib.hid hi
  have HZ0 := Lib.hid hz0
  have HZ1 := Lib.hid hz1
  have HZ2 := Lib.hid hz2
  clear hi hz0 hz1 hz2
  obtain ⟨ad, cap, rfl, _⟩ := h.nl.form
  have H := Lib.hid h
  clear h
  go_enter Try.func47, Try.ntmps47
  go_wp2
  go_loopw [2] (fun v2 wr => ∃ (k : Nat) (m : List Int), k ≤ l.length ∧ v2 = .int .i64 (k : Int) ∧ m.length = l.length ∧ Hid (Row wr B (.slice ad l.length cap) m) ∧ Hid (w.grownBy wr (Value.slice ad l.length cap).ownBlock)) (fun v2 _ => l.length - (intOf v2).toNat)
  case atStart => exact ⟨0, l, by omega, rfl, rfl, H, Lib.hid (grown_refl _ _)⟩
  case round =>
    obtain ⟨k, m, hk, rfl, hm, HM, HG⟩ := hrel
    have HML := Lib.hid hm
    have hsz := HG.out.size
    clear hm H
    by_cases hp : k < l.length
    · obtain ⟨g, cap2, he, hg, hlt⟩ := HM.out.form (by have := HML.out; omega)
      simp only [Value.slice.injEq] at he
      obtain ⟨rfl, e4, e5⟩ := he
      clear e4 e5
      have hc := HM.out.at2 HML.out k _ (List.getElem?_eq_getElem (by have := HML.out; omega))
      have hf := HM.out.soft2 HML.out k
      have HM2 := Lib.hid (HM.out.set2 HML.out k (-999))
      have HG2 : Hid (w.grownBy (wr.setCell ⟨g, k, none⟩ (.int .i64 (-999))) (Value.slice (some ⟨g, 0, none⟩) l.length cap).ownBlock) := Lib.hid (grown_trans HG.out (by
        have h1 : Row wr B (.slice (some ⟨g, 0, none⟩) m.length cap) m := by rw [HML.out]; exact HM.out
        exact (World.ownsRow.stored h1 k _).2))
      generalize m[k]'(by have := HML.out; omega) = y at hc
      go_wp2
      go_roundw
      case rel => exact ⟨k + 1, m.set k (-999), hp, by go_num, by rw [List.length_set]; exact HML.out, HM2, HG2⟩
      case measure => simp [intOf]; omega
    · have HO : Hid (wr.ownsRow B 3 1 (.slice ad l.length cap) l.length (ints m)) := Lib.hid (by have h1 := HM.out; unfold Row at h1; rw [HML.out] at h1; exact h1)
      go_wp2_with (at_builtin; refine wpList_append_own _ rfl _ _ 35 rfl B 3 i0 (.int .i64 0) 1 8 Try.underlying35 HI.out HZ0.out HZ1.out HZ2.out rfl (by decide) _ _ _ rfl (World.ownsRow.alloc HO.out _) ⟨wr.heap.size, 0, none⟩ 1 1 [.int .i64 (-999)] rfl rfl (cell_one_new _ _ _) (fun x hx => by simp at hx; subst hx; rfl) (by unfold maxLen; omega) (by omega) (by simp; omega) ?_; intro v' w3 hown3 hgrow3 hnil3)
      go_end0
      exact ⟨rfl, grown_trans HG.out (grown_trans (World.grownBy_alloc _ _ _) hgrow3)⟩
theorem alloc_below (w : World) (o : Obj) : Below w.heap.size w (w.alloc o) := (Below.refl _ _).alloc (Nat.le_refl _) _
/-- A list that has just been laid. -/
theorem nl_new2 (w : World) (B : Nat) (hB : B = w.heap.size) (x y : Int) : Nl (w.alloc (.cells #[.int .i64 x, .int .i64 y] 3)) (.slice (some ⟨B, 0, none⟩) 2 2) [x, y] := by
  subst hB
  refine .inr ⟨_, 2, rfl, fun _ => ⟨w.heap.size, 0, rfl, fun k hk => ?_⟩⟩
  have hk2 : k < 2 := hk
  match k, hk2 with
  | 0, _ => simp [go_sem]
  | 1, _ => simp [go_sem]
end Go.Proofs.Ytgdajnjfkokmdaa
