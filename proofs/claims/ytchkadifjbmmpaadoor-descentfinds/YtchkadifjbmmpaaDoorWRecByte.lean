/-
  Lists of bytes in memory, rows of one's own; SameBytes, LendBytes, KeptBytes, OverBytes, by contract.
-/
import Derived.Test.YtchkadifjbmmpaaDoorWRecLess
import Derived.Maps.AppendAt
import Derived.BigRegion
import Derived.Deep.DeepAppendRoom
import Derived.Lib.AppendStr
import Derived.Laws.BytesArg
namespace Go.Proofs.YtchkadifjbmmpaaDoor.R
open Go.RowKit Go.Lib
set_option maxRecDepth 100000

/-- From offset o of block b on the numbers l lie. -/
def Byts (w : World) (b o : Nat) (l : List Int) : Prop := ∀ k (hk : k < l.length), w.cell? ⟨b, o + k, none⟩ = some (.int .u8 l[k])
theorem Byts.below {w w' : World} {b o : Nat} {l : List Int} (h : Byts w b o l) (hb : Below w.heap.size w w') : Byts w' b o l := fun k hk =>
  (hb.cell (World.block_lt_of_cell? w _ (h k hk))).trans (h k hk)
/-- The slice v holds the numbers l. -/
def Bl (w : World) (v : Value) (l : List Int) : Prop :=
  (v = .slice none 0 0 ∧ l = []) ∨ ∃ ad cap, v = .slice (some ad) l.length cap ∧ (0 < l.length → ∃ b o, ad = ⟨b, o, none⟩ ∧ Byts w b o l)
theorem Bl.below {w w' : World} {v : Value} {l : List Int} (h : Bl w v l) (hb : Below w.heap.size w w') : Bl w' v l := by
  rcases h with h | ⟨ad, cap, h1, h2⟩
  · exact .inl h
  · exact .inr ⟨ad, cap, h1, fun h0 => by obtain ⟨b, o, e, hs⟩ := h2 h0; exact ⟨b, o, e, hs.below hb⟩⟩
theorem Bl.drew {w : World} {v : Value} {l : List Int} (h : Bl w v l) (n : Nat) : Bl (w.drewN n) v l := h
theorem Bl.form {w : World} {v : Value} {l : List Int} (h : Bl w v l) : ∃ ad cap, v = .slice ad l.length cap ∧ (0 < l.length → ∃ b o, ad = some ⟨b, o, none⟩ ∧ Byts w b o l) := by
  rcases h with ⟨rfl, rfl⟩ | ⟨ad, cap, rfl, h2⟩
  · exact ⟨none, 0, rfl, fun h => by simp at h⟩
  · exact ⟨some ad, cap, rfl, fun h0 => by obtain ⟨b, o, e, hs⟩ := h2 h0; exact ⟨b, o, by rw [e], hs⟩⟩

def bys (l : List Int) : List Value := l.map (Value.int .u8)
theorem bys_len (l : List Int) : (bys l).length = l.length := List.length_map ..
theorem bys_one (l : List Int) : ∀ u ∈ bys l, u.oneCell' = true := by
  intro u hu
  obtain ⟨x, _, rfl⟩ := List.mem_map.1 hu
  rfl
theorem bys_at (l : List Int) (k : Nat) (hk : k < l.length) : (bys l)[k]? = some (.int .u8 l[k]) := by simp [bys, hk]
theorem Byts.news {w : World} {b o : Nat} {l : List Int} (h : Byts w b o l) : ∀ i u, (bys l)[i]? = some u → w.cell? ((⟨b, o, none⟩ : Addr).add i) = some u := by
  intro i u hu
  have hi : i < l.length := by have := (List.getElem?_eq_some_iff.1 hu).1; rwa [bys_len] at this
  rw [bys_at l i hi] at hu
  rw [Go.WideShapes.add_plain, h i hi, hu]

/-- The row v, of one's own from block B on, holds the numbers l. -/
def BRow (w : World) (B : Nat) (v : Value) (l : List Int) : Prop := w.ownsRow B 5 1 v l.length (bys l)
theorem own_below {w w' : World} {base : Nat} {e : TypeId} {size : Nat} {v : Value} {n : Nat} {xs : List Value} (h : w.ownsRow base e size v n xs) (hb : Below w.heap.size w w') : w'.ownsRow base e size v n xs := by
  cases hv : v.ownBlock with
  | none => exact h.kept (row := none) ⟨hb.os, hb.tape, hb.output, hb.size, fun i hi _ => hb.block i hi⟩ (.inl hv)
  | some g => exact h.kept (row := none) ⟨hb.os, hb.tape, hb.output, hb.size, fun i hi _ => hb.block i hi⟩ (.inr (by rw [hv]; simp))
theorem own_mono {w : World} {base base' : Nat} {e : TypeId} {size : Nat} {v : Value} {n : Nat} {xs : List Value} (h : w.ownsRow base e size v n xs) (hb : base' ≤ base) : w.ownsRow base' e size v n xs :=
  ⟨h.1, h.2.imp id fun ⟨g, cap, cur, h1, h2, h3⟩ => ⟨g, cap, cur, h1, Nat.le_trans hb h2, h3⟩⟩
theorem BRow.below {w w' : World} {B : Nat} {v : Value} {l : List Int} (h : BRow w B v l) (hb : Below w.heap.size w w') : BRow w' B v l := own_below h hb
theorem BRow.mono {w : World} {B B' : Nat} {v : Value} {l : List Int} (h : BRow w B v l) (hb : B' ≤ B) : BRow w B' v l := own_mono h hb
theorem BRow.nl {w : World} {B : Nat} {v : Value} {l : List Int} (h : BRow w B v l) : Bl w v l := by
  rcases h.2 with ⟨rfl, h0⟩ | ⟨g, cap, cur, rfl, _⟩
  · exact .inl ⟨rfl, List.eq_nil_of_length_eq_zero h0⟩
  · refine .inr ⟨⟨g, 0, none⟩, cap, rfl, fun _ => ⟨g, 0, rfl, fun k hk => ?_⟩⟩
    rw [Nat.zero_add]
    exact (World.ownsRow.cellAt h k (by omega)).trans (bys_at l k hk)
theorem BRow.nil (w : World) (B : Nat) : BRow w B (.slice none 0 0) [] := World.ownsRow_nil _ _ _ _
theorem BRow.far {w w' : World} {B : Nat} {v : Value} {l : List Int} {r : Option Nat} (h : BRow w B v l) (hg : w.grownBy w' r) (hne : ∀ g, r = some g → ∀ g', v.ownBlock = some g' → g ≠ g') : BRow w' B v l := by
  refine World.ownsRow.kept h hg ?_
  cases hv : v.ownBlock with
  | none => exact .inl rfl
  | some g' => exact .inr fun e => hne g' e.symm g' hv rfl

theorem byteInfo : (Tryd.prog.info? 5).map (fun i => (i.zero, i.size, i.bytes)) = some (some (.int .u8 0), 1, 1) := by kernel_rfl
def sameB : List Int → List Int → Bool
  | [], [] => true
  | x :: s, y :: t => (x == y) && sameB s t
  | _, _ => false
theorem sameB_iff : ∀ (a b : List Int), sameB a b = true ↔ a = b
  | [], [] => by simp [sameB]
  | x :: s, y :: t => by simp [sameB, sameB_iff s t]
  | [], _ :: _ => by simp [sameB]
  | _ :: _, [] => by simp [sameB]
theorem sameB_len : ∀ (a b : List Int), a.length ≠ b.length → sameB a b = false
  | [], [], h => by simp at h
  | x :: s, y :: t, h => by rw [sameB, sameB_len s t (by simpa using h), Bool.and_false]
  | [], _ :: _, _ => rfl
  | _ :: _, [], _ => rfl
theorem Bl.news {w : World} {ad : Addr} {l : List Int} (h : 0 < l.length → ∃ b o, ad = ⟨b, o, none⟩ ∧ Byts w b o l) : ∀ i u, (bys l)[i]? = some u → w.cell? (ad.add i) = some u := by
  intro i u hu
  have hi : i < l.length := by have := (List.getElem?_eq_some_iff.1 hu).1; rwa [bys_len] at this
  obtain ⟨b, o, rfl, hs⟩ := h (by omega)
  exact hs.news i u hu

/-- append, as a step whose answer is known. -/
theorem wpList_append_run {P : Program} {w : World} {ops : Array Oper} {rest : List Oper} {o : Oper} {a : Act} {Q : Exit → Act → World → Prop} (hgd : o.guard = none) (s x : Operand) (t : TypeId)
    (ho : o.op = .call { callee := .builtin .append, args := #[s, x], argTypes := #[t, t] }) (v' : Value) (w' : World)
    (hr : (Builtin.append_ #[t, t] o.type #[a.eval s, a.eval x]).run P w = .ok v' w') (h : wpList P ops Q rest (a.put o.dst v') w') : wpList P ops Q (o :: rest) a w :=
  wpList_plain hgd fun _ hK => by
    unfold Oper.wp execOp
    simp only [ho, resolve, invoke, builtin, Sem.run_bind, Sem.run_pure, Result.andThen_ok, List.map_toArray, List.map_cons, List.map_nil, hr]
    exact hK _ _ h

theorem bcopy_run (l : List Int) (u : Value) (w : World) (ty : TypeId) (h : Bl w u l) (hn : l.length ≤ 1000000) :
    ∃ vm w1, (Builtin.append_ #[55, 55] ty #[.slice none 0 0, u]).run Tryd.prog w = .ok vm w1 ∧ BRow w1 w.heap.size vm l ∧ Below w.heap.size w w1 := by
  rcases h with ⟨rfl, rfl⟩ | ⟨ad, cap, rfl, h⟩
  · refine ⟨.slice none 0 0, w, ?_, BRow.nil _ _, Below.refl _ _⟩
    simp [Builtin.append_, go_sem, run_underlying Tryd.underlying55]
  · obtain ⟨i0, hi, hz0, hz1, hz2⟩ := info_parts byteInfo
    obtain ⟨v', w', h1, h2, h3, _, _⟩ := run_append_own_at (P := Tryd.prog) w w.heap.size 55 ty 5 i0 (.int .u8 0) 1 1 Tryd.underlying55 hi hz0 hz1 hz2 rfl (by decide) (.slice none 0 0) 0 [] (World.ownsRow_nil _ _ _ _) ad l.length cap (bys l) (by rw [bys_len, Nat.mul_one]) (Bl.news h) (bys_one l) (by unfold maxLen; omega) (by omega) (Nat.le_refl _)
    refine ⟨v', w', h1, by rw [Nat.zero_add, List.nil_append] at h2; exact h2, below_of_grown h3 (Nat.le_refl _) (by intro g hg; cases hg)⟩

theorem bys_set (l : List Int) (k : Nat) (x : Int) : (bys l).set k (.int .u8 x) = bys (l.set k x) := by simp [bys, List.map_set]
theorem BRow.at {w : World} {B g cap : Nat} {l : List Int} (h : BRow w B (.slice (some ⟨g, 0, none⟩) l.length cap) l) (k : Nat) (hk : k < l.length) : w.cell? ⟨g, k, none⟩ = some (.int .u8 l[k]) :=
  (World.ownsRow.cellAt h k (by omega)).trans (bys_at l k hk)
theorem BRow.soft {w : World} {B g cap : Nat} {l : List Int} (h : BRow w B (.slice (some ⟨g, 0, none⟩) l.length cap) l) (k : Nat) : w.frozen? ⟨g, k, none⟩ = false := World.ownsRow.frozenAt h k
theorem BRow.set {w : World} {B g cap : Nat} {l : List Int} (h : BRow w B (.slice (some ⟨g, 0, none⟩) l.length cap) l) (k : Nat) (x : Int) : BRow (w.setCell ⟨g, k, none⟩ (.int .u8 x)) B (.slice (some ⟨g, 0, none⟩) (l.set k x).length cap) (l.set k x) := by
  have h1 := (World.ownsRow.stored h k (.int .u8 x)).1
  rw [bys_set] at h1
  unfold BRow
  rw [List.length_set]
  exact h1
theorem BRow.form {w : World} {B : Nat} {v : Value} {l : List Int} (h : BRow w B v l) (hn : 0 < l.length) : ∃ g cap, v = .slice (some ⟨g, 0, none⟩) l.length cap ∧ B ≤ g ∧ g < w.heap.size := by
  obtain ⟨g, cap, e, h1, h2⟩ := World.ownsRow.form h hn
  exact ⟨g, cap, e, h1, h2⟩
theorem BRow.at2 {w : World} {B g cap n : Nat} {l : List Int} (h : BRow w B (.slice (some ⟨g, 0, none⟩) n cap) l) (hn : l.length = n) (k : Nat) (x : Int) (hk : l[k]? = some x) : w.cell? ⟨g, k, none⟩ = some (.int .u8 x) := by
  subst hn
  obtain ⟨hk', rfl⟩ := List.getElem?_eq_some_iff.1 hk
  exact h.at k hk'
theorem BRow.soft2 {w : World} {B g cap n : Nat} {l : List Int} (h : BRow w B (.slice (some ⟨g, 0, none⟩) n cap) l) (hn : l.length = n) (k : Nat) : w.frozen? ⟨g, k, none⟩ = false := by
  subst hn
  exact h.soft k
theorem BRow.set2 {w : World} {B g cap n : Nat} {l : List Int} (h : BRow w B (.slice (some ⟨g, 0, none⟩) n cap) l) (hn : l.length = n) (k : Nat) (x : Int) : BRow (w.setCell ⟨g, k, none⟩ (.int .u8 x)) B (.slice (some ⟨g, 0, none⟩) n cap) (l.set k x) := by
  subst hn
  have h1 := h.set k x
  rw [List.length_set] at h1
  exact h1
/-- The numbers l, lent: three marks lie behind them. -/
def BLent (w : World) (g : Nat) (l : List Int) : Prop := w.ownsRow g 5 1 (.slice (some ⟨g, 0, none⟩) (l.length + 3) (l.length + 3)) (l.length + 3) (bys (l ++ [119, 119, 119]))
theorem BLent.below {w w' : World} {g : Nat} {l : List Int} (h : BLent w g l) (hb : Below w.heap.size w w') : BLent w' g l := own_below h hb
theorem BLent.lt {w : World} {g : Nat} {l : List Int} (h : BLent w g l) : g < w.heap.size := (World.ownsRow.lt h g rfl).2
theorem BLent.far {w w' : World} {g : Nat} {l : List Int} {r : Option Nat} (h : BLent w g l) (hg : w.grownBy w' r) (hne : r ≠ some g) : BLent w' g l :=
  World.ownsRow.kept h hg (.inr (fun e => hne e.symm))
theorem BLent.at {w : World} {g : Nat} {l : List Int} (h : BLent w g l) (k : Nat) (x : Int) (hk : (l ++ [119, 119, 119])[k]? = some x) : w.cell? ⟨g, k, none⟩ = some (.int .u8 x) := by
  have hl : k < (l ++ [119, 119, 119]).length := (List.getElem?_eq_some_iff.1 hk).1
  refine (World.ownsRow.cellAt h k (by simp at hl; omega)).trans ?_
  rw [bys, List.getElem?_map, hk]
  rfl
theorem BLent.nl {w : World} {g : Nat} {l : List Int} (h : BLent w g l) : Bl w (.slice (some ⟨g, 0, none⟩) l.length (l.length + 3)) l :=
  .inr ⟨⟨g, 0, none⟩, l.length + 3, rfl, fun _ => ⟨g, 0, rfl, fun k hk => by
    rw [Nat.zero_add]
    exact h.at k l[k] (by rw [List.getElem?_append_left hk, List.getElem?_eq_getElem hk])⟩⟩

/-- A row with its room. -/
theorem brow_whole {w : World} {B g n cap : Nat} {xs : List Value} (h : w.ownsRow B 5 1 (.slice (some ⟨g, 0, none⟩) n cap) n xs) : ∃ zs, zs.length = cap - n ∧ w.ownsRow B 5 1 (.slice (some ⟨g, 0, none⟩) cap cap) cap (xs ++ zs) := by
  obtain ⟨h1, h2⟩ := h
  rcases h2 with ⟨h0, _⟩ | ⟨g', cap', cur, hv, hg, hh, hn, hcap, hsz, htake⟩
  · cases h0
  · cases hv
    rw [Nat.mul_one] at hsz h1 htake
    refine ⟨cur.toList.drop n, by simp; omega, ?_, .inr ⟨g, cap, cur, rfl, hg, hh, Nat.le_refl _, hcap, by rw [Nat.mul_one]; exact hsz, ?_⟩⟩
    · simp [h1]; omega
    · rw [Nat.mul_one, List.take_of_length_le (by simp; omega), ← htake, List.take_append_drop]

def blendT (l : List Int) (w : World) (e : Ending) (w' : World) : Prop := ∃ g, e = .returned (.slice (some ⟨g, 0, none⟩) l.length (l.length + 3)) ∧ BLent w' g l ∧ w.heap.size ≤ g ∧ Below w.heap.size w w'

theorem blend_set (l : List Int) (k : Nat) (zs : List Value) (h : zs.length = 3 - k) (hk : k < 3) : ∃ zs', zs'.length = 3 - (k + 1) ∧ (bys l ++ (List.replicate k (Value.int .u8 119) ++ zs)).set (l.length + k) (Value.int .u8 119) = bys l ++ (List.replicate (k + 1) (Value.int .u8 119) ++ zs') := by
  cases zs with
  | nil => simp at h; omega
  | cons z t =>
    refine ⟨t, by simp at h; omega, ?_⟩
    rw [List.set_append_right _ _ (by rw [bys_len]; omega), bys_len, Nat.add_sub_cancel_left, List.set_append_right _ _ (by simp), List.length_replicate, Nat.sub_self, List.set_cons_zero, List.replicate_succ']
    simp

theorem blend_run (l : List Int) (u : Value) (w : World) (ty : TypeId) (h : Bl w u l) (_ : l.length ≤ 1000000) (B : Nat) (g : Nat) (hown : w.ownsRow B 5 1 (.slice (some ⟨g, 0, none⟩) 0 (l.length + 3)) 0 []) :
    ∃ w1, (Builtin.append_ #[55, 55] ty #[.slice (some ⟨g, 0, none⟩) 0 (l.length + 3), u]).run Tryd.prog w = .ok (.slice (some ⟨g, 0, none⟩) l.length (l.length + 3)) w1 ∧ w1.ownsRow B 5 1 (.slice (some ⟨g, 0, none⟩) l.length (l.length + 3)) l.length (bys l) ∧ w.grownBy w1 (some g) := by
  rcases h with ⟨rfl, rfl⟩ | ⟨ad, cap, rfl, h⟩
  · refine ⟨w, ?_, hown, grown_refl _ _⟩
    simp [Builtin.append_, go_sem, run_underlying Tryd.underlying55]
  · obtain ⟨i0, hi, hz0, hz1, hz2⟩ := info_parts byteInfo
    obtain ⟨w', h1, h2, h3⟩ := run_append_own_spare (P := Tryd.prog) w B 55 ty 5 i0 1 Tryd.underlying55 hi hz1 g 0 (l.length + 3) [] hown ad l.length cap (bys l) (by rw [bys_len, Nat.mul_one]) (Bl.news h) (bys_one l) (by omega)
    rw [Nat.zero_add] at h1 h2
    exact ⟨w', h1, h2, h3⟩
end Go.Proofs.YtchkadifjbmmpaaDoor.R
