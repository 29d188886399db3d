/-
  PROVED: what lists have in common, what some has, and where words follow one another, is the document's, for every input (no condition)
-/
import Derived.Test.YtgdajnjfkokmdaaPstNew
import Derived.Test.YtgdajnjfkokmdaaPstKeyMap
import Derived.Test.YtgdajnjfkokmdaaLift
import Derived.Deep.SlicePairs
import Derived.Deep.Slices
import Derived.Lib.SmallJoins
import Derived.Test.YtgdajnjfkokmdaaPstAwake
namespace Go.Proofs.Ytgdajnjfkokmdaa
open Go.RowKit Go.ChangeShapes Go.WideShapes Go.ChangeAt Go.Deep Go.Joins
set_option maxRecDepth 100000

theorem wf_inR {n : Int} (h : (Lit.int .i64 n).wf = true) : inR n := by
  have e : IntKind.i64.min = -9223372036854775808 := by decide
  have e2 : IntKind.i64.max = 9223372036854775807 := by decide
  simpa [Lit.wf, e, e2, inR] using h
theorem add_off (a : Addr) (k : Nat) (hs : a.spot = none) : a.add k = ⟨a.block, a.off + k, none⟩ := by
  obtain ⟨b, o, s⟩ := a
  simp only at hs
  subst hs
  exact add_plain ..
theorem spot_none {W : World} {a : Addr} {v : Value} (h : W.cell? (a.add 0) = some v) : a.spot = none := by
  obtain ⟨b, o, s⟩ := a
  cases s with
  | none => rfl
  | some s => simp [World.cell?, Addr.add] at h; split at h <;> simp at h

/-- A Key, off its cells. -/
theorem key_cells {H : Type} {enc : TypeId × Value → H} {W : World} {base : Nat} {spare : Nat → Bool} {held : Bool} {fuel : Nat} {cs : List Value} {x : DataW H × List MemPlace}
    (h : DataW.trod enc Try.prog W base spare held fuel 34 cs = some x) : ∃ a b : Int, cs = [.int .i64 a, .int .i64 b] ∧ inR a ∧ inR b := by
  obtain ⟨y0, y1, n, _, hl, h0, h1⟩ := trod_struct2 Try.underlying34 h
  have ck : Try.prog.cellsOf 34 = 2 := by kernel_rfl
  have c3 : Try.prog.cellsOf 3 = 1 := by kernel_rfl
  simp only [c3] at h0 h1
  rw [ck] at hl
  match cs, hl with
  | [u, v], _ =>
    obtain ⟨a, e0, _, wa⟩ := DataW.trod_int (t := 3) Try.underlying3 h0
    obtain ⟨b, e1, _, wb⟩ := DataW.trod_int (t := 3) Try.underlying3 h1
    simp at e0 e1
    exact ⟨a, b, by rw [e0, e1], wf_inR wa, wf_inR wb⟩

/-- A list of numbers, off its one cell. -/
theorem open_cell {H : Type} {enc : TypeId × Value → H} {W : World} {base : Nat} {spare : Nat → Bool} {held : Bool} {v : Value} {fuel : Nat} {x : DataW H × List MemPlace}
    (hf : DataW.trod enc Try.prog W base spare held fuel 35 [v] = some x) : ∃ l : List Int, Nl W v l ∧ ∀ x ∈ l, inR x := by
  rcases open_slice1 Try.underlying35 (by kernel_rfl) hf with ⟨e, _⟩ | ⟨a, len', cap', m, n, V, D, Pl, e, hb, hl, hm, hmm, _, hi⟩
  · simp only [List.cons.injEq, and_true] at e
    exact ⟨[], .inl ⟨e, rfl⟩, fun x hx => by simp at hx⟩
  · simp only [List.cons.injEq, and_true] at e
    subst e
    have hlm : len' ≤ m := by rw [hmm]; split <;> omega
    have each : ∀ i, i < len' → ∃ q : Int, W.cell? (a.add i) = some (.int .i64 q) ∧ inR q := by
      intro i hi'
      obtain ⟨h1, h2⟩ := hi i (by omega)
      obtain ⟨x, e0, _, hw⟩ := DataW.trod_int (t := 3) Try.underlying3 h2
      simp only [List.cons.injEq, and_true] at e0
      exact ⟨x, by rw [h1, e0], wf_inR hw⟩
    obtain ⟨q, hq⟩ := choose_lt each
    refine ⟨(List.range len').map q, .inr ⟨a, cap', by simp, fun h0 => ?_⟩, fun x hx => ?_⟩
    · have h0' : 0 < len' := by simpa using h0
      have hsp := spot_none (hq 0 h0').1
      refine ⟨a.block, a.off, by obtain ⟨b, o, s⟩ := a; simp only at hsp; subst hsp; rfl, fun k hk => ?_⟩
      have hk' : k < len' := by simpa using hk
      have h1 := (hq k hk').1
      rw [add_off a _ hsp] at h1
      simp only [List.getElem_map, List.getElem_range]
      exact h1
    · obtain ⟨i, hi2, rfl⟩ := List.mem_map.1 hx
      exact (hq i (by simpa using hi2)).2
/-- A Post, off its cells. -/
theorem post_cells {H : Type} {enc : TypeId × Value → H} {W : World} {base : Nat} {spare : Nat → Bool} {held : Bool} {fuel : Nat} {cs : List Value} {x : DataW H × List MemPlace}
    (h : DataW.trod enc Try.prog W base spare held fuel 37 cs = some x) : ∃ q : Pv, cs = [.int .i64 q.o, .int .i64 q.s, q.a] ∧ Nl W q.a q.ns ∧ inR q.o ∧ inR q.s ∧ ∀ x ∈ q.ns, inR x := by
  obtain ⟨y0, y1, n, _, hl, h0, h1⟩ := trod_struct2 Try.underlying37 h
  have c8 : Try.prog.cellsOf 37 = 3 := by kernel_rfl
  have ck : Try.prog.cellsOf 34 = 2 := by kernel_rfl
  have cv : Try.prog.cellsOf 35 = 1 := by kernel_rfl
  rw [c8] at hl
  match cs, hl with
  | [u0, u1, u2], _ =>
    simp only [ck, cv] at h0 h1
    obtain ⟨a, b, e0, wa, wb⟩ := key_cells h0
    obtain ⟨lv, n1, hv⟩ := open_cell (v := u2) h1
    simp at e0
    exact ⟨⟨a, b, u2, lv⟩, by rw [e0.1, e0.2], n1, wa, wb, hv⟩
instance : Inhabited Pv := ⟨⟨0, 0, .slice none 0 0, []⟩⟩
/-- What an int holds, of a whole list. -/
def okPv (l : List Pv) : Prop := ∀ x ∈ l, inR x.o ∧ inR x.s ∧ ∀ y ∈ x.ns, inR y
theorem okPv.p {l : List Pv} (h : okPv l) : okP (ps l) := fun p hp => by
  obtain ⟨x, hx, rfl⟩ := List.mem_map.1 hp
  exact (h x hx).2.2
theorem okPv.k {l : List Pv} (h : okPv l) : ∀ k ∈ (ps l).map Po.k, okKy k := fun k hk => by
  obtain ⟨p, hp, rfl⟩ := List.mem_map.1 hk
  obtain ⟨x, hx, rfl⟩ := List.mem_map.1 hp
  exact ⟨(h x hx).1, (h x hx).2.1⟩
theorem open_post {H : Type} {enc : TypeId × Value → H} {W : World} {r : Reach} {b0 base : Nat} {spare : Nat → Bool} {held : Bool} {v : Value} {d : DataW H} {p : List MemPlace}
    (hv : Value.okWide Try.prog W r b0 37 v) (h : DataW.Trod enc Try.prog W base spare held 37 v d p) : ∃ q : Pv, v = .agg #[.int .i64 q.o, .int .i64 q.s, q.a] ∧ Nl W q.a q.ns := by
  obtain ⟨cs, rfl, hsz⟩ := okWide_struct Try.underlying37 hv
  obtain ⟨fuel, hf⟩ := h
  obtain ⟨q, h1, h2, _⟩ := post_cells hf
  have e2 : cs.toList = [.int .i64 q.o, .int .i64 q.s, q.a] := h1
  exact ⟨q, by rw [show cs = #[.int .i64 q.o, .int .i64 q.s, q.a] from by cases cs; simpa using e2], h2⟩
theorem open_key {H : Type} {enc : TypeId × Value → H} {W : World} {r : Reach} {b0 base : Nat} {spare : Nat → Bool} {held : Bool} {v : Value} {d : DataW H} {p : List MemPlace}
    (hv : Value.okWide Try.prog W r b0 34 v) (h : DataW.Trod enc Try.prog W base spare held 34 v d p) : ∃ a b : Int, v = .agg #[.int .i64 a, .int .i64 b] ∧ inR a ∧ inR b := by
  obtain ⟨cs, rfl, hsz⟩ := okWide_struct Try.underlying34 hv
  obtain ⟨fuel, hf⟩ := h
  obtain ⟨a, b, h1, h2⟩ := key_cells hf
  have e2 : cs.toList = [.int .i64 a, .int .i64 b] := h1
  exact ⟨a, b, by rw [show cs = #[.int .i64 a, .int .i64 b] from by cases cs; simpa using e2], h2⟩
/-- A list of Posts, off its one cell. -/
theorem posts_cell {H : Type} {enc : TypeId × Value → H} {W : World} {base : Nat} {spare : Nat → Bool} {held : Bool} {v : Value} {fuel : Nat} {x : DataW H × List MemPlace}
    (hf : DataW.trod enc Try.prog W base spare held fuel 30 [v] = some x) : ∃ l : List Pv, PRd W v l ∧ okPv l := by
  have c8 : Try.prog.cellsOf 37 = 3 := by kernel_rfl
  rcases open_slice Try.underlying30 hf with ⟨e, _⟩ | ⟨a, len, cap, m, n, D, Pl, e, hb, hl, hm, hmm, _, hi⟩
  · simp only [List.cons.injEq, and_true] at e
    rw [e]
    exact ⟨[], ⟨none, 0, rfl, Nat.le_refl _, fun h => absurd h (by simp)⟩, fun x hx => by simp at hx⟩
  · simp only [List.cons.injEq, and_true] at e
    subst e
    have hlm : len ≤ m := by rw [hmm]; split <;> omega
    have each : ∀ i, i < len → ∃ q : Pv, (∀ j, j < 3 → W.cell? ((a.add (i * 3)).add j) = [.int .i64 q.o, .int .i64 q.s, q.a][j]?) ∧ Nl W q.a q.ns ∧ inR q.o ∧ inR q.s ∧ ∀ x ∈ q.ns, inR x := by
      intro i hi'
      obtain ⟨cs', h1, h2⟩ := hi i (by omega)
      rw [c8] at h1
      obtain ⟨_, _, h3⟩ := World.cells?_some h1
      obtain ⟨q, he, hq⟩ := post_cells h2
      exact ⟨q, fun j hj => by rw [h3 j hj, he], hq⟩
    obtain ⟨q, hq⟩ := choose_lt each
    refine ⟨(List.range len).map q, ⟨some a, cap, by simp, by simpa using hl, fun h0 => ?_⟩, fun x hx => ?_⟩
    · have h0' : 0 < len := by simpa using h0
      have hsp : a.spot = none := by
        have h1 := (hq 0 h0').1 0 (by decide)
        obtain ⟨b, o, s⟩ := a
        cases s with
        | none => rfl
        | some s => simp [World.cell?, Addr.add] at h1; split at h1 <;> simp at h1
      refine ⟨a.block, a.off, by obtain ⟨b, o, s⟩ := a; simp only at hsp; subst hsp; rfl, fun k hk => ?_⟩
      have hk' : k < len := by simpa using hk
      obtain ⟨h1, hn1, _⟩ := hq k hk'
      rw [add_off a _ hsp] at h1
      have h2 : ∀ j, j < 3 → W.cell? ⟨a.block, a.off + k * 3 + j, none⟩ = [.int .i64 (q k).o, .int .i64 (q k).s, (q k).a][j]? := fun j hj => by
        rw [← h1 j hj, add_plain]
      simp only [List.getElem_map, List.getElem_range]
      exact ⟨h2 0 (by decide), h2 1 (by decide), h2 2 (by decide), hn1⟩
    · obtain ⟨i, hi2, rfl⟩ := List.mem_map.1 hx
      exact (hq i (by simpa using hi2)).2.2
theorem open_posts {H : Type} {enc : TypeId × Value → H} {W : World} {r : Reach} {b0 base : Nat} {spare : Nat → Bool} {held : Bool} {v : Value} {d : DataW H} {p : List MemPlace}
    (hv : Value.okWide Try.prog W r b0 30 v) (h : DataW.Trod enc Try.prog W base spare held 30 v d p) : ∃ l : List Pv, PRd W v l ∧ okPv l := by
  obtain ⟨ad, len, cap, rfl⟩ := okWide_slice Try.underlying30 hv
  obtain ⟨fuel, hf⟩ := h
  simp only [Value.cells] at hf
  exact posts_cell hf
/-- A list of Keys. -/
theorem open_keys {H : Type} {enc : TypeId × Value → H} {W : World} {r : Reach} {b0 base : Nat} {spare : Nat → Bool} {held : Bool} {v : Value} {d : DataW H} {p : List MemPlace}
    (hv : Value.okWide Try.prog W r b0 25 v) (h : DataW.Trod enc Try.prog W base spare held 25 v d p) : ∃ l : List Ky, KRd W v l ∧ ∀ k ∈ l, okKy k := by
  obtain ⟨ad, len, cap, rfl⟩ := okWide_slice Try.underlying25 hv
  obtain ⟨fuel, hf⟩ := h
  simp only [Value.cells] at hf
  have c2 : Try.prog.cellsOf 34 = 2 := by kernel_rfl
  rcases open_slice Try.underlying25 hf with ⟨e, _⟩ | ⟨a, len', cap', m, n, D, Pl, e, hb, hl, hm, hmm, _, hi⟩
  · simp only [List.cons.injEq, and_true] at e
    rw [e]
    exact ⟨[], ⟨none, 0, rfl, Nat.le_refl _, fun h => absurd h (by simp)⟩, fun x hx => by simp at hx⟩
  · simp only [List.cons.injEq, and_true, Value.slice.injEq] at e
    obtain ⟨rfl, rfl, rfl⟩ := e
    have hlm : len ≤ m := by rw [hmm]; split <;> omega
    have each : ∀ i, i < len → ∃ q : Ky, (∀ j, j < 2 → W.cell? ((a.add (i * 2)).add j) = [.int .i64 q.1, .int .i64 q.2][j]?) ∧ okKy q := by
      intro i hi'
      obtain ⟨cs', h1, h2⟩ := hi i (by omega)
      rw [c2] at h1
      obtain ⟨_, _, h3⟩ := World.cells?_some h1
      obtain ⟨x, y, he, hx, hy⟩ := key_cells h2
      exact ⟨(x, y), fun j hj => by rw [h3 j hj, he], hx, hy⟩
    obtain ⟨q, hq⟩ := choose_lt each
    refine ⟨(List.range len).map q, ⟨some a, cap, by simp, by simpa using hl, fun h0 => ?_⟩, fun x hx => ?_⟩
    · have h0' : 0 < len := by simpa using h0
      have hsp : a.spot = none := by
        have h1 := (hq 0 h0').1 0 (by decide)
        obtain ⟨b, o, s⟩ := a
        cases s with
        | none => rfl
        | some s => simp [World.cell?, Addr.add] at h1; split at h1 <;> simp at h1
      refine ⟨a.block, a.off, by obtain ⟨b, o, s⟩ := a; simp only at hsp; subst hsp; rfl, fun k hk => ?_⟩
      have hk' : k < len := by simpa using hk
      obtain ⟨h1, _⟩ := hq k hk'
      rw [add_off a _ hsp] at h1
      have h2 : ∀ j, j < 2 → W.cell? ⟨a.block, a.off + k * 2 + j, none⟩ = [.int .i64 (q k).1, .int .i64 (q k).2][j]? := fun j hj => by
        rw [← h1 j hj, add_plain]
      simp only [List.getElem_map, List.getElem_range]
      exact ⟨h2 0 (by decide), h2 1 (by decide)⟩
    · obtain ⟨i, hi2, rfl⟩ := List.mem_map.1 hx
      exact (hq i (by simpa using hi2)).2
theorem open_lists {H : Type} {enc : TypeId × Value → H} {W : World} {r : Reach} {b0 base : Nat} {spare : Nat → Bool} {held : Bool} {v : Value} {d : DataW H} {p : List MemPlace}
    (hv : Value.okWide Try.prog W r b0 22 v) (h : DataW.Trod enc Try.prog W base spare held 22 v d p) : ∃ ls : List Lv, LRd W v ls ∧ ∀ y ∈ ls, okPv y.l := by
  obtain ⟨ad, len, cap, rfl⟩ := okWide_slice Try.underlying22 hv
  obtain ⟨fuel, hf⟩ := h
  simp only [Value.cells] at hf
  rcases open_slice1 Try.underlying22 (by kernel_rfl) hf with ⟨e, _⟩ | ⟨a, len', cap', m, n, V, D, Pls, e, hb, hl, hm, hmm, _, hi⟩
  · simp only [List.cons.injEq, and_true] at e
    rw [e]
    exact ⟨[], ⟨⟨none, 0, rfl, Nat.le_refl _, fun h => absurd h (by simp)⟩, fun x hx => by simp at hx⟩, fun x hx => by simp at hx⟩
  · simp only [List.cons.injEq, and_true, Value.slice.injEq] at e
    obtain ⟨rfl, rfl, rfl⟩ := e
    have hlm : len ≤ m := by rw [hmm]; split <;> omega
    have each : ∀ i, i < len → ∃ q : List Pv, W.cell? (a.add i) = some (V i) ∧ PRd W (V i) q ∧ okPv q := by
      intro i hi'
      obtain ⟨h1, h2⟩ := hi i (by omega)
      obtain ⟨l, hp, ho⟩ := posts_cell h2
      exact ⟨l, h1, hp, ho⟩
    obtain ⟨q, hq⟩ := choose_lt each
    refine ⟨(List.range len).map fun i => ⟨V i, q i⟩, ⟨⟨some a, cap, by simp, by simpa using hl, fun h0 => ?_⟩, fun x hx => ?_⟩, fun x hx => ?_⟩
    · have h0' : 0 < len := by simpa using h0
      have hsp := spot_none (hq 0 h0').1
      refine ⟨a.block, a.off, by obtain ⟨b, o, s⟩ := a; simp only at hsp; subst hsp; rfl, fun k hk => ?_⟩
      have hk' : k < len := by simpa using hk
      have h1 := (hq k hk').1
      rw [add_off a _ hsp] at h1
      simp only [List.getElem_map, List.getElem_range]
      exact h1
    · obtain ⟨i, hi2, rfl⟩ := List.mem_map.1 hx
      exact (hq i (by simpa using hi2)).2.1
    · obtain ⟨i, hi2, rfl⟩ := List.mem_map.1 hx
      exact (hq i (by simpa using hi2)).2.2
theorem trodAll_five {H : Type} {enc : TypeId × Value → H} {P : Program} {w : World} {base : Nat} {spare : Nat → Bool} {held : Bool} {t0 t1 t2 t3 t4 : TypeId} {args : Array Value} {ds : List (DataW H)} {ps : List MemPlace} (h : DataW.TrodAll enc P w base spare held [t0, t1, t2, t3, t4] args.toList ds ps) :
    ∃ v0 v1 v2 v3 v4 d0 d1 d2 d3 d4 p0 p1 p2 p3 p4, args = #[v0, v1, v2, v3, v4] ∧ ds = [d0, d1, d2, d3, d4] ∧ DataW.Trod enc P w base spare held t0 v0 d0 p0 ∧ DataW.Trod enc P w base spare held t1 v1 d1 p1 ∧ DataW.Trod enc P w base spare held t2 v2 d2 p2 ∧ DataW.Trod enc P w base spare held t3 v3 d3 p3 ∧ DataW.Trod enc P w base spare held t4 v4 d4 p4 := by
  obtain ⟨v0, vs0, d0, ds0, p0, q0, hargs, rfl, rfl, h0, r0⟩ := trodAll_cons h
  obtain ⟨v1, vs1, d1, ds1, p1, q1, rfl, rfl, rfl, h1, r1⟩ := trodAll_cons r0
  obtain ⟨v2, vs2, d2, ds2, p2, q2, rfl, rfl, rfl, h2, r2⟩ := trodAll_cons r1
  obtain ⟨v3, vs3, d3, ds3, p3, q3, rfl, rfl, rfl, h3, r3⟩ := trodAll_cons r2
  obtain ⟨v4, vs4, d4, ds4, p4, q4, rfl, rfl, rfl, h4, r4⟩ := trodAll_cons r3
  obtain ⟨rfl, rfl, rfl⟩ := trodAll_nil r4
  exact ⟨v0, v1, v2, v3, v4, d0, d1, d2, d3, d4, p0, p1, p2, p3, p4, by cases args; simp_all, rfl, h0, h1, h2, h3, h4⟩
end Go.Proofs.Ytgdajnjfkokmdaa
namespace Go.Proofs.Ytgdajnjfkokmdaa
open Go.RowKit Go.ChangeShapes Go.WideShapes Go.ChangeAt Go.Deep

set_option maxRecDepth 100000 in
theorem tells_lifted (os : Os) (started : os.Started) (H : Type) (enc : TypeId × Value → H) :
    ReturnsInHanded {} Try.checked os 3 .any (Rows.postTellsSpec.pre6 enc Try.prog Try.f3 [] false) (Rows.postTellsSpec.post enc Try.prog Try.f3 false true false false) := by
  refine law_lift (C := Try.checked) own started (by kernel_rfl) Try.func3
    (ChangeSpec.witness6 (enc := enc) (C := Try.checked) false ⟨#[], #[.slice none 0 0], []⟩ 8 (by kernel_rfl) (by kernel_rfl) (by kernel_rfl) (by kernel_rfl)) laidOut
    (by rw [Try.params3]; exact of_decide_eq_true (by kernel_rfl)) rfl 4 Try.underlying4 (by kernel_rfl)
    (fun ds h => by
      rw [Try.params3] at h
      match ds, h with
      | [_], _ => rfl) ?_
  intro W base args ds ps hval hA _
  rw [Try.params3] at hA hval
  obtain ⟨v0, d0, rfl, rfl, h0⟩ := trodAll_one hA
  obtain ⟨ls, hL, hok⟩ := open_lists (hval 0 22 v0 rfl rfl) h0
  exact tells_law pand_c por_c pphr_c pmay_all awake_c ls v0 W hL (fun l hl => by
    obtain ⟨y, hy, rfl⟩ := List.mem_map.1 hl
    exact (hok y hy).p)

theorem tells_holds : Rows.PostTellsSaid :=
  OpenClaim.holds_of_wide 3 Try.f3 rfl rfl rfl rfl rfl rfl rfl ⟨rfl, rfl, rfl, rfl, rfl⟩ rfl rfl rfl rfl rfl (by kernel_rfl) Try.func3 (by kernel_rfl)
    (of_decide_eq_true (by kernel_rfl)) (by unfold Func.isWrapper; first | (rw [if_pos (by decide +kernel)]; kernel_rfl) | (rw [if_neg (by decide +kernel)]; exact ⟨rfl, rfl⟩))
    (fun os started H enc _ => tells_lifted os started H enc)
#print axioms tells_holds
end Go.Proofs.Ytgdajnjfkokmdaa
