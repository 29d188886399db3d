/-
  PROVED: what a list is with a Post more, and without a Key, is the document's; so is what some Keys leave of others, for every input (no condition)
-/
import Derived.Test.YtgdajnjfkokmdaaPstNew
import Derived.Test.YtgdajnjfkokmdaaPstKeyMap
import Derived.Test.YtgdajnjfkokmdaaLift
import Derived.Deep.SlicePairs
import Derived.Deep.Slices
import Derived.Lib.SmallJoins
import Derived.Test.YtgdajnjfkokmdaaPstPPut
import Derived.Test.YtgdajnjfkokmdaaPstPMay
import Derived.Test.YtgdajnjfkokmdaaPstPLess
import Derived.Test.YtgdajnjfkokmdaaPstAwake
namespace Go.Proofs.Ytgdajnjfkokmdaa
open Go.RowKit Go.ChangeShapes Go.WideShapes Go.ChangeAt Go.Deep Go.Joins
set_option maxRecDepth 100000

theorem wf_inR {n : Int} (h : (Lit.int .i64 n).wf = true) : inR n := by
  have e : IntKind.i64.min = -9223372036854775808 := by decide
  have e2 : IntKind.i64.max = 9223372036854775807 := by decide
  simpa [Lit.wf, e, e2, inR] using h
theorem add_off (a : Addr) (k : Nat) (hs : a.spot = none) : a.add k = ⟨a.block, a.off + k, none⟩ := by
  obtain ⟨b, o, s⟩ := a
  simp only at hs
  subst hs
  exact add_plain ..
theorem spot_none {W : World} {a : Addr} {v : Value} (h : W.cell? (a.add 0) = some v) : a.spot = none := by
  obtain ⟨b, o, s⟩ := a
  cases s with
  | none => rfl
  | some s => simp [World.cell?, Addr.add] at h; split at h <;> simp at h

/-- A Key, off its cells. -/
theorem key_cells {H : Type} {enc : TypeId × Value → H} {W : World} {base : Nat} {spare : Nat → Bool} {held : Bool} {fuel : Nat} {cs : List Value} {x : DataW H × List MemPlace}
    (h : DataW.trod enc Try.prog W base spare held fuel 34 cs = some x) : ∃ a b : Int, cs = [.int .i64 a, .int .i64 b] ∧ inR a ∧ inR b := by
  obtain ⟨y0, y1, n, _, hl, h0, h1⟩ := trod_struct2 Try.underlying34 h
  have ck : Try.prog.cellsOf 34 = 2 := by kernel_rfl
  have c3 : Try.prog.cellsOf 3 = 1 := by kernel_rfl
  simp only [c3] at h0 h1
  rw [ck] at hl
  match cs, hl with
  | [u, v], _ =>
    obtain ⟨a, e0, _, wa⟩ := DataW.trod_int (t := 3) Try.underlying3 h0
    obtain ⟨b, e1, _, wb⟩ := DataW.trod_int (t := 3) Try.underlying3 h1
    simp at e0 e1
    exact ⟨a, b, by rw [e0, e1], wf_inR wa, wf_inR wb⟩

/-- A list of numbers, off its one cell. -/
theorem open_cell {H : Type} {enc : TypeId × Value → H} {W : World} {base : Nat} {spare : Nat → Bool} {held : Bool} {v : Value} {fuel : Nat} {x : DataW H × List MemPlace}
    (hf : DataW.trod enc Try.prog W base spare held fuel 35 [v] = some x) : ∃ l : List Int, Nl W v l ∧ ∀ x ∈ l, inR x := by
  rcases open_slice1 Try.underlying35 (by kernel_rfl) hf with ⟨e, _⟩ | ⟨a, len', cap', m, n, V, D, Pl, e, hb, hl, hm, hmm, _, hi⟩
  · simp only [List.cons.injEq, and_true] at e
    exact ⟨[], .inl ⟨e, rfl⟩, fun x hx => by simp at hx⟩
  · simp only [List.cons.injEq, and_true] at e
    subst e
    have hlm : len' ≤ m := by rw [hmm]; split <;> omega
    have each : ∀ i, i < len' → ∃ q : Int, W.cell? (a.add i) = some (.int .i64 q) ∧ inR q := by
      intro i hi'
      obtain ⟨h1, h2⟩ := hi i (by omega)
      obtain ⟨x, e0, _, hw⟩ := DataW.trod_int (t := 3) Try.underlying3 h2
      simp only [List.cons.injEq, and_true] at e0
      exact ⟨x, by rw [h1, e0], wf_inR hw⟩
    obtain ⟨q, hq⟩ := choose_lt each
    refine ⟨(List.range len').map q, .inr ⟨a, cap', by simp, fun h0 => ?_⟩, fun x hx => ?_⟩
    · have h0' : 0 < len' := by simpa using h0
      have hsp := spot_none (hq 0 h0').1
      refine ⟨a.block, a.off, by obtain ⟨b, o, s⟩ := a; simp only at hsp; subst hsp; rfl, fun k hk => ?_⟩
      have hk' : k < len' := by simpa using hk
      have h1 := (hq k hk').1
      rw [add_off a _ hsp] at h1
      simp only [List.getElem_map, List.getElem_range]
      exact h1
    · obtain ⟨i, hi2, rfl⟩ := List.mem_map.1 hx
      exact (hq i (by simpa using hi2)).2
/-- A Post, off its cells. -/
theorem post_cells {H : Type} {enc : TypeId × Value → H} {W : World} {base : Nat} {spare : Nat → Bool} {held : Bool} {fuel : Nat} {cs : List Value} {x : DataW H × List MemPlace}
    (h : DataW.trod enc Try.prog W base spare held fuel 37 cs = some x) : ∃ q : Pv, cs = [.int .i64 q.o, .int .i64 q.s, q.a] ∧ Nl W q.a q.ns ∧ inR q.o ∧ inR q.s ∧ ∀ x ∈ q.ns, inR x := by
  obtain ⟨y0, y1, n, _, hl, h0, h1⟩ := trod_struct2 Try.underlying37 h
  have c8 : Try.prog.cellsOf 37 = 3 := by kernel_rfl
  have ck : Try.prog.cellsOf 34 = 2 := by kernel_rfl
  have cv : Try.prog.cellsOf 35 = 1 := by kernel_rfl
  rw [c8] at hl
  match cs, hl with
  | [u0, u1, u2], _ =>
    simp only [ck, cv] at h0 h1
    obtain ⟨a, b, e0, wa, wb⟩ := key_cells h0
    obtain ⟨lv, n1, hv⟩ := open_cell (v := u2) h1
    simp at e0
    exact ⟨⟨a, b, u2, lv⟩, by rw [e0.1, e0.2], n1, wa, wb, hv⟩
instance : Inhabited Pv := ⟨⟨0, 0, .slice none 0 0, []⟩⟩
/-- What an int holds, of a whole list. -/
def okPv (l : List Pv) : Prop := ∀ x ∈ l, inR x.o ∧ inR x.s ∧ ∀ y ∈ x.ns, inR y
theorem okPv.p {l : List Pv} (h : okPv l) : okP (ps l) := fun p hp => by
  obtain ⟨x, hx, rfl⟩ := List.mem_map.1 hp
  exact (h x hx).2.2
theorem okPv.k {l : List Pv} (h : okPv l) : ∀ k ∈ (ps l).map Po.k, okKy k := fun k hk => by
  obtain ⟨p, hp, rfl⟩ := List.mem_map.1 hk
  obtain ⟨x, hx, rfl⟩ := List.mem_map.1 hp
  exact ⟨(h x hx).1, (h x hx).2.1⟩
theorem open_post {H : Type} {enc : TypeId × Value → H} {W : World} {r : Reach} {b0 base : Nat} {spare : Nat → Bool} {held : Bool} {v : Value} {d : DataW H} {p : List MemPlace}
    (hv : Value.okWide Try.prog W r b0 37 v) (h : DataW.Trod enc Try.prog W base spare held 37 v d p) : ∃ q : Pv, v = .agg #[.int .i64 q.o, .int .i64 q.s, q.a] ∧ Nl W q.a q.ns := by
  obtain ⟨cs, rfl, hsz⟩ := okWide_struct Try.underlying37 hv
  obtain ⟨fuel, hf⟩ := h
  obtain ⟨q, h1, h2, _⟩ := post_cells hf
  have e2 : cs.toList = [.int .i64 q.o, .int .i64 q.s, q.a] := h1
  exact ⟨q, by rw [show cs = #[.int .i64 q.o, .int .i64 q.s, q.a] from by cases cs; simpa using e2], h2⟩
theorem open_key {H : Type} {enc : TypeId × Value → H} {W : World} {r : Reach} {b0 base : Nat} {spare : Nat → Bool} {held : Bool} {v : Value} {d : DataW H} {p : List MemPlace}
    (hv : Value.okWide Try.prog W r b0 34 v) (h : DataW.Trod enc Try.prog W base spare held 34 v d p) : ∃ a b : Int, v = .agg #[.int .i64 a, .int .i64 b] ∧ inR a ∧ inR b := by
  obtain ⟨cs, rfl, hsz⟩ := okWide_struct Try.underlying34 hv
  obtain ⟨fuel, hf⟩ := h
  obtain ⟨a, b, h1, h2⟩ := key_cells hf
  have e2 : cs.toList = [.int .i64 a, .int .i64 b] := h1
  exact ⟨a, b, by rw [show cs = #[.int .i64 a, .int .i64 b] from by cases cs; simpa using e2], h2⟩
/-- A list of Posts, off its one cell. -/
theorem posts_cell {H : Type} {enc : TypeId × Value → H} {W : World} {base : Nat} {spare : Nat → Bool} {held : Bool} {v : Value} {fuel : Nat} {x : DataW H × List MemPlace}
    (hf : DataW.trod enc Try.prog W base spare held fuel 30 [v] = some x) : ∃ l : List Pv, PRd W v l ∧ okPv l := by
  have c8 : Try.prog.cellsOf 37 = 3 := by kernel_rfl
  rcases open_slice Try.underlying30 hf with ⟨e, _⟩ | ⟨a, len, cap, m, n, D, Pl, e, hb, hl, hm, hmm, _, hi⟩
  · simp only [List.cons.injEq, and_true] at e
    rw [e]
    exact ⟨[], ⟨none, 0, rfl, Nat.le_refl _, fun h => absurd h (by simp)⟩, fun x hx => by simp at hx⟩
  · simp only [List.cons.injEq, and_true] at e
    subst e
    have hlm : len ≤ m := by rw [hmm]; split <;> omega
    have each : ∀ i, i < len → ∃ q : Pv, (∀ j, j < 3 → W.cell? ((a.add (i * 3)).add j) = [.int .i64 q.o, .int .i64 q.s, q.a][j]?) ∧ Nl W q.a q.ns ∧ inR q.o ∧ inR q.s ∧ ∀ x ∈ q.ns, inR x := by
      intro i hi'
      obtain ⟨cs', h1, h2⟩ := hi i (by omega)
      rw [c8] at h1
      obtain ⟨_, _, h3⟩ := World.cells?_some h1
      obtain ⟨q, he, hq⟩ := post_cells h2
      exact ⟨q, fun j hj => by rw [h3 j hj, he], hq⟩
    obtain ⟨q, hq⟩ := choose_lt each
    refine ⟨(List.range len).map q, ⟨some a, cap, by simp, by simpa using hl, fun h0 => ?_⟩, fun x hx => ?_⟩
    · have h0' : 0 < len := by simpa using h0
      have hsp : a.spot = none := by
        have h1 := (hq 0 h0').1 0 (by decide)
        obtain ⟨b, o, s⟩ := a
        cases s with
        | none => rfl
        | some s => simp [World.cell?, Addr.add] at h1; split at h1 <;> simp at h1
      refine ⟨a.block, a.off, by obtain ⟨b, o, s⟩ := a; simp only at hsp; subst hsp; rfl, fun k hk => ?_⟩
      have hk' : k < len := by simpa using hk
      obtain ⟨h1, hn1, _⟩ := hq k hk'
      rw [add_off a _ hsp] at h1
      have h2 : ∀ j, j < 3 → W.cell? ⟨a.block, a.off + k * 3 + j, none⟩ = [.int .i64 (q k).o, .int .i64 (q k).s, (q k).a][j]? := fun j hj => by
        rw [← h1 j hj, add_plain]
      simp only [List.getElem_map, List.getElem_range]
      exact ⟨h2 0 (by decide), h2 1 (by decide), h2 2 (by decide), hn1⟩
    · obtain ⟨i, hi2, rfl⟩ := List.mem_map.1 hx
      exact (hq i (by simpa using hi2)).2.2
theorem open_posts {H : Type} {enc : TypeId × Value → H} {W : World} {r : Reach} {b0 base : Nat} {spare : Nat → Bool} {held : Bool} {v : Value} {d : DataW H} {p : List MemPlace}
    (hv : Value.okWide Try.prog W r b0 30 v) (h : DataW.Trod enc Try.prog W base spare held 30 v d p) : ∃ l : List Pv, PRd W v l ∧ okPv l := by
  obtain ⟨ad, len, cap, rfl⟩ := okWide_slice Try.underlying30 hv
  obtain ⟨fuel, hf⟩ := h
  simp only [Value.cells] at hf
  exact posts_cell hf
/-- A list of Keys. -/
theorem open_keys {H : Type} {enc : TypeId × Value → H} {W : World} {r : Reach} {b0 base : Nat} {spare : Nat → Bool} {held : Bool} {v : Value} {d : DataW H} {p : List MemPlace}
    (hv : Value.okWide Try.prog W r b0 25 v) (h : DataW.Trod enc Try.prog W base spare held 25 v d p) : ∃ l : List Ky, KRd W v l ∧ ∀ k ∈ l, okKy k := by
  obtain ⟨ad, len, cap, rfl⟩ := okWide_slice Try.underlying25 hv
  obtain ⟨fuel, hf⟩ := h
  simp only [Value.cells] at hf
  have c2 : Try.prog.cellsOf 34 = 2 := by kernel_rfl
  rcases open_slice Try.underlying25 hf with ⟨e, _⟩ | ⟨a, len', cap', m, n, D, Pl, e, hb, hl, hm, hmm, _, hi⟩
  · simp only [List.cons.injEq, and_true] at e
    rw [e]
    exact ⟨[], ⟨none, 0, rfl, Nat.le_refl _, fun h => absurd h (by simp)⟩, fun x hx => by simp at hx⟩
  · simp only [List.cons.injEq, and_true, Value.slice.injEq] at e
    obtain ⟨rfl, rfl, rfl⟩ := e
    have hlm : len ≤ m := by rw [hmm]; split <;> omega
    have each : ∀ i, i < len → ∃ q : Ky, (∀ j, j < 2 → W.cell? ((a.add (i * 2)).add j) = [.int .i64 q.1, .int .i64 q.2][j]?) ∧ okKy q := by
      intro i hi'
      obtain ⟨cs', h1, h2⟩ := hi i (by omega)
      rw [c2] at h1
      obtain ⟨_, _, h3⟩ := World.cells?_some h1
      obtain ⟨x, y, he, hx, hy⟩ := key_cells h2
      exact ⟨(x, y), fun j hj => by rw [h3 j hj, he], hx, hy⟩
    obtain ⟨q, hq⟩ := choose_lt each
    refine ⟨(List.range len).map q, ⟨some a, cap, by simp, by simpa using hl, fun h0 => ?_⟩, fun x hx => ?_⟩
    · have h0' : 0 < len := by simpa using h0
      have hsp : a.spot = none := by
        have h1 := (hq 0 h0').1 0 (by decide)
        obtain ⟨b, o, s⟩ := a
        cases s with
        | none => rfl
        | some s => simp [World.cell?, Addr.add] at h1; split at h1 <;> simp at h1
      refine ⟨a.block, a.off, by obtain ⟨b, o, s⟩ := a; simp only at hsp; subst hsp; rfl, fun k hk => ?_⟩
      have hk' : k < len := by simpa using hk
      obtain ⟨h1, _⟩ := hq k hk'
      rw [add_off a _ hsp] at h1
      have h2 : ∀ j, j < 2 → W.cell? ⟨a.block, a.off + k * 2 + j, none⟩ = [.int .i64 (q k).1, .int .i64 (q k).2][j]? := fun j hj => by
        rw [← h1 j hj, add_plain]
      simp only [List.getElem_map, List.getElem_range]
      exact ⟨h2 0 (by decide), h2 1 (by decide)⟩
    · obtain ⟨i, hi2, rfl⟩ := List.mem_map.1 hx
      exact (hq i (by simpa using hi2)).2
theorem open_lists {H : Type} {enc : TypeId × Value → H} {W : World} {r : Reach} {b0 base : Nat} {spare : Nat → Bool} {held : Bool} {v : Value} {d : DataW H} {p : List MemPlace}
    (hv : Value.okWide Try.prog W r b0 22 v) (h : DataW.Trod enc Try.prog W base spare held 22 v d p) : ∃ ls : List Lv, LRd W v ls ∧ ∀ y ∈ ls, okPv y.l := by
  obtain ⟨ad, len, cap, rfl⟩ := okWide_slice Try.underlying22 hv
  obtain ⟨fuel, hf⟩ := h
  simp only [Value.cells] at hf
  rcases open_slice1 Try.underlying22 (by kernel_rfl) hf with ⟨e, _⟩ | ⟨a, len', cap', m, n, V, D, Pls, e, hb, hl, hm, hmm, _, hi⟩
  · simp only [List.cons.injEq, and_true] at e
    rw [e]
    exact ⟨[], ⟨⟨none, 0, rfl, Nat.le_refl _, fun h => absurd h (by simp)⟩, fun x hx => by simp at hx⟩, fun x hx => by simp at hx⟩
  · simp only [List.cons.injEq, and_true, Value.slice.injEq] at e
    obtain ⟨rfl, rfl, rfl⟩ := e
    have hlm : len ≤ m := by rw [hmm]; split <;> omega
    have each : ∀ i, i < len → ∃ q : List Pv, W.cell? (a.add i) = some (V i) ∧ PRd W (V i) q ∧ okPv q := by
      intro i hi'
      obtain ⟨h1, h2⟩ := hi i (by omega)
      obtain ⟨l, hp, ho⟩ := posts_cell h2
      exact ⟨l, h1, hp, ho⟩
    obtain ⟨q, hq⟩ := choose_lt each
    refine ⟨(List.range len).map fun i => ⟨V i, q i⟩, ⟨⟨some a, cap, by simp, by simpa using hl, fun h0 => ?_⟩, fun x hx => ?_⟩, fun x hx => ?_⟩
    · have h0' : 0 < len := by simpa using h0
      have hsp := spot_none (hq 0 h0').1
      refine ⟨a.block, a.off, by obtain ⟨b, o, s⟩ := a; simp only at hsp; subst hsp; rfl, fun k hk => ?_⟩
      have hk' : k < len := by simpa using hk
      have h1 := (hq k hk').1
      rw [add_off a _ hsp] at h1
      simp only [List.getElem_map, List.getElem_range]
      exact h1
    · obtain ⟨i, hi2, rfl⟩ := List.mem_map.1 hx
      exact (hq i (by simpa using hi2)).2.1
    · obtain ⟨i, hi2, rfl⟩ := List.mem_map.1 hx
      exact (hq i (by simpa using hi2)).2.2
theorem trodAll_five {H : Type} {enc : TypeId × Value → H} {P : Program} {w : World} {base : Nat} {spare : Nat → Bool} {held : Bool} {t0 t1 t2 t3 t4 : TypeId} {args : Array Value} {ds : List (DataW H)} {ps : List MemPlace} (h : DataW.TrodAll enc P w base spare held [t0, t1, t2, t3, t4] args.toList ds ps) :
    ∃ v0 v1 v2 v3 v4 d0 d1 d2 d3 d4 p0 p1 p2 p3 p4, args = #[v0, v1, v2, v3, v4] ∧ ds = [d0, d1, d2, d3, d4] ∧ DataW.Trod enc P w base spare held t0 v0 d0 p0 ∧ DataW.Trod enc P w base spare held t1 v1 d1 p1 ∧ DataW.Trod enc P w base spare held t2 v2 d2 p2 ∧ DataW.Trod enc P w base spare held t3 v3 d3 p3 ∧ DataW.Trod enc P w base spare held t4 v4 d4 p4 := by
  obtain ⟨v0, vs0, d0, ds0, p0, q0, hargs, rfl, rfl, h0, r0⟩ := trodAll_cons h
  obtain ⟨v1, vs1, d1, ds1, p1, q1, rfl, rfl, rfl, h1, r1⟩ := trodAll_cons r0
  obtain ⟨v2, vs2, d2, ds2, p2, q2, rfl, rfl, rfl, h2, r2⟩ := trodAll_cons r1
  obtain ⟨v3, vs3, d3, ds3, p3, q3, rfl, rfl, rfl, h3, r3⟩ := trodAll_cons r2
  obtain ⟨v4, vs4, d4, ds4, p4, q4, rfl, rfl, rfl, h4, r4⟩ := trodAll_cons r3
  obtain ⟨rfl, rfl, rfl⟩ := trodAll_nil r4
  exact ⟨v0, v1, v2, v3, v4, d0, d1, d2, d3, d4, p0, p1, p2, p3, p4, by cases args; simp_all, rfl, h0, h1, h2, h3, h4⟩
end Go.Proofs.Ytgdajnjfkokmdaa
namespace Go.Proofs.Ytgdajnjfkokmdaa
open Go.RowKit Go.Lib

theorem bk_one {w : World} {g : Nat} {o s : Int} {xa : Value} {xn : List Int} (h : Bx 37 w g #[.int .i64 o, .int .i64 s, xa]) (hn : Nl w xa xn) : PRd w (.slice (some ⟨g, 0, none⟩) 1 1) [⟨o, s, xa, xn⟩] :=
  ⟨_, 1, rfl, Nat.le_refl _, fun _ => ⟨g, 0, rfl, fun k hk => by
    match k, hk with
    | 0, _ => exact ⟨h.cell 0, h.cell 1, h.cell 2, hn⟩⟩⟩
theorem bk_great {w : World} {va xa : Value} {a : List Pv} {xn : List Int} (o s : Int) (ha : PRd w va a) (hx : Nl w xa xn) :
    Calls Try.prog 8 #[.slice (some ⟨w.heap.size + 1 + 1, 0, none⟩) 2 2, .int .i64 2] (((w.alloc (.cells #[.int .i64 o, .int .i64 s, xa] 37)).alloc (.cells #[.int .i64 o, .int .i64 s, xa] 37)).alloc (.cells #[va, .slice (some ⟨w.heap.size + 1, 0, none⟩) 1 1] 30)) fun e w' => ∃ g : Bool, e = .returned (.bool g) ∧ Below w.heap.size w w' ∧ Bx 37 w' w.heap.size #[.int .i64 o, .int .i64 s, xa] ∧ (g = false → small1 a ∧ xn.length ≤ 30) := by
  have hal := below_two w (.cells #[.int .i64 o, .int .i64 s, xa] 37) (.cells #[.int .i64 o, .int .i64 s, xa] 37)
  have b1 := (Bx.new 37 w #[.int .i64 o, .int .i64 s, xa]).below (alloc_below _ (.cells #[.int .i64 o, .int .i64 s, xa] 37))
  have b2 := Bx.new 37 (w.alloc (.cells #[.int .i64 o, .int .i64 s, xa] 37)) #[.int .i64 o, .int .i64 s, xa]
  have h := great_two (ha.below hal) (bk_one b2 (hx.below hal))
  have hsz : ((w.alloc (.cells #[.int .i64 o, .int .i64 s, xa] 37)).alloc (.cells #[.int .i64 o, .int .i64 s, xa] 37)).heap.size = w.heap.size + 1 + 1 := by simp
  have hs1 : (w.alloc (.cells #[.int .i64 o, .int .i64 s, xa] 37)).heap.size = w.heap.size + 1 := by simp
  rw [hsz, hs1] at h
  refine h.mono ?_
  rintro e w' ⟨g, h1, h2, h3⟩
  have h2' : Below ((w.alloc (.cells #[.int .i64 o, .int .i64 s, xa] 37)).alloc (.cells #[.int .i64 o, .int .i64 s, xa] 37)).heap.size ((w.alloc (.cells #[.int .i64 o, .int .i64 s, xa] 37)).alloc (.cells #[.int .i64 o, .int .i64 s, xa] 37)) w' := by rw [hsz]; exact h2
  exact ⟨g, h1, bn hal h2', b1.below h2', fun h => ⟨(h3 h).1, (h3 h).2.2 ⟨o, s, xa, xn⟩ (by simp)⟩⟩
theorem bk_mayL (o s : Int) (xa : Value) (xn : List Int) : mayL (ps [⟨o, s, xa, xn⟩]) = oneB xn := by
  rw [Bool.eq_iff_iff, mayL_iff]
  simp [ps, Pv.p, Rise]
theorem bk_may1 {w : World} {o s : Int} {xa : Value} {xn : List Int} (hx : Nl w xa xn) (hn : xn.length ≤ 30) : Calls Try.prog 17 #[.slice (some ⟨w.heap.size, 0, none⟩) 1 1] (w.alloc (.cells #[.int .i64 o, .int .i64 s, xa] 37)) fun e w' => e = .returned (.bool (oneB xn)) ∧ Below w.heap.size w w' := by
  have hal := alloc_below w (.cells #[.int .i64 o, .int .i64 s, xa] 37)
  refine (pmay_c [⟨o, s, xa, xn⟩] _ _ (bk_one (Bx.new 37 w _) (hx.below hal)) (by simp) (fun x hx => by simp at hx; subst hx; simp; omega)).mono ?_
  rintro e w' ⟨h1, h2⟩
  exact ⟨by rw [h1, bk_mayL], bn hal h2⟩
def bkN (l : List Pv) (o s : Int) (i : Nat) : Nat := (l.take i).countP fun y => y.o == o && y.s == s
theorem bkN_zero (l : List Pv) (o s : Int) : bkN l o s 0 = 0 := rfl
theorem bkN_le (l : List Pv) (o s : Int) (i : Nat) : bkN l o s i ≤ i := Nat.le_trans List.countP_le_length (by rw [List.length_take]; omega)
theorem bkN_succ {l : List Pv} (o s : Int) {i : Nat} (h : i < l.length) : bkN l o s (i + 1) = bkN l o s i + if (l[i].o == o && l[i].s == s) = true then 1 else 0 := by
  unfold bkN
  rw [List.take_succ_eq_append_getElem h, List.countP_append, List.countP_singleton]
theorem bk_end {ys : List Pv} {L : List Po} {o s : Int} (h : ps ys = L) (hc : L.countP (fun y => y.k == (o, s)) = 1) : bkN ys o s ys.length = 1 := by
  subst h
  unfold bkN
  rw [List.take_length]
  rw [ps, List.countP_map] at hc
  rw [← hc]
  rfl
theorem bk_key {ys : List Pv} {L : List Po} {o s : Int} {xn : List Int} (h : ps ys = L) (hc : ∀ y ∈ L, y.k = (o, s) → y = ⟨(o, s), xn⟩) : ∀ y ∈ ys, (y.o == o && y.s == s) = true → xn = y.ns := fun y hy e => by
  subst h
  have h1 := hc y.p (List.mem_map_of_mem hy) (by simpa [Pv.p] using e)
  exact (congrArg Po.ns h1).symm
theorem bk_len {l m : List Pv} {n : Nat} (h : ps l = ps m) (hm : ∀ x ∈ m, x.ns.length ≤ n) : ∀ x ∈ l, x.ns.length ≤ n := fun x hx => by
  have h1 : x.p ∈ ps m := by rw [← h]; exact List.mem_map_of_mem hx
  obtain ⟨y, hy, e⟩ := List.mem_map.1 h1
  have := hm y hy
  have e2 : y.ns = x.ns := congrArg Po.ns e
  rw [← e2]
  exact this
theorem bk_mem {a : List Pv} {p : Po} {o s : Int} (h : p ∈ dropP (ps a) (o, s)) : p ∈ ps a := by
  unfold dropP at h
  split at h
  · exact (List.mem_filter.1 h).1
  · cases h
theorem bk_dl (l : List Po) (k : Ky) : (dropP l k).length ≤ l.length := by
  unfold dropP
  split
  · exact List.length_filter_le _ _
  · exact Nat.zero_le _
theorem bk_drop {a ws : List Pv} {o s : Int} (hs : small1 a) (h : ps ws = dropP (ps a) (o, s)) : small1 ws := by
  refine ⟨?_, fun x hx => ?_⟩
  · have h1 := congrArg List.length h
    have h2 : (dropP (ps a) (o, s)).length ≤ (ps a).length := bk_dl _ _
    simp only [ps, List.length_map] at h1 h2
    have := hs.1
    omega
  · have h1 : x.p ∈ ps a := bk_mem (by rw [← h]; exact List.mem_map_of_mem hx)
    obtain ⟨y, hy, e⟩ := List.mem_map.1 h1
    have e2 : y.ns = x.ns := congrArg Po.ns e
    rw [← e2]
    exact hs.2 y hy
theorem bk_put {a ys : List Pv} {o s : Int} {xn : List Int} (hs : small1 a) (hn : xn.length ≤ 30) (hm : mayL (ps a) = true) (hx : oneB xn = true) (h : ps ys = putP (ps a) ⟨(o, s), xn⟩) : ys.length ≤ 41 ∧ ∀ x ∈ ys, x.ns.length ≤ 30 := by
  have hb := back_all (p := ⟨(o, s), xn⟩) hm hx
  refine ⟨?_, fun x hx => ?_⟩
  · have h1 := congrArg List.length h
    have h2 : (dropP (ps a) (o, s)).length ≤ (ps a).length := bk_dl _ _
    rw [hb.2.2.1] at h1
    simp only [ps, List.length_map] at h1 h2
    have := hs.1
    omega
  · have h1 : x.p ∈ putP (ps a) ⟨(o, s), xn⟩ := by rw [← h]; exact List.mem_map_of_mem hx
    rw [hb.1] at h1
    rcases (insP_mem _ _ _).1 h1 with e | h1
    · have e2 : x.ns = xn := congrArg Po.ns e
      rw [e2]
      exact hn
    · obtain ⟨y, hy, e⟩ := List.mem_map.1 (bk_mem h1)
      have e2 : y.ns = x.ns := congrArg Po.ns e
      rw [← e2]
      exact hs.2 y hy
set_option maxRecDepth 100000 in
set_option maxHeartbeats 16000000 in
theorem back_law (hW : awC 9) (a : List Pv) (o s : Int) (xn : List Int) (va xa : Value) (w0 : World) (ha : PRd w0 va a) (hx : Nl w0 xa xn) :
    Calls Try.prog 6 #[va, .agg #[.int .i64 o, .int .i64 s, xa]] w0 fun e w' => e = .returned (.bool true) ∧ Below w0.heap.size w0 w' := by
  have mixed : Try.prog.follows .mixedOrders = true := by kernel_rfl
  obtain ⟨XA, XC, rfl, _⟩ := id hx.form
  have CG := Lib.hid (bk_great o s ha hx)
  have HPA := Lib.hid ha
  have HNX := Lib.hid hx
  have HWC := Lib.hid hW
  obtain ⟨ada, capa, rfl, _, _⟩ := id ha
  clear hW ha hx
  go_enter Try.func6, Try.ntmps6
  go_wp2_with fail
  refine CG.out.mono ?_
  rintro e w1 ⟨gr, rfl, b1, bx1, hg⟩
  have HB1 := Lib.hid b1
  have CB : Hid (∀ W, Below w1.heap.size w1 W → W.cell? ⟨w0.heap.size, 0, none⟩ = some (.int .i64 o) ∧ W.cell? ⟨w0.heap.size, 1, none⟩ = some (.int .i64 s) ∧ W.cell? ⟨w0.heap.size, 2, none⟩ = some (.slice XA xn.length XC)) := Lib.hid (fun W hb => ⟨(bx1.below hb).cell 0, (bx1.below hb).cell 1, (bx1.below hb).cell 2⟩)
  clear CG b1 bx1
  cases gr with
  | true =>
    clear hg
    go_wp2_with fail
    refine (HWC.out w1).mono ?_
    rintro e w2 ⟨rfl, b2⟩
    go_wp2
    go_ret
    exact ⟨rfl, bn HB1.out b2⟩
  | false =>
    have HSA := Lib.hid (hg rfl).1
    have HXN := Lib.hid (hg rfl).2
    clear hg
    have CM := Lib.hid (pmay_c a _ w1 (HPA.out.below HB1.out) (by have := HSA.out.1; omega) (fun x hx => by have := HSA.out.2 x hx; omega))
    cases hma : mayL (ps a) with
    | false =>
      rw [hma] at CM
      clear hma
      go_wp2_with fail
      refine CM.out.mono ?_
      rintro e w2 ⟨rfl, b2⟩
      have HB2 := Lib.hid b2
      clear b2 CM
      go_wp2_with fail
      refine (HWC.out w2).mono ?_
      rintro e w3 ⟨rfl, b3⟩
      go_wp2
      go_ret
      exact ⟨rfl, bn (bn HB1.out HB2.out) b3⟩
    | true =>
    rw [hma] at CM
    have HMA := Lib.hid hma
    clear hma
    go_wp2_with fail
    refine CM.out.mono ?_
    rintro e w2 ⟨rfl, b2⟩
    have HB2 := Lib.hid b2
    clear b2 CM
    obtain ⟨p0, p1, p2⟩ := CB.out _ HB2.out
    have CM := Lib.hid (bk_may1 (o := o) (s := s) (HNX.out.below (bn HB1.out HB2.out)) HXN.out)
    cases hmx : oneB xn with
    | false =>
      rw [hmx] at CM
      clear hmx
      go_wp2_with fail
      refine CM.out.mono ?_
      rintro e w3 ⟨rfl, b3⟩
      have HB3 := Lib.hid b3
      clear b3 CM
      go_wp2_with fail
      refine (HWC.out w3).mono ?_
      rintro e w4 ⟨rfl, b4⟩
      go_wp2
      go_ret
      exact ⟨rfl, bn (bn (bn HB1.out HB2.out) HB3.out) b4⟩
    | true =>
    rw [hmx] at CM
    have HMX := Lib.hid hmx
    clear hmx
    go_wp2_with fail
    refine CM.out.mono ?_
    rintro e w3 ⟨rfl, b3⟩
    have HB3 := Lib.hid b3
    clear b3 CM p0 p1 p2
    have HBA := Lib.hid (back_all (p := ⟨(o, s), xn⟩) HMA.out HMX.out)
    have CT := Lib.hid (pdrop_c a o s _ w3 (HPA.out.below (bn (bn HB1.out HB2.out) HB3.out)) (by have := HSA.out.1; omega) (fun x hx => by have := HSA.out.2 x hx; omega))
    unfold postsO at CT
    obtain ⟨p0, p1, p2⟩ := CB.out _ (bn HB2.out HB3.out)
    go_wp2_with fail
    refine CT.out.mono ?_
    rintro e w4 ⟨v4, ws, rfl, ow, hw, b4⟩
    have HB4 := Lib.hid b4
    have Ows := Lib.hid ow
    obtain ⟨A4, C4, rfl⟩ := ow.form
    clear b4 CT p0 p1 p2 ow
    have CT := Lib.hid (pput_c a o s _ xn _ w4 (HPA.out.below (bn (bn (bn HB1.out HB2.out) HB3.out) HB4.out)) (HNX.out.below (bn (bn (bn HB1.out HB2.out) HB3.out) HB4.out)) (by have := HSA.out.1; omega) (fun x hx => by have := HSA.out.2 x hx; omega) (by have := HXN.out; omega))
    unfold postsO at CT
    obtain ⟨p0, p1, p2⟩ := CB.out _ (bn (bn HB2.out HB3.out) HB4.out)
    go_wp2_with fail
    refine CT.out.mono ?_
    rintro e w5 ⟨v5, ys, rfl, ow, hy, b5⟩
    have HB5 := Lib.hid b5
    have Oys := Lib.hid ow
    obtain ⟨A5, C5, rfl⟩ := ow.form
    clear b5 CT p0 p1 p2 ow
    have HLW := Lib.hid (bk_drop HSA.out hw)
    have HLY := Lib.hid (bk_put HSA.out HXN.out HMA.out HMX.out hy)
    have T1 : (ys.length : Int) = (ws.length : Int) + 1 := by have h := HBA.out.2.2.1; have h1 := congrArg List.length hw; have h2 := congrArg List.length hy; simp only [ps, List.length_map] at h1 h2 h; rw [← h1, ← h2] at h; omega
    have t1 : ws.length ≤ 40 := HLW.out.1
    have t2 : ys.length ≤ 41 := HLY.out.1
    have HEND := Lib.hid (bk_end hy HBA.out.2.2.2.2.2.2.2)
    have HKEY := Lib.hid (bk_key hy HBA.out.2.2.2.2.2.2.1)
    have HWS := Lib.hid hw
    have HYS := Lib.hid hy
    clear hw hy
    go_wp2_with fail
    go_loopw [7, 8] (fun v7 v8 wr => ∃ k : Nat, k ≤ ys.length ∧ v7 = .int .i64 (bkN ys o s k : Int) ∧ v8 = .int .i64 (k : Int) ∧ Hid (Below w5.heap.size w5 wr)) (fun _ v8 _ => ys.length - (RowKit.intOf v8).toNat)
    case atStart => exact ⟨0, by omega, by rw [bkN_zero]; rfl, rfl, Lib.hid (Below.refl _ _)⟩
    case round =>
      obtain ⟨k, hk, rfl, rfl, HX⟩ := hrel
      have hkn := bkN_le ys o s k
      by_cases hp : k < ys.length
      · obtain ⟨adk, capk, ek, _, ck⟩ := Oys.out.rd.below HX.out
        simp only [Value.slice.injEq, true_and] at ek
        obtain ⟨rfl, rfl⟩ := ek
        obtain ⟨gk, ok, rfl, dk⟩ := ck (by omega)
        have a1 := dk k hp
        have hkey := HKEY.out ys[k] (List.getElem_mem hp)
        have hsn := bkN_succ o s hp
        have HP := Lib.hid hp
        generalize ys[k] = y at a1 hkey hsn
        obtain ⟨yo, ys', ya, yn⟩ := y
        obtain ⟨q0, q1, q2, nly⟩ := a1
        simp only at q0 q1 q2 nly hkey hsn
        have hgl := World.block_lt_of_cell? _ _ q0
        obtain ⟨p0, p1, p2⟩ := CB.out _ (bn (bn (bn (bn HB2.out HB3.out) HB4.out) HB5.out) HX.out)
        have hgl2 := World.block_lt_of_cell? _ _ p0
        clear dk ck
        cases e1 : (yo == o && ys' == s) with
        | false =>
          have q : ∀ W, (Op.equalIn 10000 34 (.agg #[.int .i64 yo, .int .i64 ys']) (.agg #[.int .i64 o, .int .i64 s])).run Try.prog W = .ok false W := fun W => by rw [← e1]; exact eq_key yo ys' o s W
          rw [e1] at hsn
          have HSN := Lib.hid hsn
          clear hsn hkey e1
          go_wp2_with fail
          go_quiet (fail)
          go_wp2
          go_roundw
          case rel => exact ⟨k + 1, HP.out, by rw [HSN.out]; simp, by go_num, Lib.hid (below_drewN HX.out _)⟩
          case measure => have := HP.out; simp [RowKit.intOf]; omega
        | true =>
          have q : ∀ W, (Op.equalIn 10000 34 (.agg #[.int .i64 yo, .int .i64 ys']) (.agg #[.int .i64 o, .int .i64 s])).run Try.prog W = .ok true W := fun W => by rw [← e1]; exact eq_key yo ys' o s W
          have hyn := hkey e1
          subst hyn
          rw [e1] at hsn
          have HSN := Lib.hid hsn
          clear hsn hkey e1
          obtain ⟨YA, YC, eya, _⟩ := nly.form
          subst eya
          have CS : Hid (∀ W, Below wr.heap.size wr W → Calls Try.prog 29 #[.slice YA xn.length YC, .slice XA xn.length XC] W fun e w' => e = .returned (.bool true) ∧ Below W.heap.size W w') := Lib.hid (fun W hW => by
            have h := same_c xn xn _ _ W (nly.below hW) (HNX.out.below (bn (bn (bn (bn (bn (bn HB1.out HB2.out) HB3.out) HB4.out) HB5.out) HX.out) hW)) (by have := HXN.out; omega)
            rwa [sameB_self] at h)
          have HS : Hid (∀ W, Below wr.heap.size wr W → W.cell? ⟨gk, ok + k * 3, none⟩ = some (.int .i64 yo) ∧ W.cell? ⟨gk, ok + k * 3 + 1, none⟩ = some (.int .i64 ys') ∧ W.cell? ⟨gk, ok + k * 3 + 2, none⟩ = some (.slice YA xn.length YC) ∧ W.cell? ⟨w0.heap.size, 2, none⟩ = some (.slice XA xn.length XC)) := Lib.hid (fun W hb => ⟨(hb.cell hgl).trans q0, (hb.cell (World.block_lt_of_cell? _ _ q1)).trans q1, (hb.cell (World.block_lt_of_cell? _ _ q2)).trans q2, (hb.cell (World.block_lt_of_cell? _ _ p2)).trans p2⟩)
          go_wp2_with fail
          go_quiet (fail)
          clear q q0 q1 q2 nly p0 p1 p2 hgl hgl2
          go_wp2_with fail
          go_region_held3 (fun W => W.cell? ⟨gk, ok + k * 3, none⟩ = some (.int .i64 yo) ∧ W.cell? ⟨gk, ok + k * 3 + 1, none⟩ = some (.int .i64 ys') ∧ W.cell? ⟨gk, ok + k * 3 + 2, none⟩ = some (.slice YA xn.length YC) ∧ W.cell? ⟨w0.heap.size, 2, none⟩ = some (.slice XA xn.length XC)) (exact HS.out _ (by first | assumption | exact (below_drewN (Below.refl _ _) _).drew | exact below_drewN (Below.refl _ _) _))
            (first
            | (go_at_call 29; refine (CS.out _ (by first | assumption | exact (below_drewN (Below.refl _ _) _).drew | exact below_drewN (Below.refl _ _) _)).mono ?_; rintro e w8 ⟨rfl, b8⟩; have b8' : Below wr.heap.size wr w8 := bn (by first | assumption | exact (below_drewN (Below.refl _ _) _).drew | exact below_drewN (Below.refl _ _) _) b8; clear b8)
            | fail)
          have HB8 := Lib.hid (bn HX.out b8')
          clear b8' HS CS
          go_wp2
          go_roundw
          case rel => exact ⟨k + 1, HP.out, by rw [HSN.out]; go_num, by go_num, HB8⟩
          case measure => have := HP.out; simp [RowKit.intOf]; omega
      · obtain rfl : k = ys.length := by omega
        have hend := HEND.out
        rw [hend]
        obtain ⟨w6, rfl⟩ : ∃ w9, w9 = wr := ⟨_, rfl⟩
        have HB6 := HX
        clear hp hk hkn hend HEND HKEY
        have CM := Lib.hid (pmay_c ys _ w6 (Oys.out.below HB6.out).rd (by omega) (fun x hx => by have := HLY.out.2 x hx; omega))
        rw [HYS.out, HBA.out.2.1] at CM
        go_wp2_with fail
        refine CM.out.mono ?_
        rintro e w7 ⟨rfl, b7⟩
        have HB7 := Lib.hid b7
        clear b7 CM
        have CT := Lib.hid (pdrop_c ys o s _ w7 (Oys.out.below (bn HB6.out HB7.out)).rd (by omega) (fun x hx => by have := HLY.out.2 x hx; omega))
        unfold postsO at CT
        obtain ⟨p0, p1, p2⟩ := CB.out _ (bn (bn (bn (bn (bn HB2.out HB3.out) HB4.out) HB5.out) HB6.out) HB7.out)
        go_wp2_with fail
        refine CT.out.mono ?_
        rintro e w8 ⟨v8, us, rfl, ow, hz, b8⟩
        have HB8 := Lib.hid b8
        have Ous := Lib.hid ow
        obtain ⟨A8, C8, rfl⟩ := ow.form
        have hq : ps us = ps ws := by rw [hz, HYS.out, HWS.out]; exact HBA.out.2.2.2.1
        have CQ := Lib.hid (samep_c us ws _ _ w8 ow.rd (Ows.out.below (bn (bn (bn HB5.out HB6.out) HB7.out) HB8.out)).rd hq (by have h1 := congrArg List.length hq; simp only [ps, List.length_map] at h1; omega) (bk_len hq (fun x hx => by have := HLW.out.2 x hx; omega)))
        clear b8 CT p0 p1 p2 ow hz hq
        go_wp2_with fail
        refine CQ.out.mono ?_
        rintro e w9 ⟨rfl, b9⟩
        have HB9 := Lib.hid b9
        clear b9 CQ
        have CT := Lib.hid (pput_c ys o s _ xn _ w9 (Oys.out.below (bn (bn (bn HB6.out HB7.out) HB8.out) HB9.out)).rd (HNX.out.below (bn (bn (bn (bn (bn (bn (bn (bn HB1.out HB2.out) HB3.out) HB4.out) HB5.out) HB6.out) HB7.out) HB8.out) HB9.out)) (by omega) (fun x hx => by have := HLY.out.2 x hx; omega) (by have := HXN.out; omega))
        unfold postsO at CT
        obtain ⟨p0, p1, p2⟩ := CB.out _ (bn (bn (bn (bn (bn (bn (bn HB2.out HB3.out) HB4.out) HB5.out) HB6.out) HB7.out) HB8.out) HB9.out)
        go_wp2_with fail
        refine CT.out.mono ?_
        rintro e w10 ⟨v10, zs, rfl, ow, hz, b10⟩
        have HB10 := Lib.hid b10
        have Ozs := Lib.hid ow
        obtain ⟨A10, C10, rfl⟩ := ow.form
        have hq : ps zs = ps ys := by rw [hz, HYS.out]; exact HBA.out.2.2.2.2.1
        have CQ := Lib.hid (samep_c zs ys _ _ w10 ow.rd (Oys.out.below (bn (bn (bn (bn HB6.out HB7.out) HB8.out) HB9.out) HB10.out)).rd hq (by have h1 := congrArg List.length hq; simp only [ps, List.length_map] at h1; omega) (bk_len hq (fun x hx => by have := HLY.out.2 x hx; omega)))
        clear b10 CT p0 p1 p2 ow hz hq
        go_wp2_with fail
        refine CQ.out.mono ?_
        rintro e w11 ⟨rfl, b11⟩
        have HB11 := Lib.hid b11
        clear b11 CQ
        have CT := Lib.hid (pput_c ws o s _ xn _ w11 (Ows.out.below (bn (bn (bn (bn (bn (bn HB5.out HB6.out) HB7.out) HB8.out) HB9.out) HB10.out) HB11.out)).rd (HNX.out.below (bn (bn (bn (bn (bn (bn (bn (bn (bn (bn HB1.out HB2.out) HB3.out) HB4.out) HB5.out) HB6.out) HB7.out) HB8.out) HB9.out) HB10.out) HB11.out)) (by omega) (fun x hx => by have := HLW.out.2 x hx; omega) (by have := HXN.out; omega))
        unfold postsO at CT
        obtain ⟨p0, p1, p2⟩ := CB.out _ (bn (bn (bn (bn (bn (bn (bn (bn (bn HB2.out HB3.out) HB4.out) HB5.out) HB6.out) HB7.out) HB8.out) HB9.out) HB10.out) HB11.out)
        go_wp2_with fail
        refine CT.out.mono ?_
        rintro e w12 ⟨v12, rs, rfl, ow, hz, b12⟩
        have HB12 := Lib.hid b12
        have Ors := Lib.hid ow
        obtain ⟨A12, C12, rfl⟩ := ow.form
        have hq : ps rs = ps ys := by rw [hz, HYS.out, HWS.out]; exact HBA.out.2.2.2.2.2.1
        have CQ := Lib.hid (samep_c rs ys _ _ w12 ow.rd (Oys.out.below (bn (bn (bn (bn (bn (bn HB6.out HB7.out) HB8.out) HB9.out) HB10.out) HB11.out) HB12.out)).rd hq (by have h1 := congrArg List.length hq; simp only [ps, List.length_map] at h1; omega) (bk_len hq (fun x hx => by have := HLY.out.2 x hx; omega)))
        clear b12 CT p0 p1 p2 ow hz hq
        go_wp2_with fail
        refine CQ.out.mono ?_
        rintro e w13 ⟨rfl, b13⟩
        have HB13 := Lib.hid b13
        clear b13 CQ
        go_wp2_with fail
        refine (HWC.out w13).mono ?_
        rintro e w14 ⟨rfl, b14⟩
        go_wp2
        go_ret
        exact ⟨rfl, bn (bn (bn (bn (bn (bn (bn (bn (bn (bn (bn (bn (bn HB1.out HB2.out) HB3.out) HB4.out) HB5.out) HB6.out) HB7.out) HB8.out) HB9.out) HB10.out) HB11.out) HB12.out) HB13.out) b14⟩
end Go.Proofs.Ytgdajnjfkokmdaa
namespace Go.Proofs.Ytgdajnjfkokmdaa
open Go.RowKit Go.Lib

/-- From C on the blocks that were there are as they were. -/
def Fro (C : Nat) (w w' : World) : Prop := w.heap.size ≤ w'.heap.size ∧ ∀ k, C ≤ k → k < w.heap.size → w'.heap[k]? = w.heap[k]?
theorem Fro.refl (C : Nat) (w : World) : Fro C w w := ⟨Nat.le_refl _, fun _ _ _ => rfl⟩
theorem Fro.trans {C : Nat} {w a b : World} (h : Fro C w a) (k : Fro C a b) : Fro C w b := ⟨Nat.le_trans h.1 k.1, fun i hi hl => (k.2 i hi (Nat.lt_of_lt_of_le hl h.1)).trans (h.2 i hi hl)⟩
theorem Fro.of_grown {C : Nat} {w w' : World} {r : Option Nat} (h : w.grownBy w' r) (hr : ∀ g, r = some g → g < C) : Fro C w w' := ⟨h.size, fun k hk hl => h.block k hl (fun e => by have := hr k e.symm; omega)⟩
theorem own_fro {w w' : World} {B C : Nat} {e : TypeId} {z n : Nat} {v : Value} {xs : List Value} (h : w.ownsRow B e z v n xs) (hf : Fro C w w') (hg : ∀ g, v.ownBlock = some g → C ≤ g ∧ g < w.heap.size) : w'.ownsRow B e z v n xs := by
  refine ⟨h.1, h.2.imp id ?_⟩
  rintro ⟨g, cap, cur, rfl, h1, h2, h3⟩
  exact ⟨g, cap, cur, rfl, h1, (hf.2 g (hg g rfl).1 (hg g rfl).2).trans h2, h3⟩
theorem POwn.fro {w w' : World} {B C : Nat} {v : Value} {l : List Pv} (h : POwn w B v l) (hf : Fro C w w') (h1 : ∀ g, v.ownBlock = some g → C ≤ g ∧ g < w.heap.size) (h2 : ∀ x ∈ l, ∀ g, x.a.ownBlock = some g → C ≤ g ∧ g < w.heap.size) : POwn w' B v l :=
  ⟨own_fro h.row hf h1, fun x hx => own_fro (h.rows x hx) hf (h2 x hx), h.pw⟩
theorem bk_ins {l : List Pv} {x y : Pv} (h : y ∈ insV l x) : y = x ∨ y ∈ l := by
  unfold insV at h
  rcases List.mem_append.1 h with h | h
  · exact .inr ((List.takeWhile_sublist _).mem h)
  · rcases List.mem_cons.1 h with h | h
    · exact .inl h
    · exact .inr ((List.dropWhile_sublist _).mem h)
theorem bk_nlP {w : World} {va xa : Value} {a : List Pv} {o s : Int} {xn : List Int} (h : PRd w va a) (hx : Nl w xa xn) : ∀ y ∈ putV a ⟨o, s, xa, xn⟩, Nl w y.a y.ns := fun y hy => by
  unfold putV at hy
  split at hy
  · split at hy
    · rcases bk_ins hy with rfl | hy
      · exact hx
      · exact h.nls y (dropV_sub _ _ _ y hy)
    · exact h.nls y hy
  · cases hy
theorem bk_nlD {w : World} {va : Value} {a : List Pv} {o s : Int} (h : PRd w va a) : ∀ y ∈ dropV a o s, Nl w y.a y.ns := fun y hy => h.nls y (dropV_sub _ _ _ y hy)
theorem bk_put' {a ys : List Pv} {o s : Int} {xn : List Int} (hs : small1 a) (hn : xn.length ≤ 30) (h : ps ys = putP (ps a) ⟨(o, s), xn⟩) : ys.length ≤ 41 ∧ ∀ x ∈ ys, x.ns.length ≤ 30 := by
  cases hm : mayL (ps a) with
  | true =>
    cases hx : oneB xn with
    | true => exact bk_put hs hn hm hx h
    | false =>
      unfold putP at h
      rw [if_pos hm, if_neg (by rw [hx]; simp)] at h
      refine ⟨by have h1 := congrArg List.length h; simp only [ps, List.length_map] at h1; have := hs.1; omega, bk_len h hs.2⟩
  | false =>
    unfold putP at h
    rw [if_neg (by rw [hm]; simp)] at h
    have h0 : ys = [] := by cases ys with | nil => rfl | cons y t => cases h
    subst h0
    exact ⟨Nat.zero_le _, fun x hx => by cases hx⟩
theorem ch_great {w : World} {va xa : Value} {a : List Pv} {xn : List Int} (o s ko ks : Int) (ha : PRd w va a) (hx : Nl w xa xn) :
    Calls Try.prog 8 #[.slice (some ⟨w.heap.size + 1 + 1 + 1, 0, none⟩) 2 2, .int .i64 2] ((((w.alloc (.cells #[.int .i64 o, .int .i64 s, xa] 37)).alloc (.cells #[.int .i64 ko, .int .i64 ks] 34)).alloc (.cells #[.int .i64 o, .int .i64 s, xa] 37)).alloc (.cells #[va, .slice (some ⟨w.heap.size + 1 + 1, 0, none⟩) 1 1] 30)) fun e w' => ∃ g : Bool, e = .returned (.bool g) ∧ Below w.heap.size w w' ∧ Bx 37 w' w.heap.size #[.int .i64 o, .int .i64 s, xa] ∧ Bx 34 w' (w.heap.size + 1) #[.int .i64 ko, .int .i64 ks] ∧ (g = false → small1 a ∧ xn.length ≤ 30) := by
  obtain ⟨W2, hW2⟩ : ∃ W2, W2 = (w.alloc (.cells #[.int .i64 o, .int .i64 s, xa] 37)).alloc (.cells #[.int .i64 ko, .int .i64 ks] 34) := ⟨_, rfl⟩
  have hal2 : Below w.heap.size w W2 := by rw [hW2]; exact below_two _ _ _
  have b1 : Bx 37 W2 w.heap.size #[.int .i64 o, .int .i64 s, xa] := by rw [hW2]; exact (Bx.new 37 w _).below (alloc_below _ _)
  have b2 : Bx 34 W2 (w.heap.size + 1) #[.int .i64 ko, .int .i64 ks] := by
    rw [hW2]
    have := Bx.new 34 (w.alloc (.cells #[.int .i64 o, .int .i64 s, xa] 37)) #[.int .i64 ko, .int .i64 ks]
    rwa [World.size_alloc] at this
  have hs2 : W2.heap.size = w.heap.size + 1 + 1 := by rw [hW2]; simp
  rw [← hW2]
  have b3 := Bx.new 37 W2 #[.int .i64 o, .int .i64 s, xa]
  have hal3 := alloc_below W2 (.cells #[.int .i64 o, .int .i64 s, xa] 37)
  have hal := bn hal2 hal3
  have h := great_two (ha.below hal) (bk_one b3 (hx.below hal))
  have hsz : (W2.alloc (.cells #[.int .i64 o, .int .i64 s, xa] 37)).heap.size = w.heap.size + 1 + 1 + 1 := by simp [hs2]
  rw [hsz, hs2] at h
  refine h.mono ?_
  rintro e w' ⟨g, h1, h2, h3⟩
  have h2' : Below (W2.alloc (.cells #[.int .i64 o, .int .i64 s, xa] 37)).heap.size (W2.alloc (.cells #[.int .i64 o, .int .i64 s, xa] 37)) w' := by rw [hsz]; exact h2
  exact ⟨g, h1, bn hal h2', b1.below (bn hal3 h2'), b2.below (bn hal3 h2'), fun h => ⟨(h3 h).1, (h3 h).2.2 ⟨o, s, xa, xn⟩ (by simp)⟩⟩
set_option maxHeartbeats 8000000 in
theorem overpr_c (C : Nat) (l : List Pv) (v : Value) (w : World) (B : Nat) (h : POwn w B v l) (hn : l.length ≤ 1000000) (hv : ∀ x ∈ l, x.ns.length ≤ 1000000) (hB : B ≤ w.heap.size) (hC1 : ∀ g, v.ownBlock = some g → g < C) (hC2 : ∀ x ∈ l, ∀ g, x.a.ownBlock = some g → g < C) :
    Calls Try.prog 27 #[v] w fun e w' => e = .returned (.tuple #[]) ∧ Below B w w' ∧ Fro C w w' := by
  have HV := Lib.hid hv
  rcases h.row.2 with ⟨rfl, h0⟩ | ⟨g, cap, cur, rfl, hg, hh, hnn, _⟩
  · go_enter Try.func27, Try.ntmps27
    go_wp2
    go_loopw [2] (fun v2 wr => v2 = .int .i64 0 ∧ wr = w) (fun _ _ => 0)
    case atStart => exact ⟨rfl, rfl⟩
    case round =>
      obtain ⟨rfl, rfl⟩ := hrel
      go_wp2
      go_end0
      exact ⟨rfl, Below.refl _ _, Fro.refl _ _⟩
  · obtain ⟨ho, hBg⟩ := h.ov
    have HO := Lib.hid ho
    have HC2 := Lib.hid hC2
    have hgC : g < C := hC1 g rfl
    clear hC1 hC2
    clear h ho hv hh hg hnn
    go_enter Try.func27, Try.ntmps27
    go_wp2
    go_loopw [2] (fun v2 wr => ∃ k : Nat, k ≤ l.length ∧ v2 = .int .i64 (k : Int) ∧ Hid (OvAt wr B g l k) ∧ Hid (Below B w wr) ∧ Hid (Fro C w wr)) (fun v2 _ => l.length - (RowKit.intOf v2).toNat)
    case atStart => exact ⟨0, by omega, rfl, HO, Lib.hid (Below.refl _ _), Lib.hid (Fro.refl _ _)⟩
    case round =>
      obtain ⟨k, hk, rfl, HK, HB, HF⟩ := hrel
      by_cases hp : k < l.length
      · obtain ⟨cs, hx, hsz, hat⟩ := HK.out.cells
        have hrows := HK.out.rows
        have hpw := HK.out.pw
        rw [List.drop_eq_getElem_cons hp] at hrows hpw
        have ca := hat k hp (Nat.le_refl _)
        have hv1 := HV.out l[k] (List.getElem_mem hp)
        have hx1 := HC2.out l[k] (List.getElem_mem hp)
        have ra := hrows l[k] (List.mem_cons_self ..)
        have rest : ∀ x ∈ l.drop (k + 1), Row wr B x.a x.ns := fun x hx => hrows x (List.mem_cons_of_mem _ hx)
        simp only [List.map_cons, List.pairwise_cons] at hpw
        obtain ⟨pa, pr⟩ := hpw
        have HAT : Hid (∀ j (hj : j < l.length), k + 1 ≤ j → cs[j * 3 + 2]? = some l[j].a) := Lib.hid (fun j hj hkj => hat j hj (by omega))
        generalize l[k] = X at ca hv1 ra pa hx1
        obtain ⟨xo, xs, A, ns⟩ := X
        simp only at ca hv1 ra pa hx1
        have HX1 := Lib.hid hx1
        clear hx1
        have C1 := Lib.hid (over_c ns A wr B ra hv1 (Nat.le_trans hB HB.out.size))
        have HXr := Lib.hid hx
        have HRA := Lib.hid ra
        have HREST := Lib.hid rest
        have HPA := Lib.hid pa
        have HPR := Lib.hid pr
        have HSZ := Lib.hid hsz
        have c1 : wr.cell? ⟨g, k * 3 + 2, none⟩ = some A := (hx.cell _).trans ca
        have hgl := hx.lt
        obtain ⟨adA, capA, rfl, _⟩ := ra.nl.form
        have hpi : decide ((k : Int) < (l.length : Int)) = true := by simpa using hp
        clear hat hrows pa pr ra rest hx hsz
        go_wp2_with fail
        refine C1.out.mono ?_
        rintro e w3 ⟨rfl, g3⟩
        have hx3 := HXr.out.far g3 (fun e => tag_bx HXr.out HRA.out e.symm)
        have hb3 : Below B w w3 := HB.out.trans (below_of_grown g3 (Nat.le_trans hB HB.out.size) (fun i hi => (World.ownsRow.lt HRA.out i hi).1))
        have hf3 : Fro C w w3 := HF.out.trans (Fro.of_grown g3 HX1.out)
        have rest3 : ∀ x ∈ l.drop (k + 1), Row w3 B x.a x.ns := fun x hx =>
          (HREST.out x hx).far g3 (by rintro i hi i' hi' rfl; exact HPA.out x.a (List.mem_map_of_mem hx) i hi hi')
        have hsz := HSZ.out
        have ex : ∀ t, t < 3 → ∃ u, w3.cell? ⟨g, k * 3 + t, none⟩ = some u := fun t ht => ⟨cs[k * 3 + t]'(by omega), (hx3.cell _).trans (Array.getElem?_eq_getElem (by omega))⟩
        obtain ⟨y0, e0⟩ := ex 0 (by omega)
        rw [Nat.add_zero] at e0
        obtain ⟨y1, e1⟩ := ex 1 (by omega)
        obtain ⟨y2, e2⟩ := ex 2 (by omega)
        have s0 := hx3.soft (k * 3)
        have s1 := hx3.soft (k * 3 + 1)
        have s2 := hx3.soft (k * 3 + 2)
        have hgl3 := hx3.lt
        have HX3 := Lib.hid hx3
        have HB3 := Lib.hid hb3
        have HREST3 := Lib.hid rest3
        have HF3 := Lib.hid hf3
        clear g3 hx3 hb3 rest3 ex c1 hsz hf3
        have fin : Hid (OvAt (set3 w3 g (k * 3) (.int .i64 (-9)) (.int .i64 0) (.slice none 0 0)) B g l (k + 1)) := Lib.hid (by
          obtain ⟨ds, hd1, hd2, hd3⟩ := bx_set3At (o := k * 3) HX3.out (.int .i64 (-9)) (.int .i64 0) (.slice none 0 0)
          refine ⟨⟨ds, hd1, by rw [hd2]; exact HSZ.out, fun j hj hkj => ?_⟩, fun x hx => row_set3 (HREST3.out x hx) (tag_bx HX3.out (HREST3.out x hx)) _ _ _, HPR.out⟩
          rw [hd3 _ (.inr (by omega))]
          exact HAT.out j hj hkj)
        have finb : Hid (Below B w (set3 w3 g (k * 3) (.int .i64 (-9)) (.int .i64 0) (.slice none 0 0))) := Lib.hid (below_set3 HB3.out hBg _ _ _ _)
        have finf : Hid (Fro C w (set3 w3 g (k * 3) (.int .i64 (-9)) (.int .i64 0) (.slice none 0 0))) := Lib.hid (HF3.out.trans (Fro.of_grown (grown_set3 _ _ _ _ _ _) (fun i e => by cases e; exact hgC)))
        go_wp2
        go_roundw
        case rel => exact ⟨k + 1, hp, by go_num, fin, finb, finf⟩
        case measure => simp [RowKit.intOf]; omega
      · go_wp2
        go_end0
        exact ⟨rfl, HB.out, HF.out⟩
set_option maxRecDepth 100000 in
set_option maxHeartbeats 32000000 in
theorem chg_law (hW : awC 9) (a : List Pv) (o s ko ks : Int) (xn : List Int) (ka kb : List Ky) (va xa vka vkb : Value) (w0 : World) (ha : PRd w0 va a) (hx : Nl w0 xa xn) (h1 : KRd w0 vka ka) (h2 : KRd w0 vkb kb) (hoa : ∀ k ∈ ka, okKy k) (hob : ∀ k ∈ kb, okKy k) :
    Calls Try.prog 4 #[va, .agg #[.int .i64 o, .int .i64 s, xa], .agg #[.int .i64 ko, .int .i64 ks], vka, vkb] w0 fun e w' => e = .returned (.bool true) ∧ Below w0.heap.size w0 w' := by
  have mixed : Try.prog.follows .mixedOrders = true := by kernel_rfl
  obtain ⟨XA, XC, rfl, _⟩ := id hx.form
  have CG := Lib.hid (ch_great o s ko ks ha hx)
  have HPA := Lib.hid ha
  have HNX := Lib.hid hx
  have HWC := Lib.hid hW
  have HKA := Lib.hid h1
  have HKB := Lib.hid h2
  have HOA := Lib.hid hoa
  have HOB := Lib.hid hob
  obtain ⟨ada, capa, rfl, _, _⟩ := id ha
  obtain ⟨adk, capk, rfl, _, _⟩ := id h1
  obtain ⟨adm, capm, rfl, _, _⟩ := id h2
  clear hW ha hx h1 h2 hoa hob
  have no : ∀ w1, Below w0.heap.size w0 w1 → ∀ e w', (e = Ending.returned (.bool true) ∧ Below w1.heap.size w1 w') → e = Ending.returned (.bool true) ∧ Below w0.heap.size w0 w' := fun w1 h e w' k => ⟨k.1, bn h k.2⟩
  have HNO := Lib.hid no
  clear no
  go_enter Try.func4, Try.ntmps4
  go_wp2_with fail
  refine CG.out.mono ?_
  rintro e w1 ⟨gr, rfl, b1, bx1, bx2, hg⟩
  have HB1 := Lib.hid b1
  have CB : Hid (∀ W, Below w1.heap.size w1 W → W.cell? ⟨w0.heap.size, 0, none⟩ = some (.int .i64 o) ∧ W.cell? ⟨w0.heap.size, 1, none⟩ = some (.int .i64 s) ∧ W.cell? ⟨w0.heap.size, 2, none⟩ = some (.slice XA xn.length XC) ∧ W.cell? ⟨w0.heap.size + 1, 0, none⟩ = some (.int .i64 ko) ∧ W.cell? ⟨w0.heap.size + 1, 1, none⟩ = some (.int .i64 ks)) := Lib.hid (fun W hb => ⟨(bx1.below hb).cell 0, (bx1.below hb).cell 1, (bx1.below hb).cell 2, (bx2.below hb).cell 0, (bx2.below hb).cell 1⟩)
  clear CG b1 bx1 bx2
  cases gr with
  | true =>
    clear hg
    go_wp2_with fail
    refine (HWC.out w1).mono ?_
    rintro e w2 ⟨rfl, b2⟩
    go_wp2
    go_ret
    exact ⟨rfl, bn HB1.out b2⟩
  | false =>
    have HSA := Lib.hid (hg rfl).1
    have HXN := Lib.hid (hg rfl).2
    clear hg
    by_cases hka : ka.length ≤ 40
    case neg =>
      have e0 : decide ((40 : Int) < (ka.length : Int)) = true := by simp; omega
      go_wp2_with fail
      refine (HWC.out w1).mono ?_
      rintro e w2 ⟨rfl, b2⟩
      go_wp2
      go_ret
      exact ⟨rfl, bn HB1.out b2⟩
    have e0 : decide ((40 : Int) < (ka.length : Int)) = false := by simp; omega
    by_cases hkb : kb.length ≤ 40
    case neg =>
      have e1 : decide ((40 : Int) < (kb.length : Int)) = true := by simp; omega
      go_wp2_with fail
      refine (HWC.out w1).mono ?_
      rintro e w2 ⟨rfl, b2⟩
      go_wp2
      go_ret
      exact ⟨rfl, bn HB1.out b2⟩
    have e1 : decide ((40 : Int) < (kb.length : Int)) = false := by simp; omega
    have HSC := CB
    go_wp2_with fail
    refine wp_region_held_drew (S := fun W => W.cell? ⟨w0.heap.size, 0, none⟩ = some (.int .i64 o) ∧ W.cell? ⟨w0.heap.size, 1, none⟩ = some (.int .i64 s) ∧ W.cell? ⟨w0.heap.size, 2, none⟩ = some (.slice XA xn.length XC) ∧ W.cell? ⟨w0.heap.size + 1, 0, none⟩ = some (.int .i64 ko) ∧ W.cell? ⟨w0.heap.size + 1, 1, none⟩ = some (.int .i64 ks)) (by kernel_rfl) (HSC.out _ (Below.refl _ _).drew) (fun hHeld => ?_)
    refine take_ok (i := 0) (d := 31) (v := ?_) rfl rfl (by kernel_rfl) (by kernel_rfl) (by kernel_rfl) (fun _ _ _ h => h) (Or.inl ⟨by rfl, ?_⟩) (by assumption) ?_
    rotate_left
    · intro w9 hSw
      try dsimp only at hSw
      first | (go_simp; done) | (go_simp; with_reducible rfl)
    try simp only [Act.put, List.setIfInBounds_toArray, List.set_cons_zero, List.set_cons_succ]
    refine take_ok (i := 1) (d := 32) (v := ?_) rfl rfl (by kernel_rfl) (by kernel_rfl) (by kernel_rfl) (fun _ _ _ h => h) (Or.inl ⟨by rfl, ?_⟩) (by assumption) ?_
    rotate_left
    · intro w9 hSw
      try dsimp only at hSw
      first | (go_simp; done) | (go_simp; with_reducible rfl)
    try simp only [Act.put, List.setIfInBounds_toArray, List.set_cons_zero, List.set_cons_succ]
    refine take_ok (i := 3) (d := 34) (v := ?_) rfl rfl (by kernel_rfl) (by kernel_rfl) (by kernel_rfl) (fun _ _ _ h => h) (Or.inl ⟨by rfl, ?_⟩) (by assumption) ?_
    rotate_left
    · intro w9 hSw
      try dsimp only at hSw
      first | (go_simp; done) | (go_simp; with_reducible rfl)
    try simp only [Act.put, List.setIfInBounds_toArray, List.set_cons_zero, List.set_cons_succ]
    refine take_ok (i := 4) (d := 35) (v := ?_) rfl rfl (by kernel_rfl) (by kernel_rfl) (by kernel_rfl) (fun _ _ _ h => h) (Or.inl ⟨by rfl, ?_⟩) (by assumption) ?_
    rotate_left
    · intro w9 hSw
      try dsimp only at hSw
      first | (go_simp; done) | (go_simp; with_reducible rfl)
    try simp only [Act.put, List.setIfInBounds_toArray, List.set_cons_zero, List.set_cons_succ]
    refine take_ok (i := 6) (d := 37) (v := ?_) rfl rfl (by kernel_rfl) (by kernel_rfl) (by kernel_rfl) (fun _ _ _ h => h) (Or.inl ⟨by rfl, ?_⟩) (by assumption) ?_
    rotate_left
    · intro w9 hSw
      try dsimp only at hSw
      first | (go_simp; done) | (go_simp; with_reducible rfl)
    try simp only [Act.put, List.setIfInBounds_toArray, List.set_cons_zero, List.set_cons_succ]
    refine take_ok (i := 7) (d := 38) (v := ?_) rfl rfl (by kernel_rfl) (by kernel_rfl) (by kernel_rfl) (fun _ _ _ h => h) (Or.inl ⟨by rfl, ?_⟩) (by assumption) ?_
    rotate_left
    · intro w9 hSw
      try dsimp only at hSw
      first | (go_simp; done) | (go_simp; with_reducible rfl)
    try simp only [Act.put, List.setIfInBounds_toArray, List.set_cons_zero, List.set_cons_succ]
    refine wpAnyH_ready (rs := [2]) (by kernel_rfl) (by simp) ?_
    refine AllReadyH.cons rfl (fun K hK => ?_) AllReadyH.nil
    go_simp
    have CT := Lib.hid (pput_c a o s _ xn _ _ (HPA.out.below (bn HB1.out (Below.refl _ _).drew)) (HNX.out.below (bn HB1.out (Below.refl _ _).drew)) (by have := HSA.out.1; omega) (fun x hx => by have := HSA.out.2 x hx; omega) (by have := HXN.out; omega))
    unfold postsO at CT
    refine CT.out.mono ?_
    rintro e w2 ⟨v2, as', rfl, oa, ha', b2⟩
    have HB2 : Hid (Below w1.heap.size w1 w2) := Lib.hid (bn (Below.refl _ _).drew b2)
    have OA : Hid (POwn w2 w1.heap.size v2 as') := Lib.hid oa
    have HA' := Lib.hid ha'
    obtain ⟨A2, C2, rfl⟩ := oa.form
    clear b2 oa ha' CT
    refine hK.out _ _ (HSC.out _ HB2.out) (fun hHeld => ?_)
    clear hK K
    try simp only [Act.put, List.setIfInBounds_toArray, List.set_cons_zero, List.set_cons_succ]
    refine wpAnyH_ready (rs := [5]) (by kernel_rfl) (by simp) ?_
    refine AllReadyH.cons rfl (fun K hK => ?_) AllReadyH.nil
    go_simp
    have CT := Lib.hid (pdrop_c a ko ks _ w2 (HPA.out.below (bn HB1.out HB2.out)) (by have := HSA.out.1; omega) (fun x hx => by have := HSA.out.2 x hx; omega))
    unfold postsO at CT
    refine CT.out.mono ?_
    rintro e w3 ⟨v3, bs, rfl, ob, hb', b3⟩
    have HB3 := Lib.hid b3
    have OB := Lib.hid ob
    have HB' := Lib.hid hb'
    obtain ⟨A3, C3, rfl⟩ := ob.form
    clear b3 ob hb' CT
    refine hK.out _ _ (HSC.out _ (bn HB2.out HB3.out)) (fun hHeld => ?_)
    clear hK K
    try simp only [Act.put, List.setIfInBounds_toArray, List.set_cons_zero, List.set_cons_succ]
    refine wpAnyH_ready (rs := [8]) (by kernel_rfl) (by simp) ?_
    refine AllReadyH.cons rfl (fun K hK => ?_) AllReadyH.nil
    go_simp
    have CT := Lib.hid (pless_c ka kb _ _ w3 (HKA.out.below (bn (bn HB1.out HB2.out) HB3.out)) (HKB.out.below (bn (bn HB1.out HB2.out) HB3.out)) (by omega) (by omega) HOA.out HOB.out)
    unfold keysT at CT
    refine CT.out.mono ?_
    rintro e w4 ⟨v4, rfl, oc, b4⟩
    have HB4 := Lib.hid b4
    have OC := Lib.hid oc
    obtain ⟨A4, C4, rfl⟩ := oc.len
    clear b4 oc CT
    refine hK.out _ _ (HSC.out _ (bn (bn HB2.out HB3.out) HB4.out)) (fun hHeld => ?_)
    clear hK K
    try simp only [Act.put, List.setIfInBounds_toArray, List.set_cons_zero, List.set_cons_succ]
    refine take_ok (i := 9) (d := 11) (v := ?_) rfl rfl (by kernel_rfl) (by kernel_rfl) (by kernel_rfl) (fun _ _ _ h => h) (Or.inl ⟨by rfl, ?_⟩) (by assumption) ?_
    rotate_left
    · intro w9 hSw
      try dsimp only at hSw
      first | (go_simp; done) | (go_simp; with_reducible rfl)
    try simp only [Act.put, List.setIfInBounds_toArray, List.set_cons_zero, List.set_cons_succ]
    refine take_ok (i := 10) (d := 12) (v := ?_) rfl rfl (by kernel_rfl) (by kernel_rfl) (by kernel_rfl) (fun _ _ _ h => h) (Or.inl ⟨by rfl, ?_⟩) (by assumption) ?_
    rotate_left
    · intro w9 hSw
      try dsimp only at hSw
      first | (go_simp; done) | (go_simp; with_reducible rfl)
    try simp only [Act.put, List.setIfInBounds_toArray, List.set_cons_zero, List.set_cons_succ]
    refine take_ok (i := 11) (d := 13) (v := ?_) rfl rfl (by kernel_rfl) (by kernel_rfl) (by kernel_rfl) (fun _ _ _ h => h) (Or.inl ⟨by rfl, ?_⟩) (by assumption) ?_
    rotate_left
    · intro w9 hSw
      try dsimp only at hSw
      first | (go_simp; done) | (go_simp; with_reducible rfl)
    try simp only [Act.put, List.setIfInBounds_toArray, List.set_cons_zero, List.set_cons_succ]
    refine wpAnyH_done (by kernel_rfl) ?_ _
    clear hHeld HSC
    have la := bk_put' HSA.out HXN.out HA'.out
    have lb := bk_drop HSA.out HB'.out
    have HLA := Lib.hid la
    have HLB := Lib.hid lb
    have lc : (lessK ka kb).length ≤ 40 := Nat.le_trans (List.length_filter_le _ _) hka
    have la1 := la.1
    have lb1 := lb.1
    clear la lb
    have CT := Lib.hid (put_c a o s _ xn _ w4 (HPA.out.below (bn (bn (bn HB1.out HB2.out) HB3.out) HB4.out)) (HNX.out.below (bn (bn (bn HB1.out HB2.out) HB3.out) HB4.out)) (by have := HSA.out.1; omega) (fun x hx => by have := HSA.out.2 x hx; omega) (by have := HXN.out; omega))
    unfold postsT at CT
    obtain ⟨p0, p1, p2, p3, p4⟩ := CB.out _ (bn (bn HB2.out HB3.out) HB4.out)
    go_wp2_with fail
    refine CT.out.mono ?_
    rintro e w5 ⟨v5, rfl, or, b5⟩
    have HB5 := Lib.hid b5
    obtain ⟨A5, C5, ev5, _⟩ := own_form or
    subst ev5
    have HOR := Lib.hid or
    clear b5 CT or p0 p1 p2 p3 p4
    have CQ := Lib.hid (samep_c as' _ _ _ w5 (OA.out.below (bn (bn HB3.out HB4.out) HB5.out)).rd (HOR.out.rd (bk_nlP (HPA.out.below (bn (bn (bn (bn HB1.out HB2.out) HB3.out) HB4.out) HB5.out)) (HNX.out.below (bn (bn (bn (bn HB1.out HB2.out) HB3.out) HB4.out) HB5.out)))) (by rw [HA'.out, putV_ps]; rfl) (by omega) (fun x hx => by have := HLA.out.2 x hx; omega))
    go_wp2_with fail
    refine CQ.out.mono ?_
    rintro e w6 ⟨rfl, b6⟩
    have HB6 := Lib.hid b6
    clear b6 CQ
    clear HOR
    have CT := Lib.hid (drop_c a ko ks _ w6 (HPA.out.below (bn (bn (bn (bn (bn HB1.out HB2.out) HB3.out) HB4.out) HB5.out) HB6.out)) (by have := HSA.out.1; omega) (fun x hx => by have := HSA.out.2 x hx; omega))
    unfold postsT at CT
    obtain ⟨p0, p1, p2, p3, p4⟩ := CB.out _ (bn (bn (bn (bn HB2.out HB3.out) HB4.out) HB5.out) HB6.out)
    go_wp2_with fail
    refine CT.out.mono ?_
    rintro e w7 ⟨v7, rfl, or, b7⟩
    have HB7 := Lib.hid b7
    obtain ⟨A7, C7, ev7, _⟩ := own_form or
    subst ev7
    have HOR := Lib.hid or
    clear b7 CT or p0 p1 p2 p3 p4
    have CQ := Lib.hid (samep_c bs _ _ _ w7 (OB.out.below (bn (bn (bn HB4.out HB5.out) HB6.out) HB7.out)).rd (HOR.out.rd (bk_nlD (HPA.out.below (bn (bn (bn (bn (bn (bn HB1.out HB2.out) HB3.out) HB4.out) HB5.out) HB6.out) HB7.out)))) (by rw [HB'.out, dropV_ps]) (by omega) (fun x hx => by have := HLB.out.2 x hx; omega))
    go_wp2_with fail
    refine CQ.out.mono ?_
    rintro e w8 ⟨rfl, b8⟩
    have HB8 := Lib.hid b8
    clear b8 CQ
    clear HOR
    have CT := Lib.hid (less_c ka kb _ _ w8 (HKA.out.below (bn (bn (bn (bn (bn (bn (bn HB1.out HB2.out) HB3.out) HB4.out) HB5.out) HB6.out) HB7.out) HB8.out)) (HKB.out.below (bn (bn (bn (bn (bn (bn (bn HB1.out HB2.out) HB3.out) HB4.out) HB5.out) HB6.out) HB7.out) HB8.out)) (by omega) (by omega))
    unfold keysT at CT
    go_wp2_with fail
    refine CT.out.mono ?_
    rintro e w9 ⟨v9, rfl, or, b9⟩
    have HB9 := Lib.hid b9
    obtain ⟨A9, C9, rfl⟩ := or.len
    have HOR := Lib.hid or
    clear b9 CT or
    have CQ := Lib.hid (samek_c _ _ _ w9 (OC.out.below (bn (bn (bn (bn HB5.out HB6.out) HB7.out) HB8.out) HB9.out)).rd HOR.out.rd (by omega))
    go_wp2_with fail
    refine CQ.out.mono ?_
    rintro e w10 ⟨rfl, b10⟩
    have HB10 := Lib.hid b10
    clear b10 CQ
    clear HOR
    have CA := Lib.hid (overpr_c w2.heap.size as' _ w10 w1.heap.size (OA.out.below (bn (bn (bn (bn (bn (bn (bn HB3.out HB4.out) HB5.out) HB6.out) HB7.out) HB8.out) HB9.out) HB10.out)) (by omega) (fun x hx => by have := HLA.out.2 x hx; omega) (bn (bn (bn (bn (bn (bn (bn (bn HB2.out HB3.out) HB4.out) HB5.out) HB6.out) HB7.out) HB8.out) HB9.out) HB10.out).size (fun g hg => (World.ownsRow.lt OA.out.row g hg).2) (fun x hx g hg => (World.ownsRow.lt (OA.out.rows x hx) g hg).2))
    go_wp2_with fail
    refine CA.out.mono ?_
    rintro e w11 ⟨rfl, z11, f11⟩
    have OB1 : Hid (POwn w11 w2.heap.size _ bs) := Lib.hid ((OB.out.below (bn (bn (bn (bn (bn (bn HB4.out HB5.out) HB6.out) HB7.out) HB8.out) HB9.out) HB10.out)).fro f11 (fun g hg => ⟨(World.ownsRow.lt OB.out.row g hg).1, Nat.lt_of_lt_of_le (World.ownsRow.lt OB.out.row g hg).2 (bn (bn (bn (bn (bn (bn HB4.out HB5.out) HB6.out) HB7.out) HB8.out) HB9.out) HB10.out).size⟩) (fun x hx g hg => ⟨(World.ownsRow.lt (OB.out.rows x hx) g hg).1, Nat.lt_of_lt_of_le (World.ownsRow.lt (OB.out.rows x hx) g hg).2 (bn (bn (bn (bn (bn (bn HB4.out HB5.out) HB6.out) HB7.out) HB8.out) HB9.out) HB10.out).size⟩))
    have OC1 : Hid (KRow w11 w3.heap.size _ (lessK ka kb)) := Lib.hid (own_fro (OC.out.below (bn (bn (bn (bn (bn HB5.out HB6.out) HB7.out) HB8.out) HB9.out) HB10.out)) f11 (fun g hg => ⟨Nat.le_trans HB3.out.size (World.ownsRow.lt OC.out g hg).1, Nat.lt_of_lt_of_le (World.ownsRow.lt OC.out g hg).2 (bn (bn (bn (bn (bn HB5.out HB6.out) HB7.out) HB8.out) HB9.out) HB10.out).size⟩))
    have Z11 : Hid (Below w1.heap.size w1 w11) := Lib.hid ((bn (bn (bn (bn (bn (bn (bn (bn HB2.out HB3.out) HB4.out) HB5.out) HB6.out) HB7.out) HB8.out) HB9.out) HB10.out).trans z11)
    have hs11 := z11.size
    have HS11 := Lib.hid hs11
    clear CA z11 f11 hs11
    have CA := Lib.hid (overpr_c w3.heap.size bs _ w11 w2.heap.size OB1.out (by omega) (fun x hx => by have := HLB.out.2 x hx; omega) (Nat.le_trans (bn (bn (bn (bn (bn (bn (bn HB3.out HB4.out) HB5.out) HB6.out) HB7.out) HB8.out) HB9.out) HB10.out).size HS11.out) (fun g hg => (World.ownsRow.lt OB.out.row g hg).2) (fun x hx g hg => (World.ownsRow.lt (OB.out.rows x hx) g hg).2))
    go_wp2_with fail
    refine CA.out.mono ?_
    rintro e w12 ⟨rfl, z12, f12⟩
    have OC2 : Hid (KRow w12 w3.heap.size _ (lessK ka kb)) := Lib.hid (own_fro OC1.out f12 (fun g hg => ⟨(World.ownsRow.lt OC.out g hg).1, (World.ownsRow.lt OC1.out g hg).2⟩))
    have Z12 : Hid (Below w1.heap.size w1 w12) := Lib.hid (Z11.out.trans (z12.mono HB2.out.size))
    have HS12 : Hid (w10.heap.size ≤ w12.heap.size) := Lib.hid (Nat.le_trans HS11.out z12.size)
    clear CA z12 f12 OB1 OC1 Z11
    have CA := Lib.hid (overk_c _ _ w12 w3.heap.size OC2.out (by omega) (Nat.le_trans (bn (bn (bn (bn (bn (bn HB4.out HB5.out) HB6.out) HB7.out) HB8.out) HB9.out) HB10.out).size HS12.out))
    go_wp2_with fail
    refine CA.out.mono ?_
    rintro e w13 ⟨rfl, g13⟩
    have HZ1 : Hid (Below w1.heap.size w1 w13) := Lib.hid (Z12.out.trans (below_of_grown g13 Z12.out.size (fun i hi => Nat.le_trans (bn HB2.out HB3.out).size (World.ownsRow.lt OC2.out i hi).1)))
    have HZ0 : Hid (Below w0.heap.size w0 w13) := Lib.hid (bn HB1.out HZ1.out)
    clear CA g13 OC2 Z12 HS11 HS12 OA OB OC HA' HB'
    have HSC : Hid (∀ W, Below w13.heap.size w13 W → W.cell? ⟨w0.heap.size, 0, none⟩ = some (.int .i64 o) ∧ W.cell? ⟨w0.heap.size, 1, none⟩ = some (.int .i64 s) ∧ W.cell? ⟨w0.heap.size, 2, none⟩ = some (.slice XA xn.length XC) ∧ W.cell? ⟨w0.heap.size + 1, 0, none⟩ = some (.int .i64 ko) ∧ W.cell? ⟨w0.heap.size + 1, 1, none⟩ = some (.int .i64 ks)) := Lib.hid (fun W hb => CB.out _ (bn HZ1.out hb))
    go_wp2_with fail
    refine wp_region_held_drew (S := fun W => W.cell? ⟨w0.heap.size, 0, none⟩ = some (.int .i64 o) ∧ W.cell? ⟨w0.heap.size, 1, none⟩ = some (.int .i64 s) ∧ W.cell? ⟨w0.heap.size, 2, none⟩ = some (.slice XA xn.length XC) ∧ W.cell? ⟨w0.heap.size + 1, 0, none⟩ = some (.int .i64 ko) ∧ W.cell? ⟨w0.heap.size + 1, 1, none⟩ = some (.int .i64 ks)) (by kernel_rfl) (HSC.out _ (Below.refl _ _).drew) (fun hHeld => ?_)
    refine take_ok (i := 0) (d := 65) (v := ?_) rfl rfl (by kernel_rfl) (by kernel_rfl) (by kernel_rfl) (fun _ _ _ h => h) (Or.inl ⟨by rfl, ?_⟩) (by assumption) ?_
    rotate_left
    · intro w9 hSw
      try dsimp only at hSw
      first | (go_simp; done) | (go_simp; with_reducible rfl)
    try simp only [Act.put, List.setIfInBounds_toArray, List.set_cons_zero, List.set_cons_succ]
    refine take_ok (i := 1) (d := 66) (v := ?_) rfl rfl (by kernel_rfl) (by kernel_rfl) (by kernel_rfl) (fun _ _ _ h => h) (Or.inl ⟨by rfl, ?_⟩) (by assumption) ?_
    rotate_left
    · intro w9 hSw
      try dsimp only at hSw
      first | (go_simp; done) | (go_simp; with_reducible rfl)
    try simp only [Act.put, List.setIfInBounds_toArray, List.set_cons_zero, List.set_cons_succ]
    refine take_ok (i := 2) (d := 67) (v := ?_) rfl rfl (by kernel_rfl) (by kernel_rfl) (by kernel_rfl) (fun _ _ _ h => h) (Or.inl ⟨by rfl, ?_⟩) (by assumption) ?_
    rotate_left
    · intro w9 hSw
      try dsimp only at hSw
      first | (go_simp; done) | (go_simp; with_reducible rfl)
    try simp only [Act.put, List.setIfInBounds_toArray, List.set_cons_zero, List.set_cons_succ]
    refine take_ok (i := 3) (d := 68) (v := ?_) rfl rfl (by kernel_rfl) (by kernel_rfl) (by kernel_rfl) (fun _ _ _ h => h) (Or.inl ⟨by rfl, ?_⟩) (by assumption) ?_
    rotate_left
    · intro w9 hSw
      try dsimp only at hSw
      first | (go_simp; done) | (go_simp; with_reducible rfl)
    try simp only [Act.put, List.setIfInBounds_toArray, List.set_cons_zero, List.set_cons_succ]
    refine take_ok (i := 5) (d := 70) (v := ?_) rfl rfl (by kernel_rfl) (by kernel_rfl) (by kernel_rfl) (fun _ _ _ h => h) (Or.inl ⟨by rfl, ?_⟩) (by assumption) ?_
    rotate_left
    · intro w9 hSw
      try dsimp only at hSw
      first | (go_simp; done) | (go_simp; with_reducible rfl)
    try simp only [Act.put, List.setIfInBounds_toArray, List.set_cons_zero, List.set_cons_succ]
    refine take_ok (i := 6) (d := 71) (v := ?_) rfl rfl (by kernel_rfl) (by kernel_rfl) (by kernel_rfl) (fun _ _ _ h => h) (Or.inl ⟨by rfl, ?_⟩) (by assumption) ?_
    rotate_left
    · intro w9 hSw
      try dsimp only at hSw
      first | (go_simp; done) | (go_simp; with_reducible rfl)
    try simp only [Act.put, List.setIfInBounds_toArray, List.set_cons_zero, List.set_cons_succ]
    refine wpAnyH_ready (rs := [4]) (by kernel_rfl) (by simp) ?_
    refine AllReadyH.cons rfl (fun K hK => ?_) AllReadyH.nil
    go_simp
    have CT := Lib.hid (pput_c a o s _ xn _ _ (HPA.out.below (bn HZ0.out (Below.refl _ _).drew)) (HNX.out.below (bn HZ0.out (Below.refl _ _).drew)) (by have := HSA.out.1; omega) (fun x hx => by have := HSA.out.2 x hx; omega) (by have := HXN.out; omega))
    unfold postsO at CT
    refine CT.out.mono ?_
    rintro e w14 ⟨v14, us, rfl, ou, hu, b14⟩
    have HB14 : Hid (Below w13.heap.size w13 w14) := Lib.hid (bn (Below.refl _ _).drew b14)
    have OU : Hid (POwn w14 w13.heap.size v14 us) := Lib.hid ou
    have HU := Lib.hid hu
    obtain ⟨A14, C14, rfl⟩ := ou.form
    clear b14 ou hu CT
    refine hK.out _ _ (HSC.out _ HB14.out) (fun hHeld => ?_)
    clear hK K
    try simp only [Act.put, List.setIfInBounds_toArray, List.set_cons_zero, List.set_cons_succ]
    refine wpAnyH_ready (rs := [7]) (by kernel_rfl) (by simp) ?_
    refine AllReadyH.cons rfl (fun K hK => ?_) AllReadyH.nil
    go_simp
    have CT := Lib.hid (put_c a o s _ xn _ w14 (HPA.out.below (bn HZ0.out HB14.out)) (HNX.out.below (bn HZ0.out HB14.out)) (by have := HSA.out.1; omega) (fun x hx => by have := HSA.out.2 x hx; omega) (by have := HXN.out; omega))
    unfold postsT at CT
    refine CT.out.mono ?_
    rintro e w15 ⟨v15, rfl, or, b15⟩
    have HB15 := Lib.hid b15
    have HOR := Lib.hid or
    obtain ⟨A15, C15, ev15, _⟩ := own_form or
    subst ev15
    clear b15 or CT
    refine hK.out _ _ (HSC.out _ (bn HB14.out HB15.out)) (fun hHeld => ?_)
    clear hK K
    try simp only [Act.put, List.setIfInBounds_toArray, List.set_cons_zero, List.set_cons_succ]
    refine wpAnyH_ready (rs := [8]) (by kernel_rfl) (by simp) ?_
    refine AllReadyH.cons rfl (fun K hK => ?_) AllReadyH.nil
    go_simp
    refine (samep_c us _ _ _ w15 (OU.out.below HB15.out).rd (HOR.out.rd (bk_nlP (HPA.out.below (bn HZ0.out (bn HB14.out HB15.out))) (HNX.out.below (bn HZ0.out (bn HB14.out HB15.out))))) (by rw [HU.out, putV_ps]; rfl) (by have := (bk_put' HSA.out HXN.out HU.out).1; omega) (fun x hx => by have := (bk_put' HSA.out HXN.out HU.out).2 x hx; omega)).mono ?_
    rintro e w16 ⟨rfl, b16⟩
    have HB16 := Lib.hid b16
    clear b16 HOR
    refine hK.out _ _ (HSC.out _ (bn (bn HB14.out HB15.out) HB16.out)) (fun hHeld => ?_)
    clear hK K
    try simp only [Act.put, List.setIfInBounds_toArray, List.set_cons_zero, List.set_cons_succ]
    refine take_ok (i := 9) (d := 74) (v := ?_) rfl rfl (by kernel_rfl) (by kernel_rfl) (by kernel_rfl) (fun _ _ _ h => h) (Or.inl ⟨by rfl, ?_⟩) (by assumption) ?_
    rotate_left
    · intro w9 hSw
      try dsimp only at hSw
      first | (go_simp; done) | (go_simp; with_reducible rfl)
    try simp only [Act.put, List.setIfInBounds_toArray, List.set_cons_zero, List.set_cons_succ]
    refine take_ok (i := 10) (d := 75) (v := ?_) rfl rfl (by kernel_rfl) (by kernel_rfl) (by kernel_rfl) (fun _ _ _ h => h) (Or.inl ⟨by rfl, ?_⟩) (by assumption) ?_
    rotate_left
    · intro w9 hSw
      try dsimp only at hSw
      first | (go_simp; done) | (go_simp; with_reducible rfl)
    try simp only [Act.put, List.setIfInBounds_toArray, List.set_cons_zero, List.set_cons_succ]
    refine take_ok (i := 11) (d := 76) (v := ?_) rfl rfl (by kernel_rfl) (by kernel_rfl) (by kernel_rfl) (fun _ _ _ h => h) (Or.inl ⟨by rfl, ?_⟩) (by assumption) ?_
    rotate_left
    · intro w9 hSw
      try dsimp only at hSw
      first | (go_simp; done) | (go_simp; with_reducible rfl)
    try simp only [Act.put, List.setIfInBounds_toArray, List.set_cons_zero, List.set_cons_succ]
    refine take_ok (i := 12) (d := 77) (v := ?_) rfl rfl (by kernel_rfl) (by kernel_rfl) (by kernel_rfl) (fun _ _ _ h => h) (Or.inl ⟨by rfl, ?_⟩) (by assumption) ?_
    rotate_left
    · intro w9 hSw
      try dsimp only at hSw
      first | (go_simp; done) | (go_simp; with_reducible rfl)
    try simp only [Act.put, List.setIfInBounds_toArray, List.set_cons_zero, List.set_cons_succ]
    refine take_ok (i := 14) (d := 79) (v := ?_) rfl rfl (by kernel_rfl) (by kernel_rfl) (by kernel_rfl) (fun _ _ _ h => h) (Or.inl ⟨by rfl, ?_⟩) (by assumption) ?_
    rotate_left
    · intro w9 hSw
      try dsimp only at hSw
      first | (go_simp; done) | (go_simp; with_reducible rfl)
    try simp only [Act.put, List.setIfInBounds_toArray, List.set_cons_zero, List.set_cons_succ]
    refine take_ok (i := 15) (d := 80) (v := ?_) rfl rfl (by kernel_rfl) (by kernel_rfl) (by kernel_rfl) (fun _ _ _ h => h) (Or.inl ⟨by rfl, ?_⟩) (by assumption) ?_
    rotate_left
    · intro w9 hSw
      try dsimp only at hSw
      first | (go_simp; done) | (go_simp; with_reducible rfl)
    try simp only [Act.put, List.setIfInBounds_toArray, List.set_cons_zero, List.set_cons_succ]
    refine wpAnyH_ready (rs := [13]) (by kernel_rfl) (by simp) ?_
    refine AllReadyH.cons rfl (fun K hK => ?_) AllReadyH.nil
    go_simp
    have CT := Lib.hid (pdrop_c a ko ks _ w16 (HPA.out.below (bn HZ0.out (bn (bn HB14.out HB15.out) HB16.out))) (by have := HSA.out.1; omega) (fun x hx => by have := HSA.out.2 x hx; omega))
    unfold postsO at CT
    refine CT.out.mono ?_
    rintro e w17 ⟨v17, ts, rfl, ot, ht, b17⟩
    have HB17 := Lib.hid b17
    have OT := Lib.hid ot
    have HT := Lib.hid ht
    obtain ⟨A17, C17, rfl⟩ := ot.form
    clear b17 ot ht CT
    refine hK.out _ _ (HSC.out _ (bn (bn (bn HB14.out HB15.out) HB16.out) HB17.out)) (fun hHeld => ?_)
    clear hK K
    try simp only [Act.put, List.setIfInBounds_toArray, List.set_cons_zero, List.set_cons_succ]
    refine wpAnyH_ready (rs := [16]) (by kernel_rfl) (by simp) ?_
    refine AllReadyH.cons rfl (fun K hK => ?_) AllReadyH.nil
    go_simp
    have CT := Lib.hid (drop_c a ko ks _ w17 (HPA.out.below (bn HZ0.out (bn (bn (bn HB14.out HB15.out) HB16.out) HB17.out))) (by have := HSA.out.1; omega) (fun x hx => by have := HSA.out.2 x hx; omega))
    unfold postsT at CT
    refine CT.out.mono ?_
    rintro e w18 ⟨v18, rfl, or, b18⟩
    have HB18 := Lib.hid b18
    have HOR := Lib.hid or
    obtain ⟨A18, C18, ev18, _⟩ := own_form or
    subst ev18
    clear b18 or CT
    refine hK.out _ _ (HSC.out _ (bn (bn (bn (bn HB14.out HB15.out) HB16.out) HB17.out) HB18.out)) (fun hHeld => ?_)
    clear hK K
    try simp only [Act.put, List.setIfInBounds_toArray, List.set_cons_zero, List.set_cons_succ]
    refine wpAnyH_ready (rs := [17]) (by kernel_rfl) (by simp) ?_
    refine AllReadyH.cons rfl (fun K hK => ?_) AllReadyH.nil
    go_simp
    refine (samep_c ts _ _ _ w18 (OT.out.below HB18.out).rd (HOR.out.rd (bk_nlD (HPA.out.below (bn HZ0.out (bn (bn (bn (bn HB14.out HB15.out) HB16.out) HB17.out) HB18.out))))) (by rw [HT.out, dropV_ps]) (by have := (bk_drop HSA.out HT.out).1; omega) (fun x hx => by have := (bk_drop HSA.out HT.out).2 x hx; omega)).mono ?_
    rintro e w19 ⟨rfl, b19⟩
    have HB19 := Lib.hid b19
    clear b19 HOR
    refine hK.out _ _ (HSC.out _ (bn (bn (bn (bn (bn HB14.out HB15.out) HB16.out) HB17.out) HB18.out) HB19.out)) (fun hHeld => ?_)
    clear hK K
    try simp only [Act.put, List.setIfInBounds_toArray, List.set_cons_zero, List.set_cons_succ]
    refine take_ok (i := 18) (d := 83) (v := ?_) rfl rfl (by kernel_rfl) (by kernel_rfl) (by kernel_rfl) (fun _ _ _ h => h) (Or.inl ⟨by rfl, ?_⟩) (by assumption) ?_
    rotate_left
    · intro w9 hSw
      try dsimp only at hSw
      first | (go_simp; done) | (go_simp; with_reducible rfl)
    try simp only [Act.put, List.setIfInBounds_toArray, List.set_cons_zero, List.set_cons_succ]
    refine take_ok (i := 19) (d := 84) (v := ?_) rfl rfl (by kernel_rfl) (by kernel_rfl) (by kernel_rfl) (fun _ _ _ h => h) (Or.inl ⟨by rfl, ?_⟩) (by assumption) ?_
    rotate_left
    · intro w9 hSw
      try dsimp only at hSw
      first | (go_simp; done) | (go_simp; with_reducible rfl)
    try simp only [Act.put, List.setIfInBounds_toArray, List.set_cons_zero, List.set_cons_succ]
    refine wpAnyH_ready (rs := [20]) (by kernel_rfl) (by simp) ?_
    refine AllReadyH.cons rfl (fun K hK => ?_) AllReadyH.nil
    go_simp
    refine (HWC.out w19).mono ?_
    rintro e w20 ⟨rfl, b20⟩
    have HB20 := Lib.hid b20
    clear b20
    refine hK.out _ _ (HSC.out _ (bn (bn (bn (bn (bn (bn HB14.out HB15.out) HB16.out) HB17.out) HB18.out) HB19.out) HB20.out)) (fun hHeld => ?_)
    clear hK K
    try simp only [Act.put, List.setIfInBounds_toArray, List.set_cons_zero, List.set_cons_succ]
    refine take_ok (i := 21) (d := 86) (v := ?_) rfl rfl (by kernel_rfl) (by kernel_rfl) (by kernel_rfl) (fun _ _ _ h => h) (Or.inl ⟨by rfl, ?_⟩) (by assumption) ?_
    rotate_left
    · intro w9 hSw
      try dsimp only at hSw
      first | (go_simp; done) | (go_simp; with_reducible rfl)
    try simp only [Act.put, List.setIfInBounds_toArray, List.set_cons_zero, List.set_cons_succ]
    refine take_ok (i := 22) (d := 10) (v := ?_) rfl rfl (by kernel_rfl) (by kernel_rfl) (by kernel_rfl) (fun _ _ _ h => h) (Or.inl ⟨by rfl, ?_⟩) (by assumption) ?_
    rotate_left
    · intro w9 hSw
      try dsimp only at hSw
      first | (go_simp; done) | (go_simp; with_reducible rfl)
    try simp only [Act.put, List.setIfInBounds_toArray, List.set_cons_zero, List.set_cons_succ]
    refine wpAnyH_done (by kernel_rfl) ?_ _
    clear hHeld HSC
    go_wp2
    go_ret
    exact ⟨rfl, bn HZ0.out (bn (bn (bn (bn (bn (bn HB14.out HB15.out) HB16.out) HB17.out) HB18.out) HB19.out) HB20.out)⟩
end Go.Proofs.Ytgdajnjfkokmdaa
namespace Go.Proofs.Ytgdajnjfkokmdaa
open Go.RowKit Go.ChangeShapes Go.WideShapes Go.ChangeAt Go.Deep

set_option maxRecDepth 100000 in
theorem chg_lifted (os : Os) (started : os.Started) (H : Type) (enc : TypeId × Value → H) :
    ReturnsInHanded {} Try.checked os 4 .any (Rows.postChangesSpec.pre6 enc Try.prog Try.f4 [] false) (Rows.postChangesSpec.post enc Try.prog Try.f4 false true false false) := by
  refine law_lift (C := Try.checked) own started (by kernel_rfl) Try.func4
    (ChangeSpec.witness6 (enc := enc) (C := Try.checked) false ⟨#[], #[.slice none 0 0, .agg #[.int .i64 0, .int .i64 0, .slice none 0 0], .agg #[.int .i64 0, .int .i64 0], .slice none 0 0, .slice none 0 0], []⟩ 8 (by kernel_rfl) (by kernel_rfl) (by kernel_rfl) (by kernel_rfl)) laidOut
    (by rw [Try.params4]; exact of_decide_eq_true (by kernel_rfl)) rfl 4 Try.underlying4 (by kernel_rfl)
    (fun ds h => by
      rw [Try.params4] at h
      match ds, h with
      | [_, _, _, _, _], _ => rfl) ?_
  intro W base args ds ps hval hA _
  rw [Try.params4] at hA hval
  obtain ⟨v0, v1, v2, v3, v4, d0, d1, d2, d3, d4, p0, p1, p2, p3, p4, rfl, rfl, h0, h1, h2, h3, h4⟩ := trodAll_five hA
  obtain ⟨a, hPa, oka⟩ := open_posts (hval 0 30 v0 rfl rfl) h0
  obtain ⟨q, rfl, hn⟩ := open_post (hval 1 37 v1 rfl rfl) h1
  obtain ⟨ko, ks, rfl, _⟩ := open_key (hval 2 34 v2 rfl rfl) h2
  obtain ⟨ka, hka, oka⟩ := open_keys (hval 3 25 v3 rfl rfl) h3
  obtain ⟨kb, hkb, okb⟩ := open_keys (hval 4 25 v4 rfl rfl) h4
  exact chg_law awake_c a q.o q.s ko ks q.ns ka kb v0 q.a v3 v4 W hPa hn hka hkb oka okb

theorem chg_holds : Rows.PostChangesSaid :=
  OpenClaim.holds_of_wide 4 Try.f4 rfl rfl rfl rfl rfl rfl rfl ⟨rfl, rfl, rfl, rfl, rfl⟩ rfl rfl rfl rfl rfl (by kernel_rfl) Try.func4 (by kernel_rfl)
    (of_decide_eq_true (by kernel_rfl)) (by unfold Func.isWrapper; first | (rw [if_pos (by decide +kernel)]; kernel_rfl) | (rw [if_neg (by decide +kernel)]; exact ⟨rfl, rfl⟩))
    (fun os started H enc _ => chg_lifted os started H enc)
#print axioms chg_holds
end Go.Proofs.Ytgdajnjfkokmdaa
