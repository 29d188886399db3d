/-
  PROVED: a Post that is put is there, at its Key, once; dropped again all is as it was, if its Key was not there, for every input (no condition)
-/
import Derived.Test.YtgdajnjfkokmdaaPstNew
import Derived.Test.YtgdajnjfkokmdaaPstKeyMap
import Derived.Test.YtgdajnjfkokmdaaLift
import Derived.Deep.SlicePairs
import Derived.Deep.Slices
import Derived.Lib.SmallJoins
import Derived.Test.YtgdajnjfkokmdaaPstPPut
import Derived.Test.YtgdajnjfkokmdaaPstPMay
import Derived.Test.YtgdajnjfkokmdaaPstAwake
namespace Go.Proofs.Ytgdajnjfkokmdaa
open Go.RowKit Go.ChangeShapes Go.WideShapes Go.ChangeAt Go.Deep Go.Joins
set_option maxRecDepth 100000

theorem wf_inR {n : Int} (h : (Lit.int .i64 n).wf = true) : inR n := by
  have e : IntKind.i64.min = -9223372036854775808 := by decide
  have e2 : IntKind.i64.max = 9223372036854775807 := by decide
  simpa [Lit.wf, e, e2, inR] using h
theorem add_off (a : Addr) (k : Nat) (hs : a.spot = none) : a.add k = ⟨a.block, a.off + k, none⟩ := by
  obtain ⟨b, o, s⟩ := a
  simp only at hs
  subst hs
  exact add_plain ..
theorem spot_none {W : World} {a : Addr} {v : Value} (h : W.cell? (a.add 0) = some v) : a.spot = none := by
  obtain ⟨b, o, s⟩ := a
  cases s with
  | none => rfl
  | some s => simp [World.cell?, Addr.add] at h; split at h <;> simp at h

/-- A Key, off its cells. -/
theorem key_cells {H : Type} {enc : TypeId × Value → H} {W : World} {base : Nat} {spare : Nat → Bool} {held : Bool} {fuel : Nat} {cs : List Value} {x : DataW H × List MemPlace}
    (h : DataW.trod enc Try.prog W base spare held fuel 34 cs = some x) : ∃ a b : Int, cs = [.int .i64 a, .int .i64 b] ∧ inR a ∧ inR b := by
  obtain ⟨y0, y1, n, _, hl, h0, h1⟩ := trod_struct2 Try.underlying34 h
  have ck : Try.prog.cellsOf 34 = 2 := by kernel_rfl
  have c3 : Try.prog.cellsOf 3 = 1 := by kernel_rfl
  simp only [c3] at h0 h1
  rw [ck] at hl
  match cs, hl with
  | [u, v], _ =>
    obtain ⟨a, e0, _, wa⟩ := DataW.trod_int (t := 3) Try.underlying3 h0
    obtain ⟨b, e1, _, wb⟩ := DataW.trod_int (t := 3) Try.underlying3 h1
    simp at e0 e1
    exact ⟨a, b, by rw [e0, e1], wf_inR wa, wf_inR wb⟩

/-- A list of numbers, off its one cell. -/
theorem open_cell {H : Type} {enc : TypeId × Value → H} {W : World} {base : Nat} {spare : Nat → Bool} {held : Bool} {v : Value} {fuel : Nat} {x : DataW H × List MemPlace}
    (hf : DataW.trod enc Try.prog W base spare held fuel 35 [v] = some x) : ∃ l : List Int, Nl W v l ∧ ∀ x ∈ l, inR x := by
  rcases open_slice1 Try.underlying35 (by kernel_rfl) hf with ⟨e, _⟩ | ⟨a, len', cap', m, n, V, D, Pl, e, hb, hl, hm, hmm, _, hi⟩
  · simp only [List.cons.injEq, and_true] at e
    exact ⟨[], .inl ⟨e, rfl⟩, fun x hx => by simp at hx⟩
  · simp only [List.cons.injEq, and_true] at e
    subst e
    have hlm : len' ≤ m := by rw [hmm]; split <;> omega
    have each : ∀ i, i < len' → ∃ q : Int, W.cell? (a.add i) = some (.int .i64 q) ∧ inR q := by
      intro i hi'
      obtain ⟨h1, h2⟩ := hi i (by omega)
      obtain ⟨x, e0, _, hw⟩ := DataW.trod_int (t := 3) Try.underlying3 h2
      simp only [List.cons.injEq, and_true] at e0
      exact ⟨x, by rw [h1, e0], wf_inR hw⟩
    obtain ⟨q, hq⟩ := choose_lt each
    refine ⟨(List.range len').map q, .inr ⟨a, cap', by simp, fun h0 => ?_⟩, fun x hx => ?_⟩
    · have h0' : 0 < len' := by simpa using h0
      have hsp := spot_none (hq 0 h0').1
      refine ⟨a.block, a.off, by obtain ⟨b, o, s⟩ := a; simp only at hsp; subst hsp; rfl, fun k hk => ?_⟩
      have hk' : k < len' := by simpa using hk
      have h1 := (hq k hk').1
      rw [add_off a _ hsp] at h1
      simp only [List.getElem_map, List.getElem_range]
      exact h1
    · obtain ⟨i, hi2, rfl⟩ := List.mem_map.1 hx
      exact (hq i (by simpa using hi2)).2
/-- A Post, off its cells. -/
theorem post_cells {H : Type} {enc : TypeId × Value → H} {W : World} {base : Nat} {spare : Nat → Bool} {held : Bool} {fuel : Nat} {cs : List Value} {x : DataW H × List MemPlace}
    (h : DataW.trod enc Try.prog W base spare held fuel 37 cs = some x) : ∃ q : Pv, cs = [.int .i64 q.o, .int .i64 q.s, q.a] ∧ Nl W q.a q.ns ∧ inR q.o ∧ inR q.s ∧ ∀ x ∈ q.ns, inR x := by
  obtain ⟨y0, y1, n, _, hl, h0, h1⟩ := trod_struct2 Try.underlying37 h
  have c8 : Try.prog.cellsOf 37 = 3 := by kernel_rfl
  have ck : Try.prog.cellsOf 34 = 2 := by kernel_rfl
  have cv : Try.prog.cellsOf 35 = 1 := by kernel_rfl
  rw [c8] at hl
  match cs, hl with
  | [u0, u1, u2], _ =>
    simp only [ck, cv] at h0 h1
    obtain ⟨a, b, e0, wa, wb⟩ := key_cells h0
    obtain ⟨lv, n1, hv⟩ := open_cell (v := u2) h1
    simp at e0
    exact ⟨⟨a, b, u2, lv⟩, by rw [e0.1, e0.2], n1, wa, wb, hv⟩
instance : Inhabited Pv := ⟨⟨0, 0, .slice none 0 0, []⟩⟩
/-- What an int holds, of a whole list. -/
def okPv (l : List Pv) : Prop := ∀ x ∈ l, inR x.o ∧ inR x.s ∧ ∀ y ∈ x.ns, inR y
theorem okPv.p {l : List Pv} (h : okPv l) : okP (ps l) := fun p hp => by
  obtain ⟨x, hx, rfl⟩ := List.mem_map.1 hp
  exact (h x hx).2.2
theorem okPv.k {l : List Pv} (h : okPv l) : ∀ k ∈ (ps l).map Po.k, okKy k := fun k hk => by
  obtain ⟨p, hp, rfl⟩ := List.mem_map.1 hk
  obtain ⟨x, hx, rfl⟩ := List.mem_map.1 hp
  exact ⟨(h x hx).1, (h x hx).2.1⟩
theorem open_post {H : Type} {enc : TypeId × Value → H} {W : World} {r : Reach} {b0 base : Nat} {spare : Nat → Bool} {held : Bool} {v : Value} {d : DataW H} {p : List MemPlace}
    (hv : Value.okWide Try.prog W r b0 37 v) (h : DataW.Trod enc Try.prog W base spare held 37 v d p) : ∃ q : Pv, v = .agg #[.int .i64 q.o, .int .i64 q.s, q.a] ∧ Nl W q.a q.ns := by
  obtain ⟨cs, rfl, hsz⟩ := okWide_struct Try.underlying37 hv
  obtain ⟨fuel, hf⟩ := h
  obtain ⟨q, h1, h2, _⟩ := post_cells hf
  have e2 : cs.toList = [.int .i64 q.o, .int .i64 q.s, q.a] := h1
  exact ⟨q, by rw [show cs = #[.int .i64 q.o, .int .i64 q.s, q.a] from by cases cs; simpa using e2], h2⟩
theorem open_key {H : Type} {enc : TypeId × Value → H} {W : World} {r : Reach} {b0 base : Nat} {spare : Nat → Bool} {held : Bool} {v : Value} {d : DataW H} {p : List MemPlace}
    (hv : Value.okWide Try.prog W r b0 34 v) (h : DataW.Trod enc Try.prog W base spare held 34 v d p) : ∃ a b : Int, v = .agg #[.int .i64 a, .int .i64 b] ∧ inR a ∧ inR b := by
  obtain ⟨cs, rfl, hsz⟩ := okWide_struct Try.underlying34 hv
  obtain ⟨fuel, hf⟩ := h
  obtain ⟨a, b, h1, h2⟩ := key_cells hf
  have e2 : cs.toList = [.int .i64 a, .int .i64 b] := h1
  exact ⟨a, b, by rw [show cs = #[.int .i64 a, .int .i64 b] from by cases cs; simpa using e2], h2⟩
/-- A list of Posts, off its one cell. -/
theorem posts_cell {H : Type} {enc : TypeId × Value → H} {W : World} {base : Nat} {spare : Nat → Bool} {held : Bool} {v : Value} {fuel : Nat} {x : DataW H × List MemPlace}
    (hf : DataW.trod enc Try.prog W base spare held fuel 30 [v] = some x) : ∃ l : List Pv, PRd W v l ∧ okPv l := by
  have c8 : Try.prog.cellsOf 37 = 3 := by kernel_rfl
  rcases open_slice Try.underlying30 hf with ⟨e, _⟩ | ⟨a, len, cap, m, n, D, Pl, e, hb, hl, hm, hmm, _, hi⟩
  · simp only [List.cons.injEq, and_true] at e
    rw [e]
    exact ⟨[], ⟨none, 0, rfl, Nat.le_refl _, fun h => absurd h (by simp)⟩, fun x hx => by simp at hx⟩
  · simp only [List.cons.injEq, and_true] at e
    subst e
    have hlm : len ≤ m := by rw [hmm]; split <;> omega
    have each : ∀ i, i < len → ∃ q : Pv, (∀ j, j < 3 → W.cell? ((a.add (i * 3)).add j) = [.int .i64 q.o, .int .i64 q.s, q.a][j]?) ∧ Nl W q.a q.ns ∧ inR q.o ∧ inR q.s ∧ ∀ x ∈ q.ns, inR x := by
      intro i hi'
      obtain ⟨cs', h1, h2⟩ := hi i (by omega)
      rw [c8] at h1
      obtain ⟨_, _, h3⟩ := World.cells?_some h1
      obtain ⟨q, he, hq⟩ := post_cells h2
      exact ⟨q, fun j hj => by rw [h3 j hj, he], hq⟩
    obtain ⟨q, hq⟩ := choose_lt each
    refine ⟨(List.range len).map q, ⟨some a, cap, by simp, by simpa using hl, fun h0 => ?_⟩, fun x hx => ?_⟩
    · have h0' : 0 < len := by simpa using h0
      have hsp : a.spot = none := by
        have h1 := (hq 0 h0').1 0 (by decide)
        obtain ⟨b, o, s⟩ := a
        cases s with
        | none => rfl
        | some s => simp [World.cell?, Addr.add] at h1; split at h1 <;> simp at h1
      refine ⟨a.block, a.off, by obtain ⟨b, o, s⟩ := a; simp only at hsp; subst hsp; rfl, fun k hk => ?_⟩
      have hk' : k < len := by simpa using hk
      obtain ⟨h1, hn1, _⟩ := hq k hk'
      rw [add_off a _ hsp] at h1
      have h2 : ∀ j, j < 3 → W.cell? ⟨a.block, a.off + k * 3 + j, none⟩ = [.int .i64 (q k).o, .int .i64 (q k).s, (q k).a][j]? := fun j hj => by
        rw [← h1 j hj, add_plain]
      simp only [List.getElem_map, List.getElem_range]
      exact ⟨h2 0 (by decide), h2 1 (by decide), h2 2 (by decide), hn1⟩
    · obtain ⟨i, hi2, rfl⟩ := List.mem_map.1 hx
      exact (hq i (by simpa using hi2)).2.2
theorem open_posts {H : Type} {enc : TypeId × Value → H} {W : World} {r : Reach} {b0 base : Nat} {spare : Nat → Bool} {held : Bool} {v : Value} {d : DataW H} {p : List MemPlace}
    (hv : Value.okWide Try.prog W r b0 30 v) (h : DataW.Trod enc Try.prog W base spare held 30 v d p) : ∃ l : List Pv, PRd W v l ∧ okPv l := by
  obtain ⟨ad, len, cap, rfl⟩ := okWide_slice Try.underlying30 hv
  obtain ⟨fuel, hf⟩ := h
  simp only [Value.cells] at hf
  exact posts_cell hf
/-- A list of Keys. -/
theorem open_keys {H : Type} {enc : TypeId × Value → H} {W : World} {r : Reach} {b0 base : Nat} {spare : Nat → Bool} {held : Bool} {v : Value} {d : DataW H} {p : List MemPlace}
    (hv : Value.okWide Try.prog W r b0 25 v) (h : DataW.Trod enc Try.prog W base spare held 25 v d p) : ∃ l : List Ky, KRd W v l ∧ ∀ k ∈ l, okKy k := by
  obtain ⟨ad, len, cap, rfl⟩ := okWide_slice Try.underlying25 hv
  obtain ⟨fuel, hf⟩ := h
  simp only [Value.cells] at hf
  have c2 : Try.prog.cellsOf 34 = 2 := by kernel_rfl
  rcases open_slice Try.underlying25 hf with ⟨e, _⟩ | ⟨a, len', cap', m, n, D, Pl, e, hb, hl, hm, hmm, _, hi⟩
  · simp only [List.cons.injEq, and_true] at e
    rw [e]
    exact ⟨[], ⟨none, 0, rfl, Nat.le_refl _, fun h => absurd h (by simp)⟩, fun x hx => by simp at hx⟩
  · simp only [List.cons.injEq, and_true, Value.slice.injEq] at e
    obtain ⟨rfl, rfl, rfl⟩ := e
    have hlm : len ≤ m := by rw [hmm]; split <;> omega
    have each : ∀ i, i < len → ∃ q : Ky, (∀ j, j < 2 → W.cell? ((a.add (i * 2)).add j) = [.int .i64 q.1, .int .i64 q.2][j]?) ∧ okKy q := by
      intro i hi'
      obtain ⟨cs', h1, h2⟩ := hi i (by omega)
      rw [c2] at h1
      obtain ⟨_, _, h3⟩ := World.cells?_some h1
      obtain ⟨x, y, he, hx, hy⟩ := key_cells h2
      exact ⟨(x, y), fun j hj => by rw [h3 j hj, he], hx, hy⟩
    obtain ⟨q, hq⟩ := choose_lt each
    refine ⟨(List.range len).map q, ⟨some a, cap, by simp, by simpa using hl, fun h0 => ?_⟩, fun x hx => ?_⟩
    · have h0' : 0 < len := by simpa using h0
      have hsp : a.spot = none := by
        have h1 := (hq 0 h0').1 0 (by decide)
        obtain ⟨b, o, s⟩ := a
        cases s with
        | none => rfl
        | some s => simp [World.cell?, Addr.add] at h1; split at h1 <;> simp at h1
      refine ⟨a.block, a.off, by obtain ⟨b, o, s⟩ := a; simp only at hsp; subst hsp; rfl, fun k hk => ?_⟩
      have hk' : k < len := by simpa using hk
      obtain ⟨h1, _⟩ := hq k hk'
      rw [add_off a _ hsp] at h1
      have h2 : ∀ j, j < 2 → W.cell? ⟨a.block, a.off + k * 2 + j, none⟩ = [.int .i64 (q k).1, .int .i64 (q k).2][j]? := fun j hj => by
        rw [← h1 j hj, add_plain]
      simp only [List.getElem_map, List.getElem_range]
      exact ⟨h2 0 (by decide), h2 1 (by decide)⟩
    · obtain ⟨i, hi2, rfl⟩ := List.mem_map.1 hx
      exact (hq i (by simpa using hi2)).2
theorem open_lists {H : Type} {enc : TypeId × Value → H} {W : World} {r : Reach} {b0 base : Nat} {spare : Nat → Bool} {held : Bool} {v : Value} {d : DataW H} {p : List MemPlace}
    (hv : Value.okWide Try.prog W r b0 22 v) (h : DataW.Trod enc Try.prog W base spare held 22 v d p) : ∃ ls : List Lv, LRd W v ls ∧ ∀ y ∈ ls, okPv y.l := by
  obtain ⟨ad, len, cap, rfl⟩ := okWide_slice Try.underlying22 hv
  obtain ⟨fuel, hf⟩ := h
  simp only [Value.cells] at hf
  rcases open_slice1 Try.underlying22 (by kernel_rfl) hf with ⟨e, _⟩ | ⟨a, len', cap', m, n, V, D, Pls, e, hb, hl, hm, hmm, _, hi⟩
  · simp only [List.cons.injEq, and_true] at e
    rw [e]
    exact ⟨[], ⟨⟨none, 0, rfl, Nat.le_refl _, fun h => absurd h (by simp)⟩, fun x hx => by simp at hx⟩, fun x hx => by simp at hx⟩
  · simp only [List.cons.injEq, and_true, Value.slice.injEq] at e
    obtain ⟨rfl, rfl, rfl⟩ := e
    have hlm : len ≤ m := by rw [hmm]; split <;> omega
    have each : ∀ i, i < len → ∃ q : List Pv, W.cell? (a.add i) = some (V i) ∧ PRd W (V i) q ∧ okPv q := by
      intro i hi'
      obtain ⟨h1, h2⟩ := hi i (by omega)
      obtain ⟨l, hp, ho⟩ := posts_cell h2
      exact ⟨l, h1, hp, ho⟩
    obtain ⟨q, hq⟩ := choose_lt each
    refine ⟨(List.range len).map fun i => ⟨V i, q i⟩, ⟨⟨some a, cap, by simp, by simpa using hl, fun h0 => ?_⟩, fun x hx => ?_⟩, fun x hx => ?_⟩
    · have h0' : 0 < len := by simpa using h0
      have hsp := spot_none (hq 0 h0').1
      refine ⟨a.block, a.off, by obtain ⟨b, o, s⟩ := a; simp only at hsp; subst hsp; rfl, fun k hk => ?_⟩
      have hk' : k < len := by simpa using hk
      have h1 := (hq k hk').1
      rw [add_off a _ hsp] at h1
      simp only [List.getElem_map, List.getElem_range]
      exact h1
    · obtain ⟨i, hi2, rfl⟩ := List.mem_map.1 hx
      exact (hq i (by simpa using hi2)).2.1
    · obtain ⟨i, hi2, rfl⟩ := List.mem_map.1 hx
      exact (hq i (by simpa using hi2)).2.2
theorem trodAll_five {H : Type} {enc : TypeId × Value → H} {P : Program} {w : World} {base : Nat} {spare : Nat → Bool} {held : Bool} {t0 t1 t2 t3 t4 : TypeId} {args : Array Value} {ds : List (DataW H)} {ps : List MemPlace} (h : DataW.TrodAll enc P w base spare held [t0, t1, t2, t3, t4] args.toList ds ps) :
    ∃ v0 v1 v2 v3 v4 d0 d1 d2 d3 d4 p0 p1 p2 p3 p4, args = #[v0, v1, v2, v3, v4] ∧ ds = [d0, d1, d2, d3, d4] ∧ DataW.Trod enc P w base spare held t0 v0 d0 p0 ∧ DataW.Trod enc P w base spare held t1 v1 d1 p1 ∧ DataW.Trod enc P w base spare held t2 v2 d2 p2 ∧ DataW.Trod enc P w base spare held t3 v3 d3 p3 ∧ DataW.Trod enc P w base spare held t4 v4 d4 p4 := by
  obtain ⟨v0, vs0, d0, ds0, p0, q0, hargs, rfl, rfl, h0, r0⟩ := trodAll_cons h
  obtain ⟨v1, vs1, d1, ds1, p1, q1, rfl, rfl, rfl, h1, r1⟩ := trodAll_cons r0
  obtain ⟨v2, vs2, d2, ds2, p2, q2, rfl, rfl, rfl, h2, r2⟩ := trodAll_cons r1
  obtain ⟨v3, vs3, d3, ds3, p3, q3, rfl, rfl, rfl, h3, r3⟩ := trodAll_cons r2
  obtain ⟨v4, vs4, d4, ds4, p4, q4, rfl, rfl, rfl, h4, r4⟩ := trodAll_cons r3
  obtain ⟨rfl, rfl, rfl⟩ := trodAll_nil r4
  exact ⟨v0, v1, v2, v3, v4, d0, d1, d2, d3, d4, p0, p1, p2, p3, p4, by cases args; simp_all, rfl, h0, h1, h2, h3, h4⟩
end Go.Proofs.Ytgdajnjfkokmdaa
namespace Go.Proofs.Ytgdajnjfkokmdaa
open Go.RowKit Go.Lib

theorem bk_one {w : World} {g : Nat} {o s : Int} {xa : Value} {xn : List Int} (h : Bx 37 w g #[.int .i64 o, .int .i64 s, xa]) (hn : Nl w xa xn) : PRd w (.slice (some ⟨g, 0, none⟩) 1 1) [⟨o, s, xa, xn⟩] :=
  ⟨_, 1, rfl, Nat.le_refl _, fun _ => ⟨g, 0, rfl, fun k hk => by
    match k, hk with
    | 0, _ => exact ⟨h.cell 0, h.cell 1, h.cell 2, hn⟩⟩⟩
theorem bk_great {w : World} {va xa : Value} {a : List Pv} {xn : List Int} (o s : Int) (ha : PRd w va a) (hx : Nl w xa xn) :
    Calls Try.prog 8 #[.slice (some ⟨w.heap.size + 1 + 1, 0, none⟩) 2 2, .int .i64 2] (((w.alloc (.cells #[.int .i64 o, .int .i64 s, xa] 37)).alloc (.cells #[.int .i64 o, .int .i64 s, xa] 37)).alloc (.cells #[va, .slice (some ⟨w.heap.size + 1, 0, none⟩) 1 1] 30)) fun e w' => ∃ g : Bool, e = .returned (.bool g) ∧ Below w.heap.size w w' ∧ Bx 37 w' w.heap.size #[.int .i64 o, .int .i64 s, xa] ∧ (g = false → small1 a ∧ xn.length ≤ 30) := by
  have hal := below_two w (.cells #[.int .i64 o, .int .i64 s, xa] 37) (.cells #[.int .i64 o, .int .i64 s, xa] 37)
  have b1 := (Bx.new 37 w #[.int .i64 o, .int .i64 s, xa]).below (alloc_below _ (.cells #[.int .i64 o, .int .i64 s, xa] 37))
  have b2 := Bx.new 37 (w.alloc (.cells #[.int .i64 o, .int .i64 s, xa] 37)) #[.int .i64 o, .int .i64 s, xa]
  have h := great_two (ha.below hal) (bk_one b2 (hx.below hal))
  have hsz : ((w.alloc (.cells #[.int .i64 o, .int .i64 s, xa] 37)).alloc (.cells #[.int .i64 o, .int .i64 s, xa] 37)).heap.size = w.heap.size + 1 + 1 := by simp
  have hs1 : (w.alloc (.cells #[.int .i64 o, .int .i64 s, xa] 37)).heap.size = w.heap.size + 1 := by simp
  rw [hsz, hs1] at h
  refine h.mono ?_
  rintro e w' ⟨g, h1, h2, h3⟩
  have h2' : Below ((w.alloc (.cells #[.int .i64 o, .int .i64 s, xa] 37)).alloc (.cells #[.int .i64 o, .int .i64 s, xa] 37)).heap.size ((w.alloc (.cells #[.int .i64 o, .int .i64 s, xa] 37)).alloc (.cells #[.int .i64 o, .int .i64 s, xa] 37)) w' := by rw [hsz]; exact h2
  exact ⟨g, h1, bn hal h2', b1.below h2', fun h => ⟨(h3 h).1, (h3 h).2.2 ⟨o, s, xa, xn⟩ (by simp)⟩⟩
theorem bk_mayL (o s : Int) (xa : Value) (xn : List Int) : mayL (ps [⟨o, s, xa, xn⟩]) = oneB xn := by
  rw [Bool.eq_iff_iff, mayL_iff]
  simp [ps, Pv.p, Rise]
theorem bk_may1 {w : World} {o s : Int} {xa : Value} {xn : List Int} (hx : Nl w xa xn) (hn : xn.length ≤ 30) : Calls Try.prog 17 #[.slice (some ⟨w.heap.size, 0, none⟩) 1 1] (w.alloc (.cells #[.int .i64 o, .int .i64 s, xa] 37)) fun e w' => e = .returned (.bool (oneB xn)) ∧ Below w.heap.size w w' := by
  have hal := alloc_below w (.cells #[.int .i64 o, .int .i64 s, xa] 37)
  refine (pmay_c [⟨o, s, xa, xn⟩] _ _ (bk_one (Bx.new 37 w _) (hx.below hal)) (by simp) (fun x hx => by simp at hx; subst hx; simp; omega)).mono ?_
  rintro e w' ⟨h1, h2⟩
  exact ⟨by rw [h1, bk_mayL], bn hal h2⟩
def bkN (l : List Pv) (o s : Int) (i : Nat) : Nat := (l.take i).countP fun y => y.o == o && y.s == s
theorem bkN_zero (l : List Pv) (o s : Int) : bkN l o s 0 = 0 := rfl
theorem bkN_le (l : List Pv) (o s : Int) (i : Nat) : bkN l o s i ≤ i := Nat.le_trans List.countP_le_length (by rw [List.length_take]; omega)
theorem bkN_succ {l : List Pv} (o s : Int) {i : Nat} (h : i < l.length) : bkN l o s (i + 1) = bkN l o s i + if (l[i].o == o && l[i].s == s) = true then 1 else 0 := by
  unfold bkN
  rw [List.take_succ_eq_append_getElem h, List.countP_append, List.countP_singleton]
theorem bk_end {ys : List Pv} {L : List Po} {o s : Int} (h : ps ys = L) (hc : L.countP (fun y => y.k == (o, s)) = 1) : bkN ys o s ys.length = 1 := by
  subst h
  unfold bkN
  rw [List.take_length]
  rw [ps, List.countP_map] at hc
  rw [← hc]
  rfl
theorem bk_key {ys : List Pv} {L : List Po} {o s : Int} {xn : List Int} (h : ps ys = L) (hc : ∀ y ∈ L, y.k = (o, s) → y = ⟨(o, s), xn⟩) : ∀ y ∈ ys, (y.o == o && y.s == s) = true → xn = y.ns := fun y hy e => by
  subst h
  have h1 := hc y.p (List.mem_map_of_mem hy) (by simpa [Pv.p] using e)
  exact (congrArg Po.ns h1).symm
theorem bk_len {l m : List Pv} {n : Nat} (h : ps l = ps m) (hm : ∀ x ∈ m, x.ns.length ≤ n) : ∀ x ∈ l, x.ns.length ≤ n := fun x hx => by
  have h1 : x.p ∈ ps m := by rw [← h]; exact List.mem_map_of_mem hx
  obtain ⟨y, hy, e⟩ := List.mem_map.1 h1
  have := hm y hy
  have e2 : y.ns = x.ns := congrArg Po.ns e
  rw [← e2]
  exact this
theorem bk_mem {a : List Pv} {p : Po} {o s : Int} (h : p ∈ dropP (ps a) (o, s)) : p ∈ ps a := by
  unfold dropP at h
  split at h
  · exact (List.mem_filter.1 h).1
  · cases h
theorem bk_dl (l : List Po) (k : Ky) : (dropP l k).length ≤ l.length := by
  unfold dropP
  split
  · exact List.length_filter_le _ _
  · exact Nat.zero_le _
theorem bk_drop {a ws : List Pv} {o s : Int} (hs : small1 a) (h : ps ws = dropP (ps a) (o, s)) : small1 ws := by
  refine ⟨?_, fun x hx => ?_⟩
  · have h1 := congrArg List.length h
    have h2 : (dropP (ps a) (o, s)).length ≤ (ps a).length := bk_dl _ _
    simp only [ps, List.length_map] at h1 h2
    have := hs.1
    omega
  · have h1 : x.p ∈ ps a := bk_mem (by rw [← h]; exact List.mem_map_of_mem hx)
    obtain ⟨y, hy, e⟩ := List.mem_map.1 h1
    have e2 : y.ns = x.ns := congrArg Po.ns e
    rw [← e2]
    exact hs.2 y hy
theorem bk_put {a ys : List Pv} {o s : Int} {xn : List Int} (hs : small1 a) (hn : xn.length ≤ 30) (hm : mayL (ps a) = true) (hx : oneB xn = true) (h : ps ys = putP (ps a) ⟨(o, s), xn⟩) : ys.length ≤ 41 ∧ ∀ x ∈ ys, x.ns.length ≤ 30 := by
  have hb := back_all (p := ⟨(o, s), xn⟩) hm hx
  refine ⟨?_, fun x hx => ?_⟩
  · have h1 := congrArg List.length h
    have h2 : (dropP (ps a) (o, s)).length ≤ (ps a).length := bk_dl _ _
    rw [hb.2.2.1] at h1
    simp only [ps, List.length_map] at h1 h2
    have := hs.1
    omega
  · have h1 : x.p ∈ putP (ps a) ⟨(o, s), xn⟩ := by rw [← h]; exact List.mem_map_of_mem hx
    rw [hb.1] at h1
    rcases (insP_mem _ _ _).1 h1 with e | h1
    · have e2 : x.ns = xn := congrArg Po.ns e
      rw [e2]
      exact hn
    · obtain ⟨y, hy, e⟩ := List.mem_map.1 (bk_mem h1)
      have e2 : y.ns = x.ns := congrArg Po.ns e
      rw [← e2]
      exact hs.2 y hy
set_option maxRecDepth 100000 in
set_option maxHeartbeats 16000000 in
theorem back_law (hW : awC 9) (a : List Pv) (o s : Int) (xn : List Int) (va xa : Value) (w0 : World) (ha : PRd w0 va a) (hx : Nl w0 xa xn) :
    Calls Try.prog 6 #[va, .agg #[.int .i64 o, .int .i64 s, xa]] w0 fun e w' => e = .returned (.bool true) ∧ Below w0.heap.size w0 w' := by
  have mixed : Try.prog.follows .mixedOrders = true := by kernel_rfl
  obtain ⟨XA, XC, rfl, _⟩ := id hx.form
  have CG := Lib.hid (bk_great o s ha hx)
  have HPA := Lib.hid ha
  have HNX := Lib.hid hx
  have HWC := Lib.hid hW
  obtain ⟨ada, capa, rfl, _, _⟩ := id ha
  clear hW ha hx
  go_enter Try.func6, Try.ntmps6
  go_wp2_with fail
  refine CG.out.mono ?_
  rintro e w1 ⟨gr, rfl, b1, bx1, hg⟩
  have HB1 := Lib.hid b1
  have CB : Hid (∀ W, Below w1.heap.size w1 W → W.cell? ⟨w0.heap.size, 0, none⟩ = some (.int .i64 o) ∧ W.cell? ⟨w0.heap.size, 1, none⟩ = some (.int .i64 s) ∧ W.cell? ⟨w0.heap.size, 2, none⟩ = some (.slice XA xn.length XC)) := Lib.hid (fun W hb => ⟨(bx1.below hb).cell 0, (bx1.below hb).cell 1, (bx1.below hb).cell 2⟩)
  clear CG b1 bx1
  cases gr with
  | true =>
    clear hg
    go_wp2_with fail
    refine (HWC.out w1).mono ?_
    rintro e w2 ⟨rfl, b2⟩
    go_wp2
    go_ret
    exact ⟨rfl, bn HB1.out b2⟩
  | false =>
    have HSA := Lib.hid (hg rfl).1
    have HXN := Lib.hid (hg rfl).2
    clear hg
    have CM := Lib.hid (pmay_c a _ w1 (HPA.out.below HB1.out) (by have := HSA.out.1; omega) (fun x hx => by have := HSA.out.2 x hx; omega))
    cases hma : mayL (ps a) with
    | false =>
      rw [hma] at CM
      clear hma
      go_wp2_with fail
      refine CM.out.mono ?_
      rintro e w2 ⟨rfl, b2⟩
      have HB2 := Lib.hid b2
      clear b2 CM
      go_wp2_with fail
      refine (HWC.out w2).mono ?_
      rintro e w3 ⟨rfl, b3⟩
      go_wp2
      go_ret
      exact ⟨rfl, bn (bn HB1.out HB2.out) b3⟩
    | true =>
    rw [hma] at CM
    have HMA := Lib.hid hma
    clear hma
    go_wp2_with fail
    refine CM.out.mono ?_
    rintro e w2 ⟨rfl, b2⟩
    have HB2 := Lib.hid b2
    clear b2 CM
    obtain ⟨p0, p1, p2⟩ := CB.out _ HB2.out
    have CM := Lib.hid (bk_may1 (o := o) (s := s) (HNX.out.below (bn HB1.out HB2.out)) HXN.out)
    cases hmx : oneB xn with
    | false =>
      rw [hmx] at CM
      clear hmx
      go_wp2_with fail
      refine CM.out.mono ?_
      rintro e w3 ⟨rfl, b3⟩
      have HB3 := Lib.hid b3
      clear b3 CM
      go_wp2_with fail
      refine (HWC.out w3).mono ?_
      rintro e w4 ⟨rfl, b4⟩
      go_wp2
      go_ret
      exact ⟨rfl, bn (bn (bn HB1.out HB2.out) HB3.out) b4⟩
    | true =>
    rw [hmx] at CM
    have HMX := Lib.hid hmx
    clear hmx
    go_wp2_with fail
    refine CM.out.mono ?_
    rintro e w3 ⟨rfl, b3⟩
    have HB3 := Lib.hid b3
    clear b3 CM p0 p1 p2
    have HBA := Lib.hid (back_all (p := ⟨(o, s), xn⟩) HMA.out HMX.out)
    have CT := Lib.hid (pdrop_c a o s _ w3 (HPA.out.below (bn (bn HB1.out HB2.out) HB3.out)) (by have := HSA.out.1; omega) (fun x hx => by have := HSA.out.2 x hx; omega))
    unfold postsO at CT
    obtain ⟨p0, p1, p2⟩ := CB.out _ (bn HB2.out HB3.out)
    go_wp2_with fail
    refine CT.out.mono ?_
    rintro e w4 ⟨v4, ws, rfl, ow, hw, b4⟩
    have HB4 := Lib.hid b4
    have Ows := Lib.hid ow
    obtain ⟨A4, C4, rfl⟩ := ow.form
    clear b4 CT p0 p1 p2 ow
    have CT := Lib.hid (pput_c a o s _ xn _ w4 (HPA.out.below (bn (bn (bn HB1.out HB2.out) HB3.out) HB4.out)) (HNX.out.below (bn (bn (bn HB1.out HB2.out) HB3.out) HB4.out)) (by have := HSA.out.1; omega) (fun x hx => by have := HSA.out.2 x hx; omega) (by have := HXN.out; omega))
    unfold postsO at CT
    obtain ⟨p0, p1, p2⟩ := CB.out _ (bn (bn HB2.out HB3.out) HB4.out)
    go_wp2_with fail
    refine CT.out.mono ?_
    rintro e w5 ⟨v5, ys, rfl, ow, hy, b5⟩
    have HB5 := Lib.hid b5
    have Oys := Lib.hid ow
    obtain ⟨A5, C5, rfl⟩ := ow.form
    clear b5 CT p0 p1 p2 ow
    have HLW := Lib.hid (bk_drop HSA.out hw)
    have HLY := Lib.hid (bk_put HSA.out HXN.out HMA.out HMX.out hy)
    have T1 : (ys.length : Int) = (ws.length : Int) + 1 := by have h := HBA.out.2.2.1; have h1 := congrArg List.length hw; have h2 := congrArg List.length hy; simp only [ps, List.length_map] at h1 h2 h; rw [← h1, ← h2] at h; omega
    have t1 : ws.length ≤ 40 := HLW.out.1
    have t2 : ys.length ≤ 41 := HLY.out.1
    have HEND := Lib.hid (bk_end hy HBA.out.2.2.2.2.2.2.2)
    have HKEY := Lib.hid (bk_key hy HBA.out.2.2.2.2.2.2.1)
    have HWS := Lib.hid hw
    have HYS := Lib.hid hy
    clear hw hy
    go_wp2_with fail
    go_loopw [7, 8] (fun v7 v8 wr => ∃ k : Nat, k ≤ ys.length ∧ v7 = .int .i64 (bkN ys o s k : Int) ∧ v8 = .int .i64 (k : Int) ∧ Hid (Below w5.heap.size w5 wr)) (fun _ v8 _ => ys.length - (RowKit.intOf v8).toNat)
    case atStart => exact ⟨0, by omega, by rw [bkN_zero]; rfl, rfl, Lib.hid (Below.refl _ _)⟩
    case round =>
      obtain ⟨k, hk, rfl, rfl, HX⟩ := hrel
      have hkn := bkN_le ys o s k
      by_cases hp : k < ys.length
      · obtain ⟨adk, capk, ek, _, ck⟩ := Oys.out.rd.below HX.out
        simp only [Value.slice.injEq, true_and] at ek
        obtain ⟨rfl, rfl⟩ := ek
        obtain ⟨gk, ok, rfl, dk⟩ := ck (by omega)
        have a1 := dk k hp
        have hkey := HKEY.out ys[k] (List.getElem_mem hp)
        have hsn := bkN_succ o s hp
        have HP := Lib.hid hp
        generalize ys[k] = y at a1 hkey hsn
        obtain ⟨yo, ys', ya, yn⟩ := y
        obtain ⟨q0, q1, q2, nly⟩ := a1
        simp only at q0 q1 q2 nly hkey hsn
        have hgl := World.block_lt_of_cell? _ _ q0
        obtain ⟨p0, p1, p2⟩ := CB.out _ (bn (bn (bn (bn HB2.out HB3.out) HB4.out) HB5.out) HX.out)
        have hgl2 := World.block_lt_of_cell? _ _ p0
        clear dk ck
        cases e1 : (yo == o && ys' == s) with
        | false =>
          have q : ∀ W, (Op.equalIn 10000 34 (.agg #[.int .i64 yo, .int .i64 ys']) (.agg #[.int .i64 o, .int .i64 s])).run Try.prog W = .ok false W := fun W => by rw [← e1]; exact eq_key yo ys' o s W
          rw [e1] at hsn
          have HSN := Lib.hid hsn
          clear hsn hkey e1
          go_wp2_with fail
          go_quiet (fail)
          go_wp2
          go_roundw
          case rel => exact ⟨k + 1, HP.out, by rw [HSN.out]; simp, by go_num, Lib.hid (below_drewN HX.out _)⟩
          case measure => have := HP.out; simp [RowKit.intOf]; omega
        | true =>
          have q : ∀ W, (Op.equalIn 10000 34 (.agg #[.int .i64 yo, .int .i64 ys']) (.agg #[.int .i64 o, .int .i64 s])).run Try.prog W = .ok true W := fun W => by rw [← e1]; exact eq_key yo ys' o s W
          have hyn := hkey e1
          subst hyn
          rw [e1] at hsn
          have HSN := Lib.hid hsn
          clear hsn hkey e1
          obtain ⟨YA, YC, eya, _⟩ := nly.form
          subst eya
          have CS : Hid (∀ W, Below wr.heap.size wr W → Calls Try.prog 29 #[.slice YA xn.length YC, .slice XA xn.length XC] W fun e w' => e = .returned (.bool true) ∧ Below W.heap.size W w') := Lib.hid (fun W hW => by
            have h := same_c xn xn _ _ W (nly.below hW) (HNX.out.below (bn (bn (bn (bn (bn (bn HB1.out HB2.out) HB3.out) HB4.out) HB5.out) HX.out) hW)) (by have := HXN.out; omega)
            rwa [sameB_self] at h)
          have HS : Hid (∀ W, Below wr.heap.size wr W → W.cell? ⟨gk, ok + k * 3, none⟩ = some (.int .i64 yo) ∧ W.cell? ⟨gk, ok + k * 3 + 1, none⟩ = some (.int .i64 ys') ∧ W.cell? ⟨gk, ok + k * 3 + 2, none⟩ = some (.slice YA xn.length YC) ∧ W.cell? ⟨w0.heap.size, 2, none⟩ = some (.slice XA xn.length XC)) := Lib.hid (fun W hb => ⟨(hb.cell hgl).trans q0, (hb.cell (World.block_lt_of_cell? _ _ q1)).trans q1, (hb.cell (World.block_lt_of_cell? _ _ q2)).trans q2, (hb.cell (World.block_lt_of_cell? _ _ p2)).trans p2⟩)
          go_wp2_with fail
          go_quiet (fail)
          clear q q0 q1 q2 nly p0 p1 p2 hgl hgl2
          go_wp2_with fail
          go_region_held3 (fun W => W.cell? ⟨gk, ok + k * 3, none⟩ = some (.int .i64 yo) ∧ W.cell? ⟨gk, ok + k * 3 + 1, none⟩ = some (.int .i64 ys') ∧ W.cell? ⟨gk, ok + k * 3 + 2, none⟩ = some (.slice YA xn.length YC) ∧ W.cell? ⟨w0.heap.size, 2, none⟩ = some (.slice XA xn.length XC)) (exact HS.out _ (by first | assumption | exact (below_drewN (Below.refl _ _) _).drew | exact below_drewN (Below.refl _ _) _))
            (first
            | (go_at_call 29; refine (CS.out _ (by first | assumption | exact (below_drewN (Below.refl _ _) _).drew | exact below_drewN (Below.refl _ _) _)).mono ?_; rintro e w8 ⟨rfl, b8⟩; have b8' : Below wr.heap.size wr w8 := bn (by first | assumption | exact (below_drewN (Below.refl _ _) _).drew | exact below_drewN (Below.refl _ _) _) b8; clear b8)
            | fail)
          have HB8 := Lib.hid (bn HX.out b8')
          clear b8' HS CS
          go_wp2
          go_roundw
          case rel => exact ⟨k + 1, HP.out, by rw [HSN.out]; go_num, by go_num, HB8⟩
          case measure => have := HP.out; simp [RowKit.intOf]; omega
      · obtain rfl : k = ys.length := by omega
        have hend := HEND.out
        rw [hend]
        obtain ⟨w6, rfl⟩ : ∃ w9, w9 = wr := ⟨_, rfl⟩
        have HB6 := HX
        clear hp hk hkn hend HEND HKEY
        have CM := Lib.hid (pmay_c ys _ w6 (Oys.out.below HB6.out).rd (by omega) (fun x hx => by have := HLY.out.2 x hx; omega))
        rw [HYS.out, HBA.out.2.1] at CM
        go_wp2_with fail
        refine CM.out.mono ?_
        rintro e w7 ⟨rfl, b7⟩
        have HB7 := Lib.hid b7
        clear b7 CM
        have CT := Lib.hid (pdrop_c ys o s _ w7 (Oys.out.below (bn HB6.out HB7.out)).rd (by omega) (fun x hx => by have := HLY.out.2 x hx; omega))
        unfold postsO at CT
        obtain ⟨p0, p1, p2⟩ := CB.out _ (bn (bn (bn (bn (bn HB2.out HB3.out) HB4.out) HB5.out) HB6.out) HB7.out)
        go_wp2_with fail
        refine CT.out.mono ?_
        rintro e w8 ⟨v8, us, rfl, ow, hz, b8⟩
        have HB8 := Lib.hid b8
        have Ous := Lib.hid ow
        obtain ⟨A8, C8, rfl⟩ := ow.form
        have hq : ps us = ps ws := by rw [hz, HYS.out, HWS.out]; exact HBA.out.2.2.2.1
        have CQ := Lib.hid (samep_c us ws _ _ w8 ow.rd (Ows.out.below (bn (bn (bn HB5.out HB6.out) HB7.out) HB8.out)).rd hq (by have h1 := congrArg List.length hq; simp only [ps, List.length_map] at h1; omega) (bk_len hq (fun x hx => by have := HLW.out.2 x hx; omega)))
        clear b8 CT p0 p1 p2 ow hz hq
        go_wp2_with fail
        refine CQ.out.mono ?_
        rintro e w9 ⟨rfl, b9⟩
        have HB9 := Lib.hid b9
        clear b9 CQ
        have CT := Lib.hid (pput_c ys o s _ xn _ w9 (Oys.out.below (bn (bn (bn HB6.out HB7.out) HB8.out) HB9.out)).rd (HNX.out.below (bn (bn (bn (bn (bn (bn (bn (bn HB1.out HB2.out) HB3.out) HB4.out) HB5.out) HB6.out) HB7.out) HB8.out) HB9.out)) (by omega) (fun x hx => by have := HLY.out.2 x hx; omega) (by have := HXN.out; omega))
        unfold postsO at CT
        obtain ⟨p0, p1, p2⟩ := CB.out _ (bn (bn (bn (bn (bn (bn (bn HB2.out HB3.out) HB4.out) HB5.out) HB6.out) HB7.out) HB8.out) HB9.out)
        go_wp2_with fail
        refine CT.out.mono ?_
        rintro e w10 ⟨v10, zs, rfl, ow, hz, b10⟩
        have HB10 := Lib.hid b10
        have Ozs := Lib.hid ow
        obtain ⟨A10, C10, rfl⟩ := ow.form
        have hq : ps zs = ps ys := by rw [hz, HYS.out]; exact HBA.out.2.2.2.2.1
        have CQ := Lib.hid (samep_c zs ys _ _ w10 ow.rd (Oys.out.below (bn (bn (bn (bn HB6.out HB7.out) HB8.out) HB9.out) HB10.out)).rd hq (by have h1 := congrArg List.length hq; simp only [ps, List.length_map] at h1; omega) (bk_len hq (fun x hx => by have := HLY.out.2 x hx; omega)))
        clear b10 CT p0 p1 p2 ow hz hq
        go_wp2_with fail
        refine CQ.out.mono ?_
        rintro e w11 ⟨rfl, b11⟩
        have HB11 := Lib.hid b11
        clear b11 CQ
        have CT := Lib.hid (pput_c ws o s _ xn _ w11 (Ows.out.below (bn (bn (bn (bn (bn (bn HB5.out HB6.out) HB7.out) HB8.out) HB9.out) HB10.out) HB11.out)).rd (HNX.out.below (bn (bn (bn (bn (bn (bn (bn (bn (bn (bn HB1.out HB2.out) HB3.out) HB4.out) HB5.out) HB6.out) HB7.out) HB8.out) HB9.out) HB10.out) HB11.out)) (by omega) (fun x hx => by have := HLW.out.2 x hx; omega) (by have := HXN.out; omega))
        unfold postsO at CT
        obtain ⟨p0, p1, p2⟩ := CB.out _ (bn (bn (bn (bn (bn (bn (bn (bn (bn HB2.out HB3.out) HB4.out) HB5.out) HB6.out) HB7.out) HB8.out) HB9.out) HB10.out) HB11.out)
        go_wp2_with fail
        refine CT.out.mono ?_
        rintro e w12 ⟨v12, rs, rfl, ow, hz, b12⟩
        have HB12 := Lib.hid b12
        have Ors := Lib.hid ow
        obtain ⟨A12, C12, rfl⟩ := ow.form
        have hq : ps rs = ps ys := by rw [hz, HYS.out, HWS.out]; exact HBA.out.2.2.2.2.2.1
        have CQ := Lib.hid (samep_c rs ys _ _ w12 ow.rd (Oys.out.below (bn (bn (bn (bn (bn (bn HB6.out HB7.out) HB8.out) HB9.out) HB10.out) HB11.out) HB12.out)).rd hq (by have h1 := congrArg List.length hq; simp only [ps, List.length_map] at h1; omega) (bk_len hq (fun x hx => by have := HLY.out.2 x hx; omega)))
        clear b12 CT p0 p1 p2 ow hz hq
        go_wp2_with fail
        refine CQ.out.mono ?_
        rintro e w13 ⟨rfl, b13⟩
        have HB13 := Lib.hid b13
        clear b13 CQ
        go_wp2_with fail
        refine (HWC.out w13).mono ?_
        rintro e w14 ⟨rfl, b14⟩
        go_wp2
        go_ret
        exact ⟨rfl, bn (bn (bn (bn (bn (bn (bn (bn (bn (bn (bn (bn (bn HB1.out HB2.out) HB3.out) HB4.out) HB5.out) HB6.out) HB7.out) HB8.out) HB9.out) HB10.out) HB11.out) HB12.out) HB13.out) b14⟩
end Go.Proofs.Ytgdajnjfkokmdaa
namespace Go.Proofs.Ytgdajnjfkokmdaa
open Go.RowKit Go.ChangeShapes Go.WideShapes Go.ChangeAt Go.Deep

set_option maxRecDepth 100000 in
theorem back_lifted (os : Os) (started : os.Started) (H : Type) (enc : TypeId × Value → H) :
    ReturnsInHanded {} Try.checked os 6 .any (Rows.postBackSpec.pre6 enc Try.prog Try.f6 [] false) (Rows.postBackSpec.post enc Try.prog Try.f6 false true false false) := by
  refine law_lift (C := Try.checked) own started (by kernel_rfl) Try.func6
    (ChangeSpec.witness6 (enc := enc) (C := Try.checked) false ⟨#[], #[.slice none 0 0, .agg #[.int .i64 0, .int .i64 0, .slice none 0 0]], []⟩ 8 (by kernel_rfl) (by kernel_rfl) (by kernel_rfl) (by kernel_rfl)) laidOut
    (by rw [Try.params6]; exact of_decide_eq_true (by kernel_rfl)) rfl 4 Try.underlying4 (by kernel_rfl)
    (fun ds h => by
      rw [Try.params6] at h
      match ds, h with
      | [_, _], _ => rfl) ?_
  intro W base args ds ps hval hA _
  rw [Try.params6] at hA hval
  obtain ⟨v0, v1, d0, d1, p0, p1, rfl, rfl, rfl, h0, h1⟩ := trodAll_two hA
  obtain ⟨a, hPa, oka⟩ := open_posts (hval 0 30 v0 rfl rfl) h0
  obtain ⟨q, rfl, hn⟩ := open_post (hval 1 37 v1 rfl rfl) h1
  exact back_law awake_c a q.o q.s q.ns v0 q.a W hPa hn

theorem back_holds : Rows.PostBackSaid :=
  OpenClaim.holds_of_wide 6 Try.f6 rfl rfl rfl rfl rfl rfl rfl ⟨rfl, rfl, rfl, rfl, rfl⟩ rfl rfl rfl rfl rfl (by kernel_rfl) Try.func6 (by kernel_rfl)
    (of_decide_eq_true (by kernel_rfl)) (by unfold Func.isWrapper; first | (rw [if_pos (by decide +kernel)]; kernel_rfl) | (rw [if_neg (by decide +kernel)]; exact ⟨rfl, rfl⟩))
    (fun os started H enc _ => back_lifted os started H enc)
#print axioms back_holds
end Go.Proofs.Ytgdajnjfkokmdaa
