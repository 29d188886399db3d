/-
  PROVED: what both have is what some has without what is in one alone; a phrase's Keys all lists have; in whatever order lists stand, both are the same, for every input (no condition)
-/
import Derived.Test.YtgdajnjfkokmdaaPstNew
import Derived.Test.YtgdajnjfkokmdaaPstKeyMap
import Derived.Test.YtgdajnjfkokmdaaLift
import Derived.Deep.SlicePairs
import Derived.Deep.Slices
import Derived.Lib.SmallJoins
import Derived.Test.YtgdajnjfkokmdaaPstPLess
import Derived.Test.YtgdajnjfkokmdaaPstAwake
namespace Go.Proofs.Ytgdajnjfkokmdaa
open Go.RowKit Go.ChangeShapes Go.WideShapes Go.ChangeAt Go.Deep Go.Joins
set_option maxRecDepth 100000

theorem wf_inR {n : Int} (h : (Lit.int .i64 n).wf = true) : inR n := by
  have e : IntKind.i64.min = -9223372036854775808 := by decide
  have e2 : IntKind.i64.max = 9223372036854775807 := by decide
  simpa [Lit.wf, e, e2, inR] using h
theorem add_off (a : Addr) (k : Nat) (hs : a.spot = none) : a.add k = ⟨a.block, a.off + k, none⟩ := by
  obtain ⟨b, o, s⟩ := a
  simp only at hs
  subst hs
  exact add_plain ..
theorem spot_none {W : World} {a : Addr} {v : Value} (h : W.cell? (a.add 0) = some v) : a.spot = none := by
  obtain ⟨b, o, s⟩ := a
  cases s with
  | none => rfl
  | some s => simp [World.cell?, Addr.add] at h; split at h <;> simp at h

/-- A Key, off its cells. -/
theorem key_cells {H : Type} {enc : TypeId × Value → H} {W : World} {base : Nat} {spare : Nat → Bool} {held : Bool} {fuel : Nat} {cs : List Value} {x : DataW H × List MemPlace}
    (h : DataW.trod enc Try.prog W base spare held fuel 34 cs = some x) : ∃ a b : Int, cs = [.int .i64 a, .int .i64 b] ∧ inR a ∧ inR b := by
  obtain ⟨y0, y1, n, _, hl, h0, h1⟩ := trod_struct2 Try.underlying34 h
  have ck : Try.prog.cellsOf 34 = 2 := by kernel_rfl
  have c3 : Try.prog.cellsOf 3 = 1 := by kernel_rfl
  simp only [c3] at h0 h1
  rw [ck] at hl
  match cs, hl with
  | [u, v], _ =>
    obtain ⟨a, e0, _, wa⟩ := DataW.trod_int (t := 3) Try.underlying3 h0
    obtain ⟨b, e1, _, wb⟩ := DataW.trod_int (t := 3) Try.underlying3 h1
    simp at e0 e1
    exact ⟨a, b, by rw [e0, e1], wf_inR wa, wf_inR wb⟩

/-- A list of numbers, off its one cell. -/
theorem open_cell {H : Type} {enc : TypeId × Value → H} {W : World} {base : Nat} {spare : Nat → Bool} {held : Bool} {v : Value} {fuel : Nat} {x : DataW H × List MemPlace}
    (hf : DataW.trod enc Try.prog W base spare held fuel 35 [v] = some x) : ∃ l : List Int, Nl W v l ∧ ∀ x ∈ l, inR x := by
  rcases open_slice1 Try.underlying35 (by kernel_rfl) hf with ⟨e, _⟩ | ⟨a, len', cap', m, n, V, D, Pl, e, hb, hl, hm, hmm, _, hi⟩
  · simp only [List.cons.injEq, and_true] at e
    exact ⟨[], .inl ⟨e, rfl⟩, fun x hx => by simp at hx⟩
  · simp only [List.cons.injEq, and_true] at e
    subst e
    have hlm : len' ≤ m := by rw [hmm]; split <;> omega
    have each : ∀ i, i < len' → ∃ q : Int, W.cell? (a.add i) = some (.int .i64 q) ∧ inR q := by
      intro i hi'
      obtain ⟨h1, h2⟩ := hi i (by omega)
      obtain ⟨x, e0, _, hw⟩ := DataW.trod_int (t := 3) Try.underlying3 h2
      simp only [List.cons.injEq, and_true] at e0
      exact ⟨x, by rw [h1, e0], wf_inR hw⟩
    obtain ⟨q, hq⟩ := choose_lt each
    refine ⟨(List.range len').map q, .inr ⟨a, cap', by simp, fun h0 => ?_⟩, fun x hx => ?_⟩
    · have h0' : 0 < len' := by simpa using h0
      have hsp := spot_none (hq 0 h0').1
      refine ⟨a.block, a.off, by obtain ⟨b, o, s⟩ := a; simp only at hsp; subst hsp; rfl, fun k hk => ?_⟩
      have hk' : k < len' := by simpa using hk
      have h1 := (hq k hk').1
      rw [add_off a _ hsp] at h1
      simp only [List.getElem_map, List.getElem_range]
      exact h1
    · obtain ⟨i, hi2, rfl⟩ := List.mem_map.1 hx
      exact (hq i (by simpa using hi2)).2
/-- A Post, off its cells. -/
theorem post_cells {H : Type} {enc : TypeId × Value → H} {W : World} {base : Nat} {spare : Nat → Bool} {held : Bool} {fuel : Nat} {cs : List Value} {x : DataW H × List MemPlace}
    (h : DataW.trod enc Try.prog W base spare held fuel 37 cs = some x) : ∃ q : Pv, cs = [.int .i64 q.o, .int .i64 q.s, q.a] ∧ Nl W q.a q.ns ∧ inR q.o ∧ inR q.s ∧ ∀ x ∈ q.ns, inR x := by
  obtain ⟨y0, y1, n, _, hl, h0, h1⟩ := trod_struct2 Try.underlying37 h
  have c8 : Try.prog.cellsOf 37 = 3 := by kernel_rfl
  have ck : Try.prog.cellsOf 34 = 2 := by kernel_rfl
  have cv : Try.prog.cellsOf 35 = 1 := by kernel_rfl
  rw [c8] at hl
  match cs, hl with
  | [u0, u1, u2], _ =>
    simp only [ck, cv] at h0 h1
    obtain ⟨a, b, e0, wa, wb⟩ := key_cells h0
    obtain ⟨lv, n1, hv⟩ := open_cell (v := u2) h1
    simp at e0
    exact ⟨⟨a, b, u2, lv⟩, by rw [e0.1, e0.2], n1, wa, wb, hv⟩
instance : Inhabited Pv := ⟨⟨0, 0, .slice none 0 0, []⟩⟩
/-- What an int holds, of a whole list. -/
def okPv (l : List Pv) : Prop := ∀ x ∈ l, inR x.o ∧ inR x.s ∧ ∀ y ∈ x.ns, inR y
theorem okPv.p {l : List Pv} (h : okPv l) : okP (ps l) := fun p hp => by
  obtain ⟨x, hx, rfl⟩ := List.mem_map.1 hp
  exact (h x hx).2.2
theorem okPv.k {l : List Pv} (h : okPv l) : ∀ k ∈ (ps l).map Po.k, okKy k := fun k hk => by
  obtain ⟨p, hp, rfl⟩ := List.mem_map.1 hk
  obtain ⟨x, hx, rfl⟩ := List.mem_map.1 hp
  exact ⟨(h x hx).1, (h x hx).2.1⟩
theorem open_post {H : Type} {enc : TypeId × Value → H} {W : World} {r : Reach} {b0 base : Nat} {spare : Nat → Bool} {held : Bool} {v : Value} {d : DataW H} {p : List MemPlace}
    (hv : Value.okWide Try.prog W r b0 37 v) (h : DataW.Trod enc Try.prog W base spare held 37 v d p) : ∃ q : Pv, v = .agg #[.int .i64 q.o, .int .i64 q.s, q.a] ∧ Nl W q.a q.ns := by
  obtain ⟨cs, rfl, hsz⟩ := okWide_struct Try.underlying37 hv
  obtain ⟨fuel, hf⟩ := h
  obtain ⟨q, h1, h2, _⟩ := post_cells hf
  have e2 : cs.toList = [.int .i64 q.o, .int .i64 q.s, q.a] := h1
  exact ⟨q, by rw [show cs = #[.int .i64 q.o, .int .i64 q.s, q.a] from by cases cs; simpa using e2], h2⟩
theorem open_key {H : Type} {enc : TypeId × Value → H} {W : World} {r : Reach} {b0 base : Nat} {spare : Nat → Bool} {held : Bool} {v : Value} {d : DataW H} {p : List MemPlace}
    (hv : Value.okWide Try.prog W r b0 34 v) (h : DataW.Trod enc Try.prog W base spare held 34 v d p) : ∃ a b : Int, v = .agg #[.int .i64 a, .int .i64 b] ∧ inR a ∧ inR b := by
  obtain ⟨cs, rfl, hsz⟩ := okWide_struct Try.underlying34 hv
  obtain ⟨fuel, hf⟩ := h
  obtain ⟨a, b, h1, h2⟩ := key_cells hf
  have e2 : cs.toList = [.int .i64 a, .int .i64 b] := h1
  exact ⟨a, b, by rw [show cs = #[.int .i64 a, .int .i64 b] from by cases cs; simpa using e2], h2⟩
/-- A list of Posts, off its one cell. -/
theorem posts_cell {H : Type} {enc : TypeId × Value → H} {W : World} {base : Nat} {spare : Nat → Bool} {held : Bool} {v : Value} {fuel : Nat} {x : DataW H × List MemPlace}
    (hf : DataW.trod enc Try.prog W base spare held fuel 30 [v] = some x) : ∃ l : List Pv, PRd W v l ∧ okPv l := by
  have c8 : Try.prog.cellsOf 37 = 3 := by kernel_rfl
  rcases open_slice Try.underlying30 hf with ⟨e, _⟩ | ⟨a, len, cap, m, n, D, Pl, e, hb, hl, hm, hmm, _, hi⟩
  · simp only [List.cons.injEq, and_true] at e
    rw [e]
    exact ⟨[], ⟨none, 0, rfl, Nat.le_refl _, fun h => absurd h (by simp)⟩, fun x hx => by simp at hx⟩
  · simp only [List.cons.injEq, and_true] at e
    subst e
    have hlm : len ≤ m := by rw [hmm]; split <;> omega
    have each : ∀ i, i < len → ∃ q : Pv, (∀ j, j < 3 → W.cell? ((a.add (i * 3)).add j) = [.int .i64 q.o, .int .i64 q.s, q.a][j]?) ∧ Nl W q.a q.ns ∧ inR q.o ∧ inR q.s ∧ ∀ x ∈ q.ns, inR x := by
      intro i hi'
      obtain ⟨cs', h1, h2⟩ := hi i (by omega)
      rw [c8] at h1
      obtain ⟨_, _, h3⟩ := World.cells?_some h1
      obtain ⟨q, he, hq⟩ := post_cells h2
      exact ⟨q, fun j hj => by rw [h3 j hj, he], hq⟩
    obtain ⟨q, hq⟩ := choose_lt each
    refine ⟨(List.range len).map q, ⟨some a, cap, by simp, by simpa using hl, fun h0 => ?_⟩, fun x hx => ?_⟩
    · have h0' : 0 < len := by simpa using h0
      have hsp : a.spot = none := by
        have h1 := (hq 0 h0').1 0 (by decide)
        obtain ⟨b, o, s⟩ := a
        cases s with
        | none => rfl
        | some s => simp [World.cell?, Addr.add] at h1; split at h1 <;> simp at h1
      refine ⟨a.block, a.off, by obtain ⟨b, o, s⟩ := a; simp only at hsp; subst hsp; rfl, fun k hk => ?_⟩
      have hk' : k < len := by simpa using hk
      obtain ⟨h1, hn1, _⟩ := hq k hk'
      rw [add_off a _ hsp] at h1
      have h2 : ∀ j, j < 3 → W.cell? ⟨a.block, a.off + k * 3 + j, none⟩ = [.int .i64 (q k).o, .int .i64 (q k).s, (q k).a][j]? := fun j hj => by
        rw [← h1 j hj, add_plain]
      simp only [List.getElem_map, List.getElem_range]
      exact ⟨h2 0 (by decide), h2 1 (by decide), h2 2 (by decide), hn1⟩
    · obtain ⟨i, hi2, rfl⟩ := List.mem_map.1 hx
      exact (hq i (by simpa using hi2)).2.2
theorem open_posts {H : Type} {enc : TypeId × Value → H} {W : World} {r : Reach} {b0 base : Nat} {spare : Nat → Bool} {held : Bool} {v : Value} {d : DataW H} {p : List MemPlace}
    (hv : Value.okWide Try.prog W r b0 30 v) (h : DataW.Trod enc Try.prog W base spare held 30 v d p) : ∃ l : List Pv, PRd W v l ∧ okPv l := by
  obtain ⟨ad, len, cap, rfl⟩ := okWide_slice Try.underlying30 hv
  obtain ⟨fuel, hf⟩ := h
  simp only [Value.cells] at hf
  exact posts_cell hf
/-- A list of Keys. -/
theorem open_keys {H : Type} {enc : TypeId × Value → H} {W : World} {r : Reach} {b0 base : Nat} {spare : Nat → Bool} {held : Bool} {v : Value} {d : DataW H} {p : List MemPlace}
    (hv : Value.okWide Try.prog W r b0 25 v) (h : DataW.Trod enc Try.prog W base spare held 25 v d p) : ∃ l : List Ky, KRd W v l ∧ ∀ k ∈ l, okKy k := by
  obtain ⟨ad, len, cap, rfl⟩ := okWide_slice Try.underlying25 hv
  obtain ⟨fuel, hf⟩ := h
  simp only [Value.cells] at hf
  have c2 : Try.prog.cellsOf 34 = 2 := by kernel_rfl
  rcases open_slice Try.underlying25 hf with ⟨e, _⟩ | ⟨a, len', cap', m, n, D, Pl, e, hb, hl, hm, hmm, _, hi⟩
  · simp only [List.cons.injEq, and_true] at e
    rw [e]
    exact ⟨[], ⟨none, 0, rfl, Nat.le_refl _, fun h => absurd h (by simp)⟩, fun x hx => by simp at hx⟩
  · simp only [List.cons.injEq, and_true, Value.slice.injEq] at e
    obtain ⟨rfl, rfl, rfl⟩ := e
    have hlm : len ≤ m := by rw [hmm]; split <;> omega
    have each : ∀ i, i < len → ∃ q : Ky, (∀ j, j < 2 → W.cell? ((a.add (i * 2)).add j) = [.int .i64 q.1, .int .i64 q.2][j]?) ∧ okKy q := by
      intro i hi'
      obtain ⟨cs', h1, h2⟩ := hi i (by omega)
      rw [c2] at h1
      obtain ⟨_, _, h3⟩ := World.cells?_some h1
      obtain ⟨x, y, he, hx, hy⟩ := key_cells h2
      exact ⟨(x, y), fun j hj => by rw [h3 j hj, he], hx, hy⟩
    obtain ⟨q, hq⟩ := choose_lt each
    refine ⟨(List.range len).map q, ⟨some a, cap, by simp, by simpa using hl, fun h0 => ?_⟩, fun x hx => ?_⟩
    · have h0' : 0 < len := by simpa using h0
      have hsp : a.spot = none := by
        have h1 := (hq 0 h0').1 0 (by decide)
        obtain ⟨b, o, s⟩ := a
        cases s with
        | none => rfl
        | some s => simp [World.cell?, Addr.add] at h1; split at h1 <;> simp at h1
      refine ⟨a.block, a.off, by obtain ⟨b, o, s⟩ := a; simp only at hsp; subst hsp; rfl, fun k hk => ?_⟩
      have hk' : k < len := by simpa using hk
      obtain ⟨h1, _⟩ := hq k hk'
      rw [add_off a _ hsp] at h1
      have h2 : ∀ j, j < 2 → W.cell? ⟨a.block, a.off + k * 2 + j, none⟩ = [.int .i64 (q k).1, .int .i64 (q k).2][j]? := fun j hj => by
        rw [← h1 j hj, add_plain]
      simp only [List.getElem_map, List.getElem_range]
      exact ⟨h2 0 (by decide), h2 1 (by decide)⟩
    · obtain ⟨i, hi2, rfl⟩ := List.mem_map.1 hx
      exact (hq i (by simpa using hi2)).2
theorem open_lists {H : Type} {enc : TypeId × Value → H} {W : World} {r : Reach} {b0 base : Nat} {spare : Nat → Bool} {held : Bool} {v : Value} {d : DataW H} {p : List MemPlace}
    (hv : Value.okWide Try.prog W r b0 22 v) (h : DataW.Trod enc Try.prog W base spare held 22 v d p) : ∃ ls : List Lv, LRd W v ls ∧ ∀ y ∈ ls, okPv y.l := by
  obtain ⟨ad, len, cap, rfl⟩ := okWide_slice Try.underlying22 hv
  obtain ⟨fuel, hf⟩ := h
  simp only [Value.cells] at hf
  rcases open_slice1 Try.underlying22 (by kernel_rfl) hf with ⟨e, _⟩ | ⟨a, len', cap', m, n, V, D, Pls, e, hb, hl, hm, hmm, _, hi⟩
  · simp only [List.cons.injEq, and_true] at e
    rw [e]
    exact ⟨[], ⟨⟨none, 0, rfl, Nat.le_refl _, fun h => absurd h (by simp)⟩, fun x hx => by simp at hx⟩, fun x hx => by simp at hx⟩
  · simp only [List.cons.injEq, and_true, Value.slice.injEq] at e
    obtain ⟨rfl, rfl, rfl⟩ := e
    have hlm : len ≤ m := by rw [hmm]; split <;> omega
    have each : ∀ i, i < len → ∃ q : List Pv, W.cell? (a.add i) = some (V i) ∧ PRd W (V i) q ∧ okPv q := by
      intro i hi'
      obtain ⟨h1, h2⟩ := hi i (by omega)
      obtain ⟨l, hp, ho⟩ := posts_cell h2
      exact ⟨l, h1, hp, ho⟩
    obtain ⟨q, hq⟩ := choose_lt each
    refine ⟨(List.range len).map fun i => ⟨V i, q i⟩, ⟨⟨some a, cap, by simp, by simpa using hl, fun h0 => ?_⟩, fun x hx => ?_⟩, fun x hx => ?_⟩
    · have h0' : 0 < len := by simpa using h0
      have hsp := spot_none (hq 0 h0').1
      refine ⟨a.block, a.off, by obtain ⟨b, o, s⟩ := a; simp only at hsp; subst hsp; rfl, fun k hk => ?_⟩
      have hk' : k < len := by simpa using hk
      have h1 := (hq k hk').1
      rw [add_off a _ hsp] at h1
      simp only [List.getElem_map, List.getElem_range]
      exact h1
    · obtain ⟨i, hi2, rfl⟩ := List.mem_map.1 hx
      exact (hq i (by simpa using hi2)).2.1
    · obtain ⟨i, hi2, rfl⟩ := List.mem_map.1 hx
      exact (hq i (by simpa using hi2)).2.2
theorem trodAll_five {H : Type} {enc : TypeId × Value → H} {P : Program} {w : World} {base : Nat} {spare : Nat → Bool} {held : Bool} {t0 t1 t2 t3 t4 : TypeId} {args : Array Value} {ds : List (DataW H)} {ps : List MemPlace} (h : DataW.TrodAll enc P w base spare held [t0, t1, t2, t3, t4] args.toList ds ps) :
    ∃ v0 v1 v2 v3 v4 d0 d1 d2 d3 d4 p0 p1 p2 p3 p4, args = #[v0, v1, v2, v3, v4] ∧ ds = [d0, d1, d2, d3, d4] ∧ DataW.Trod enc P w base spare held t0 v0 d0 p0 ∧ DataW.Trod enc P w base spare held t1 v1 d1 p1 ∧ DataW.Trod enc P w base spare held t2 v2 d2 p2 ∧ DataW.Trod enc P w base spare held t3 v3 d3 p3 ∧ DataW.Trod enc P w base spare held t4 v4 d4 p4 := by
  obtain ⟨v0, vs0, d0, ds0, p0, q0, hargs, rfl, rfl, h0, r0⟩ := trodAll_cons h
  obtain ⟨v1, vs1, d1, ds1, p1, q1, rfl, rfl, rfl, h1, r1⟩ := trodAll_cons r0
  obtain ⟨v2, vs2, d2, ds2, p2, q2, rfl, rfl, rfl, h2, r2⟩ := trodAll_cons r1
  obtain ⟨v3, vs3, d3, ds3, p3, q3, rfl, rfl, rfl, h3, r3⟩ := trodAll_cons r2
  obtain ⟨v4, vs4, d4, ds4, p4, q4, rfl, rfl, rfl, h4, r4⟩ := trodAll_cons r3
  obtain ⟨rfl, rfl, rfl⟩ := trodAll_nil r4
  exact ⟨v0, v1, v2, v3, v4, d0, d1, d2, d3, d4, p0, p1, p2, p3, p4, by cases args; simp_all, rfl, h0, h1, h2, h3, h4⟩
end Go.Proofs.Ytgdajnjfkokmdaa
namespace Go.Proofs.Ytgdajnjfkokmdaa
open Go.RowKit Go.Lib

def lessC (f : FuncId) : Prop := ∀ (a b : List Ky) (va vb : Value) (w : World), KRd w va a → KRd w vb b → a.length ≤ 1000 → b.length ≤ 1000 → (∀ k ∈ a, okKy k) → (∀ k ∈ b, okKy k) → Calls Try.prog f #[va, vb] w (keysT (lessK a b) w)
set_option maxRecDepth 100000 in
set_option maxHeartbeats 16000000 in
theorem sets_law (hA : lsC 10 andK) (hO : lsC 11 orK) (hP : lsC 12 phK) (hL : lessC 22) (hM : mayC 17) (hW : awC 9) (a b : List Pv) (va vb : Value) (w0 : World) (ha : PRd w0 va a) (hb : PRd w0 vb b) (hoa : okP (ps a)) (hob : okP (ps b)) (hka : ∀ k ∈ (ps a).map Po.k, okKy k) (hkb : ∀ k ∈ (ps b).map Po.k, okKy k) :
    Calls Try.prog 5 #[va, vb] w0 fun e w' => e = .returned (.bool true) ∧ Below w0.heap.size w0 w' := by
  have CG := Lib.hid (great_two ha hb)
  have HPA := Lib.hid ha
  have HPB := Lib.hid hb
  have HAC := Lib.hid hA
  have HOC := Lib.hid hO
  have HPC := Lib.hid hP
  have HLC := Lib.hid hL
  have HMC := Lib.hid hM
  have HWC := Lib.hid hW
  obtain ⟨ada, capa, rfl, _, _⟩ := id ha
  obtain ⟨adb, capb, rfl, _, _⟩ := id hb
  have HOA := Lib.hid hoa
  have HOB := Lib.hid hob
  have HKA := Lib.hid hka
  have HKB := Lib.hid hkb
  clear hA hO hP hL hM hW ha hb hoa hob hka hkb
  go_enter Try.func5, Try.ntmps5
  go_wp2_with fail
  refine CG.out.mono ?_
  rintro e w1 ⟨gr, rfl, b1, hg⟩
  have HB1 := Lib.hid b1
  clear CG b1
  cases gr with
  | true =>
    clear hg
    go_wp2_with fail
    refine (HWC.out w1).mono ?_
    rintro e w2 ⟨rfl, b2⟩
    go_wp2
    go_ret
    exact ⟨rfl, bn HB1.out b2⟩
  | false =>
    have HSA := Lib.hid (hg rfl).1
    have HSB := Lib.hid (hg rfl).2
    clear hg
    have CM := Lib.hid (HMC.out a _ w1 (HPA.out.below HB1.out) HSA.out)
    cases hma : mayL (ps a) with
    | false =>
      rw [hma] at CM
      clear hma
      go_wp2_with fail
      refine CM.out.mono ?_
      rintro e w2 ⟨rfl, b2⟩
      have HB2 := Lib.hid b2
      clear b2 CM
      go_wp2_with fail
      refine (HWC.out w2).mono ?_
      rintro e w3 ⟨rfl, b3⟩
      go_wp2
      go_ret
      exact ⟨rfl, bn (bn HB1.out HB2.out) b3⟩
    | true =>
    rw [hma] at CM
    have HMA := Lib.hid hma
    clear hma
    go_wp2_with fail
    refine CM.out.mono ?_
    rintro e w2 ⟨rfl, b2⟩
    have HB2 := Lib.hid b2
    clear b2 CM
    have CM := Lib.hid (HMC.out b _ w2 (HPB.out.below (bn HB1.out HB2.out)) HSB.out)
    cases hmb : mayL (ps b) with
    | false =>
      rw [hmb] at CM
      clear hmb
      go_wp2_with fail
      refine CM.out.mono ?_
      rintro e w3 ⟨rfl, b3⟩
      have HB3 := Lib.hid b3
      clear b3 CM
      go_wp2_with fail
      refine (HWC.out w3).mono ?_
      rintro e w4 ⟨rfl, b4⟩
      go_wp2
      go_ret
      exact ⟨rfl, bn (bn (bn HB1.out HB2.out) HB3.out) b4⟩
    | true =>
    rw [hmb] at CM
    have HMB := Lib.hid hmb
    clear hmb
    go_wp2_with fail
    refine CM.out.mono ?_
    rintro e w3 ⟨rfl, b3⟩
    have HB3 := Lib.hid b3
    clear b3 CM
    have hla := HSA.out.1
    have hlb := HSB.out.1
    have HKX : Hid (∀ k ∈ orK [ps a], okKy k) := Lib.hid (fun k hk => HKA.out k ((or1_mem HMA.out k).1 hk))
    have HKY : Hid (∀ k ∈ orK [ps b], okKy k) := Lib.hid (fun k hk => HKB.out k ((or1_mem HMB.out k).1 hk))
    have HAM := Lib.hid (and_comm2 HMA.out HMB.out)
    have HOM := Lib.hid (or_comm2 HMA.out HMB.out)
    have HPS : Hid (lessK (phK [ps a, ps b]) (andK [ps a, ps b]) = []) := Lib.hid (ph_sub _)
    have HKN : Hid (∀ k ∈ andK [ps a, ps b], okKy k) := Lib.hid (fun k hk => HKA.out k ((and2_mem HMA.out HMB.out k).1 hk).1)
    have HKP : Hid (∀ k ∈ phK [ps a, ps b], okKy k) := Lib.hid (fun k hk => HKN.out k ((phK_mem _ k).1 hk).1)
    have HSL := Lib.hid (sets_len HMA.out HMB.out)
    have HXL := Lib.hid (or_len1 HMA.out)
    have HYL := Lib.hid (or_len1 HMB.out)
    have hx40 : (orK [ps a]).length ≤ 1000 := by have := HXL.out; simp only [ps, List.length_map] at this ⊢; omega
    have HPL : Hid ((phK [ps a, ps b]).length ≤ 1000) := Lib.hid (by
      have h1 : (phK [ps a, ps b]).length ≤ (andK [ps a, ps b]).length := List.length_filter_le _ _
      have := HSL.out.1
      have h2 := HXL.out
      have h3 := HYL.out
      simp only [ps, List.length_map] at *
      omega)
    have hy40 : (orK [ps b]).length ≤ 1000 := by have := HYL.out; simp only [ps, List.length_map] at this ⊢; omega
    have CT := Lib.hid (HAC.out.two (HPA.out.below (bn (bn HB1.out HB2.out) HB3.out)) (HPB.out.below (bn (bn HB1.out HB2.out) HB3.out)) HSA.out HSB.out HOA.out HOB.out)
    unfold keysT at CT
    go_wp2_with fail
    refine (CT.out).mono ?_
    rintro e w4 ⟨v4, rfl, r4, b4⟩
    have HB4 := Lib.hid b4
    clear b4
    have HRand := Lib.hid r4
    obtain ⟨A4, C4, rfl⟩ := r4.len
    clear r4 CT
    have CT := Lib.hid (HOC.out.two (HPA.out.below (bn (bn (bn HB1.out HB2.out) HB3.out) HB4.out)) (HPB.out.below (bn (bn (bn HB1.out HB2.out) HB3.out) HB4.out)) HSA.out HSB.out HOA.out HOB.out)
    unfold keysT at CT
    go_wp2_with fail
    refine (CT.out).mono ?_
    rintro e w5 ⟨v5, rfl, r5, b5⟩
    have HB5 := Lib.hid b5
    clear b5
    have HRor := Lib.hid r5
    obtain ⟨A5, C5, rfl⟩ := r5.len
    clear r5 CT
    have CT := Lib.hid (HOC.out.one (HPA.out.below (bn (bn (bn (bn HB1.out HB2.out) HB3.out) HB4.out) HB5.out)) HSA.out HOA.out)
    unfold keysT at CT
    go_wp2_with fail
    refine (CT.out).mono ?_
    rintro e w6 ⟨v6, rfl, r6, b6⟩
    have HB6 := Lib.hid b6
    clear b6
    have HRx := Lib.hid r6
    obtain ⟨A6, C6, rfl⟩ := r6.len
    clear r6 CT
    have CT := Lib.hid (HOC.out.one (HPB.out.below (bn (bn (bn (bn (bn HB1.out HB2.out) HB3.out) HB4.out) HB5.out) HB6.out)) HSB.out HOB.out)
    unfold keysT at CT
    go_wp2_with fail
    refine (CT.out).mono ?_
    rintro e w7 ⟨v7, rfl, r7, b7⟩
    have HB7 := Lib.hid b7
    clear b7
    have HRy := Lib.hid r7
    obtain ⟨A7, C7, rfl⟩ := r7.len
    clear r7 CT
    have CT := Lib.hid (HPC.out.two (HPA.out.below (bn (bn (bn (bn (bn (bn HB1.out HB2.out) HB3.out) HB4.out) HB5.out) HB6.out) HB7.out)) (HPB.out.below (bn (bn (bn (bn (bn (bn HB1.out HB2.out) HB3.out) HB4.out) HB5.out) HB6.out) HB7.out)) HSA.out HSB.out HOA.out HOB.out)
    unfold keysT at CT
    go_wp2_with fail
    refine (CT.out).mono ?_
    rintro e w8 ⟨v8, rfl, r8, b8⟩
    have HB8 := Lib.hid b8
    clear b8
    have HRp := Lib.hid r8
    obtain ⟨A8, C8, rfl⟩ := r8.len
    clear r8 CT
    have CT := Lib.hid (HLC.out _ _ _ _ w8 (HRx.out.below (bn HB7.out HB8.out)).rd (HRy.out.below HB8.out).rd (by omega) (by omega) HKX.out HKY.out)
    unfold keysT at CT
    go_wp2_with fail
    refine (CT.out).mono ?_
    rintro e w9 ⟨v9, rfl, r9, b9⟩
    have HB9 := Lib.hid b9
    clear b9
    have HRonly := Lib.hid r9
    obtain ⟨A9, C9, rfl⟩ := r9.len
    clear r9 CT
    have CT := Lib.hid (HLC.out _ _ _ _ w9 (HRy.out.below (bn HB8.out HB9.out)).rd (HRx.out.below (bn (bn HB7.out HB8.out) HB9.out)).rd (by omega) (by omega) HKY.out HKX.out)
    unfold keysT at CT
    go_wp2_with fail
    refine (CT.out).mono ?_
    rintro e w10 ⟨v10, rfl, r10, b10⟩
    have HB10 := Lib.hid b10
    clear b10
    have HRoth := Lib.hid r10
    obtain ⟨A10, C10, rfl⟩ := r10.len
    clear r10 CT
    have T1 : ((andK [ps a, ps b]).length : Int) + ((orK [ps a, ps b]).length : Int) = ((orK [ps a]).length : Int) + ((orK [ps b]).length : Int) := by have := HSL.out.1; omega
    have T2 : ((lessK (orK [ps a]) (orK [ps b])).length : Int) + ((lessK (orK [ps b]) (orK [ps a])).length : Int) + ((andK [ps a, ps b]).length : Int) = ((orK [ps a, ps b]).length : Int) := by have := HSL.out.2; omega
    have T3 : ((orK [ps a]).length : Int) = (a.length : Int) := by have := HXL.out; simp only [ps, List.length_map] at this ⊢; omega
    have hx80 : (orK [ps a]).length ≤ 40 := by have := HXL.out; simp only [ps, List.length_map] at this ⊢; omega
    have hy80 : (orK [ps b]).length ≤ 40 := by have := HYL.out; simp only [ps, List.length_map] at this ⊢; omega
    have t1 : (andK [ps a, ps b]).length ≤ 1000 := by have := HSL.out.1; omega
    have t2 : (orK [ps a, ps b]).length ≤ 1000 := by have := HSL.out.1; omega
    have t3 : (lessK (orK [ps a]) (orK [ps b])).length ≤ 1000 := by have := HSL.out.2; omega
    have t4 : (lessK (orK [ps b]) (orK [ps a])).length ≤ 1000 := by have := HSL.out.2; omega
    have CT := Lib.hid (HLC.out _ _ _ _ w10 (HRp.out.below (bn HB9.out HB10.out)).rd (HRand.out.below (bn (bn (bn (bn (bn HB5.out HB6.out) HB7.out) HB8.out) HB9.out) HB10.out)).rd (HPL.out) (by omega) HKP.out HKN.out)
    unfold keysT at CT
    rw [HPS.out] at CT
    go_wp2_with fail
    refine (CT.out).mono ?_
    rintro e w11 ⟨v11, rfl, r11, b11⟩
    have HB11 := Lib.hid b11
    clear b11
    obtain ⟨A11, C11, rfl⟩ := r11.len
    clear r11 CT
    have CT := Lib.hid (HAC.out.two (HPB.out.below (bn (bn (bn (bn (bn (bn (bn (bn (bn (bn HB1.out HB2.out) HB3.out) HB4.out) HB5.out) HB6.out) HB7.out) HB8.out) HB9.out) HB10.out) HB11.out)) (HPA.out.below (bn (bn (bn (bn (bn (bn (bn (bn (bn (bn HB1.out HB2.out) HB3.out) HB4.out) HB5.out) HB6.out) HB7.out) HB8.out) HB9.out) HB10.out) HB11.out)) HSB.out HSA.out HOB.out HOA.out)
    unfold keysT at CT
    rw [← HAM.out] at CT
    go_wp2_with fail
    refine (CT.out).mono ?_
    rintro e w12 ⟨v12, rfl, r12, b12⟩
    have HB12 := Lib.hid b12
    clear b12
    have HRsand := Lib.hid r12
    obtain ⟨A12, C12, rfl⟩ := r12.len
    clear r12 CT
    have CT := Lib.hid (samek_c _ _ _ w12 (HRand.out.below (bn (bn (bn (bn (bn (bn (bn HB5.out HB6.out) HB7.out) HB8.out) HB9.out) HB10.out) HB11.out) HB12.out)).rd (HRsand.out.below (Below.refl _ _)).rd (by omega))
    go_wp2_with fail
    refine (CT.out).mono ?_
    rintro e w13 ⟨rfl, b13⟩
    have HB13 := Lib.hid b13
    clear b13
    clear CT
    have CT := Lib.hid (HOC.out.two (HPB.out.below (bn (bn (bn (bn (bn (bn (bn (bn (bn (bn (bn (bn HB1.out HB2.out) HB3.out) HB4.out) HB5.out) HB6.out) HB7.out) HB8.out) HB9.out) HB10.out) HB11.out) HB12.out) HB13.out)) (HPA.out.below (bn (bn (bn (bn (bn (bn (bn (bn (bn (bn (bn (bn HB1.out HB2.out) HB3.out) HB4.out) HB5.out) HB6.out) HB7.out) HB8.out) HB9.out) HB10.out) HB11.out) HB12.out) HB13.out)) HSB.out HSA.out HOB.out HOA.out)
    unfold keysT at CT
    rw [← HOM.out] at CT
    go_wp2_with fail
    refine (CT.out).mono ?_
    rintro e w14 ⟨v14, rfl, r14, b14⟩
    have HB14 := Lib.hid b14
    clear b14
    have HRsor := Lib.hid r14
    obtain ⟨A14, C14, rfl⟩ := r14.len
    clear r14 CT
    have CT := Lib.hid (samek_c _ _ _ w14 (HRor.out.below (bn (bn (bn (bn (bn (bn (bn (bn HB6.out HB7.out) HB8.out) HB9.out) HB10.out) HB11.out) HB12.out) HB13.out) HB14.out)).rd (HRsor.out.below (Below.refl _ _)).rd (by omega))
    go_wp2_with fail
    refine (CT.out).mono ?_
    rintro e w15 ⟨rfl, b15⟩
    have HB15 := Lib.hid b15
    clear b15
    clear CT
    clear T1 T2 T3
    go_wp2
    have HKR := Lib.hid (HRor.out.below (bn (bn (bn (bn (bn (bn (bn (bn (bn HB6.out HB7.out) HB8.out) HB9.out) HB10.out) HB11.out) HB12.out) HB13.out) HB14.out) HB15.out)).rd
    have HRI : Hid (∀ j k (hj : j < (orK [ps a, ps b]).length) (hk : k < (orK [ps a, ps b]).length), j < k → kLt (orK [ps a, ps b])[j] (orK [ps a, ps b])[k] = true) := Lib.hid (fun j k hj hk h => List.pairwise_iff_getElem.1 (orK_rise _) j k hj hk h)
    have HP1 : Hid (phK [ps a] = orK [ps a]) := Lib.hid (ph_one HMA.out HOA.out)
    go_loopw [12] (fun v12 wr => ∃ k : Nat, 1 ≤ k ∧ (k ≤ (orK [ps a, ps b]).length ∨ k = 1) ∧ v12 = .int .i64 (k : Int) ∧ Hid (Below w15.heap.size w15 wr)) (fun v12 _ => (orK [ps a, ps b]).length - (intOf v12).toNat)
    case atStart => exact ⟨1, by omega, .inr rfl, rfl, Lib.hid (Below.refl _ _)⟩
    case round =>
      obtain ⟨k, hk1, hk, rfl, HX⟩ := hrel
      by_cases hp : k < (orK [ps a, ps b]).length
      · obtain ⟨adk, capk, ek, _, ck⟩ := HKR.out.below HX.out
        simp only [Value.slice.injEq, true_and] at ek
        obtain ⟨rfl, rfl⟩ := ek
        obtain ⟨gk, ok, rfl, dk⟩ := ck (by omega)
        obtain ⟨j, hkj⟩ : ∃ j, k = j + 1 := ⟨k - 1, by omega⟩
        have e5 : j < (orK [ps a, ps b]).length := by omega
        have a1 := dk k hp
        have z1 := dk j e5
        have hlt := HRI.out j k e5 hp (by omega)
        generalize (orK [ps a, ps b])[k] = y at a1 hlt
        generalize (orK [ps a, ps b])[j] = z at z1 hlt
        obtain ⟨yo, ys⟩ := y
        obtain ⟨zo, zs⟩ := z
        try simp only at a1 z1
        obtain ⟨w9, rfl⟩ : ∃ w9, w9 = wr := ⟨_, rfl⟩
        have HA1 := Lib.hid a1
        have HZ1 := Lib.hid z1
        have hgl := World.block_lt_of_cell? _ _ a1.1
        have HSC : Hid (∀ W, Below w9.heap.size w9 W → W.cell? ⟨gk, ok + k * 2, none⟩ = some (.int .i64 yo) ∧ W.cell? ⟨gk, ok + k * 2 + 1, none⟩ = some (.int .i64 ys) ∧ W.cell? ⟨gk, ok + j * 2, none⟩ = some (.int .i64 zo) ∧ W.cell? ⟨gk, ok + j * 2 + 1, none⟩ = some (.int .i64 zs)) := Lib.hid (fun W b => ⟨(b.cell (World.block_lt_of_cell? _ _ HA1.out.1)).trans HA1.out.1, (b.cell (World.block_lt_of_cell? _ _ HA1.out.2)).trans HA1.out.2, (b.cell (World.block_lt_of_cell? _ _ HZ1.out.1)).trans HZ1.out.1, (b.cell (World.block_lt_of_cell? _ _ HZ1.out.2)).trans HZ1.out.2⟩)
        have CK : Hid (∀ W, Calls Try.prog 28 #[.agg #[.int .i64 zo, .int .i64 zs], .agg #[.int .i64 yo, .int .i64 ys]] W fun e w' => e = .returned (.bool true) ∧ Below W.heap.size W w') := Lib.hid (fun W => by have h := refbefore_c zo zs yo ys W; rw [hlt] at h; exact h)
        have HP := Lib.hid hp
        have e4 : (k : Int) - 1 = (j : Int) := by omega
        have hl80 : (orK [ps a, ps b]).length ≤ 1000 := t2
        have e7 : IntKind.i64.wrap (j : Int) = (j : Int) := by rw [IntKind.wrap_i64]; omega
        have HKJ := Lib.hid hkj
        clear hkj a1 z1 hlt dk ck
        go_wp2_with fail
        refine wp_region_held_drew (S := fun W => W.cell? ⟨gk, ok + k * 2, none⟩ = some (.int .i64 yo) ∧ W.cell? ⟨gk, ok + k * 2 + 1, none⟩ = some (.int .i64 ys) ∧ W.cell? ⟨gk, ok + j * 2, none⟩ = some (.int .i64 zo) ∧ W.cell? ⟨gk, ok + j * 2 + 1, none⟩ = some (.int .i64 zs)) (by kernel_rfl) (HSC.out _ (Below.refl _ _).drew) (fun hHeld => ?_)
        refine take_ok (i := 0) (d := 114) (v := ?_) rfl rfl (by kernel_rfl) (by kernel_rfl) (by kernel_rfl) (fun _ _ _ h => h) (Or.inl ⟨by rfl, ?_⟩) (by assumption) ?_
        rotate_left
        · intro w9 hSw
          try dsimp only at hSw
          first | (go_simp; done) | (go_simp; with_reducible rfl)
        try simp only [Act.put, List.setIfInBounds_toArray, List.set_cons_zero, List.set_cons_succ]
        refine take_ok (i := 1) (d := 115) (v := ?_) rfl rfl (by kernel_rfl) (by kernel_rfl) (by kernel_rfl) (fun _ _ _ h => h) (Or.inl ⟨by rfl, ?_⟩) (by assumption) ?_
        rotate_left
        · intro w9 hSw
          try dsimp only at hSw
          first | (go_simp; done) | (go_simp; with_reducible rfl)
        try simp only [Act.put, List.setIfInBounds_toArray, List.set_cons_zero, List.set_cons_succ]
        refine take_ok (i := 2) (d := 116) (v := ?_) rfl rfl (by kernel_rfl) (by kernel_rfl) (by kernel_rfl) (fun _ _ _ h => h) (Or.inl ⟨by rfl, ?_⟩) (by assumption) ?_
        rotate_left
        · intro w9 hSw
          try dsimp only at hSw
          first | (go_simp; done) | (go_simp; with_reducible rfl)
        try simp only [Act.put, List.setIfInBounds_toArray, List.set_cons_zero, List.set_cons_succ]
        refine take_ok (i := 3) (d := 117) (v := ?_) rfl rfl (by kernel_rfl) (by kernel_rfl) (by kernel_rfl) (fun _ _ _ h => h) (Or.inl ⟨by rfl, ?_⟩) (by assumption) ?_
        rotate_left
        · intro w9 hSw
          try dsimp only at hSw
          first | (go_simp; done) | (go_simp; with_reducible rfl)
        try simp only [Act.put, List.setIfInBounds_toArray, List.set_cons_zero, List.set_cons_succ]
        refine take_ok (i := 4) (d := 118) (v := ?_) rfl rfl (by kernel_rfl) (by kernel_rfl) (by kernel_rfl) (fun _ _ _ h => h) (Or.inl ⟨by rfl, ?_⟩) (by assumption) ?_
        rotate_left
        · intro w9 hSw
          try dsimp only at hSw
          first | (go_simp; done) | (go_simp; with_reducible rfl)
        try simp only [Act.put, List.setIfInBounds_toArray, List.set_cons_zero, List.set_cons_succ]
        refine take_ok (i := 5) (d := 119) (v := ?_) rfl rfl (by kernel_rfl) (by kernel_rfl) (by kernel_rfl) (fun _ _ _ h => h) (Or.inl ⟨by rfl, ?_⟩) (by assumption) ?_
        rotate_left
        · intro w9 hSw
          try dsimp only at hSw
          first | (go_simp; done) | (go_simp; with_reducible rfl)
        try simp only [Act.put, List.setIfInBounds_toArray, List.set_cons_zero, List.set_cons_succ]
        refine take_ok (i := 6) (d := 120) (v := ?_) rfl rfl (by kernel_rfl) (by kernel_rfl) (by kernel_rfl) (fun _ _ _ h => h) (Or.inl ⟨by rfl, ?_⟩) (by assumption) ?_
        rotate_left
        · intro w9 hSw
          try dsimp only at hSw
          first | (go_simp; done) | (go_simp; with_reducible rfl)
        try simp only [Act.put, List.setIfInBounds_toArray, List.set_cons_zero, List.set_cons_succ]
        refine take_ok (i := 7) (d := 121) (v := ?_) rfl rfl (by kernel_rfl) (by kernel_rfl) (by kernel_rfl) (fun _ _ _ h => h) (Or.inl ⟨by rfl, ?_⟩) (by assumption) ?_
        rotate_left
        · intro w9 hSw
          try dsimp only at hSw
          first | (go_simp; done) | (go_simp; with_reducible rfl)
        try simp only [Act.put, List.setIfInBounds_toArray, List.set_cons_zero, List.set_cons_succ]
        refine take_ok (i := 8) (d := 122) (v := ?_) rfl rfl (by kernel_rfl) (by kernel_rfl) (by kernel_rfl) (fun _ _ _ h => h) (Or.inl ⟨by rfl, ?_⟩) (by assumption) ?_
        rotate_left
        · intro w9 hSw
          try dsimp only at hSw
          first | (go_simp; done) | (go_simp; with_reducible rfl)
        try simp only [Act.put, List.setIfInBounds_toArray, List.set_cons_zero, List.set_cons_succ]
        refine wpAnyH_ready (rs := [9]) (by kernel_rfl) (by simp) ?_
        refine AllReadyH.cons rfl (fun K hK => ?_) AllReadyH.nil
        go_simp
        refine (CK.out _).mono ?_
        rintro e w8 ⟨rfl, b8⟩
        have b8' : Below w9.heap.size w9 w8 := bn (by first | exact (Below.refl _ _).drew | exact Below.refl _ _) b8
        refine hK.out _ _ (HSC.out _ b8') (fun hHeld => ?_)
        clear hK K
        try simp only [Act.put, List.setIfInBounds_toArray, List.set_cons_zero, List.set_cons_succ]
        refine take_ok (i := 10) (d := 124) (v := ?_) rfl rfl (by kernel_rfl) (by kernel_rfl) (by kernel_rfl) (fun _ _ _ h => h) (Or.inl ⟨by rfl, ?_⟩) (by assumption) ?_
        rotate_left
        · intro w9 hSw
          try dsimp only at hSw
          first | (go_simp; done) | (go_simp; with_reducible rfl)
        try simp only [Act.put, List.setIfInBounds_toArray, List.set_cons_zero, List.set_cons_succ]
        refine wpAnyH_done (by kernel_rfl) ?_ _
        have HB8 := Lib.hid b8'
        clear b8 b8' hHeld CK HSC
        go_wp2
        go_roundw
        case rel => exact ⟨k + 1, by omega, .inl HP.out, by go_num, Lib.hid (bn HX.out HB8.out)⟩
        case measure => have := HP.out; simp [intOf]; omega
      · obtain ⟨w16, rfl⟩ : ∃ w9, w9 = wr := ⟨_, rfl⟩
        have HB16 := HX
        have CT := Lib.hid (HPC.out.one (HPA.out.below (bn (bn (bn (bn (bn (bn (bn (bn (bn (bn (bn (bn (bn (bn (bn HB1.out HB2.out) HB3.out) HB4.out) HB5.out) HB6.out) HB7.out) HB8.out) HB9.out) HB10.out) HB11.out) HB12.out) HB13.out) HB14.out) HB15.out) HB16.out)) HSA.out HOA.out)
        unfold keysT at CT
        rw [HP1.out] at CT
        go_wp2_with fail
        refine (CT.out).mono ?_
        rintro e w17 ⟨v17, rfl, r17, b17⟩
        have HB17 := Lib.hid b17
        clear b17
        have HRph := Lib.hid r17
        obtain ⟨A17, C17, rfl⟩ := r17.len
        clear r17 CT
        have CT := Lib.hid (samek_c _ _ _ w17 (HRph.out.below (Below.refl _ _)).rd (HRx.out.below (bn (bn (bn (bn (bn (bn (bn (bn (bn (bn HB7.out HB8.out) HB9.out) HB10.out) HB11.out) HB12.out) HB13.out) HB14.out) HB15.out) HB16.out) HB17.out)).rd (by omega))
        go_wp2_with fail
        refine (CT.out).mono ?_
        rintro e w18 ⟨rfl, b18⟩
        have HB18 := Lib.hid b18
        clear b18
        clear CT
        go_wp2_with fail
        refine (HWC.out w18).mono ?_
        rintro e w19 ⟨rfl, b19⟩
        have HB19 := Lib.hid b19
        clear b19
        go_wp2
        go_ret
        exact ⟨rfl, (bn (bn (bn (bn (bn (bn (bn (bn (bn (bn (bn (bn (bn (bn (bn (bn (bn (bn HB1.out HB2.out) HB3.out) HB4.out) HB5.out) HB6.out) HB7.out) HB8.out) HB9.out) HB10.out) HB11.out) HB12.out) HB13.out) HB14.out) HB15.out) HB16.out) HB17.out) HB18.out) HB19.out)⟩
end Go.Proofs.Ytgdajnjfkokmdaa
namespace Go.Proofs.Ytgdajnjfkokmdaa
open Go.RowKit Go.ChangeShapes Go.WideShapes Go.ChangeAt Go.Deep

set_option maxRecDepth 100000 in
theorem sets_lifted (os : Os) (started : os.Started) (H : Type) (enc : TypeId × Value → H) :
    ReturnsInHanded {} Try.checked os 5 .any (Rows.postSetsSpec.pre6 enc Try.prog Try.f5 [] false) (Rows.postSetsSpec.post enc Try.prog Try.f5 false true false false) := by
  refine law_lift (C := Try.checked) own started (by kernel_rfl) Try.func5
    (ChangeSpec.witness6 (enc := enc) (C := Try.checked) false ⟨#[], #[.slice none 0 0, .slice none 0 0], []⟩ 8 (by kernel_rfl) (by kernel_rfl) (by kernel_rfl) (by kernel_rfl)) laidOut
    (by rw [Try.params5]; exact of_decide_eq_true (by kernel_rfl)) rfl 4 Try.underlying4 (by kernel_rfl)
    (fun ds h => by
      rw [Try.params5] at h
      match ds, h with
      | [_, _], _ => rfl) ?_
  intro W base args ds ps hval hA _
  rw [Try.params5] at hA hval
  obtain ⟨v0, v1, d0, d1, p0, p1, rfl, rfl, rfl, h0, h1⟩ := trodAll_two hA
  obtain ⟨a, hPa, oka⟩ := open_posts (hval 0 30 v0 rfl rfl) h0
  obtain ⟨b, hPb, okb⟩ := open_posts (hval 1 30 v1 rfl rfl) h1
  exact sets_law pand_c por_c pphr_c (fun a b va vb w h1 h2 n1 n2 o1 o2 => pless_c a b va vb w h1 h2 (by omega) (by omega) o1 o2) pmay_all awake_c a b v0 v1 W hPa hPb oka.p okb.p oka.k okb.k

theorem sets_holds : Rows.PostSetsSaid :=
  OpenClaim.holds_of_wide 5 Try.f5 rfl rfl rfl rfl rfl rfl rfl ⟨rfl, rfl, rfl, rfl, rfl⟩ rfl rfl rfl rfl rfl (by kernel_rfl) Try.func5 (by kernel_rfl)
    (of_decide_eq_true (by kernel_rfl)) (by unfold Func.isWrapper; first | (rw [if_pos (by decide +kernel)]; kernel_rfl) | (rw [if_neg (by decide +kernel)]; exact ⟨rfl, rfl⟩))
    (fun os started H enc _ => sets_lifted os started H enc)
#print axioms sets_holds
end Go.Proofs.Ytgdajnjfkokmdaa
