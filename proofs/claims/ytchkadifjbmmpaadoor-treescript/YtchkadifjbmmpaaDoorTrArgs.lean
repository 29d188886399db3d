/-
  What is handed in, opened; from a contract of a law to its row, where the two tables hold what is laid.
-/
import Derived.Test.YtchkadifjbmmpaaDoorTrAwk
import Derived.Test.YtchkadifjbmmpaaDoorWRecArgs
namespace Go.Proofs.YtchkadifjbmmpaaDoor
open Go.RowKit Go.Shelf Go.Lib Go.ChangeShapes Go.WideShapes Go.ChangeAt Go.Deep Go.Joins
set_option maxRecDepth 100000

/-- A record, off its cells: its Key's numbers are such that an int holds. -/
theorem rec_in {H : Type} {enc : TypeId × Value → H} {W : World} {base : Nat} {spare : Nat → Bool} {held : Bool} {fuel : Nat} {cs : List Value} {x : DataW H × List MemPlace}
    (h : DataW.trod enc Tryd.prog W base spare held fuel 36 cs = some x) : ∃ r : R.Rc, cs = [.int .i64 r.o, .int .i64 r.s, .int .i64 r.w, .int .i64 r.c, .string r.t] ∧ r.t.size ≤ maxLen ∧ okKy (r.o, r.s) := by
  obtain ⟨y0, y1, y2, n, _, hl, h0, h1, h2⟩ := trod_struct3 Tryd.underlying36 h
  have c5 : Tryd.prog.cellsOf 36 = 5 := by kernel_rfl
  have ck : Tryd.prog.cellsOf 32 = 2 := by kernel_rfl
  have cs2 : Tryd.prog.cellsOf 34 = 2 := by kernel_rfl
  have c9 : Tryd.prog.cellsOf 9 = 1 := by kernel_rfl
  have c3 : Tryd.prog.cellsOf 3 = 1 := by kernel_rfl
  rw [c5] at hl
  match cs, hl with
  | [u0, u1, u2, u3, u4], _ =>
    obtain ⟨c, d, e1⟩ := R.pair_cells Tryd.underlying34 rfl rfl rfl rfl cs2 h1
    obtain ⟨s, e2, _, hs⟩ := DataW.trod_string Tryd.underlying9 h2
    obtain ⟨z0, z1, m, _, hl2, k0, k1⟩ := trod_struct2 Tryd.underlying32 h0
    simp [cs2, c9] at e1 e2
    simp only [ck, c3, List.drop_zero, List.drop_succ_cons, List.take_succ_cons, List.take_zero] at k0 k1
    obtain ⟨a, f0, _, w0⟩ := DataW.trod_int (t := 3) Tryd.underlying3 k0
    obtain ⟨b, f1, _, w1⟩ := DataW.trod_int (t := 3) Tryd.underlying3 k1
    simp at f0 f1
    refine ⟨⟨a, b, c, d, s⟩, ?_, hs, R.wf_i64 w0, R.wf_i64 w1⟩
    rw [f0, f1, e1.1, e1.2, e2]
theorem open_recs {H : Type} {enc : TypeId × Value → H} {W : World} {r : Reach} {b0 base : Nat} {spare : Nat → Bool} {held : Bool} {v : Value} {d : DataW H} {p : List MemPlace}
    (hv : Value.okWide Tryd.prog W r b0 28 v) (h : DataW.Trod enc Tryd.prog W base spare held 28 v d p) : ∃ l : List R.Rc, R.Rl W v l ∧ (∀ x ∈ l, x.t.size ≤ 9223372036854775807 ∧ okKy (kyR x)) ∧ l.length ≤ maxLen := by
  obtain ⟨ad, len, cap, rfl⟩ := okWide_slice Tryd.underlying28 hv
  obtain ⟨fuel, hf⟩ := h
  simp only [Value.cells] at hf
  have c5 : Tryd.prog.cellsOf 36 = 5 := by kernel_rfl
  rcases open_slice Tryd.underlying28 hf with ⟨e, _⟩ | ⟨a, len', cap', m, n, D, Pl, e, hb, hl, hm, hmm, _, hi⟩
  · simp only [List.cons.injEq, and_true] at e
    rw [e]
    exact ⟨[], .inl ⟨rfl, rfl⟩, fun x hx => by simp at hx, Nat.zero_le _⟩
  · simp only [List.cons.injEq, and_true, Value.slice.injEq] at e
    obtain ⟨rfl, rfl, rfl⟩ := e
    have hlm : len ≤ m := by rw [hmm]; split <;> omega
    have each : ∀ i, i < len → ∃ q : R.Rc, (∀ j, j < 5 → W.cell? ((a.add (i * 5)).add j) = [.int .i64 q.o, .int .i64 q.s, .int .i64 q.w, .int .i64 q.c, .string q.t][j]?) ∧ q.t.size ≤ maxLen ∧ okKy (q.o, q.s) := by
      intro i hi'
      obtain ⟨cs', h1, h2⟩ := hi i (by omega)
      rw [c5] at h1
      obtain ⟨_, _, h3⟩ := World.cells?_some h1
      obtain ⟨q, e, hq⟩ := rec_in h2
      exact ⟨q, fun j hj => by rw [h3 j hj, e], hq⟩
    obtain ⟨q, hq⟩ := choose_lt each
    refine ⟨(List.range len).map q, .inr ⟨a, cap, by simp, by simpa using hl, fun h0 => ?_⟩, fun x hx => ?_, by simp; omega⟩
    · have h0' : 0 < len := by simpa using h0
      have hsp : a.spot = none := by
        have h1 := (hq 0 h0').1 0 (by decide)
        obtain ⟨b, o, s⟩ := a
        cases s with
        | none => rfl
        | some s => simp [World.cell?, Addr.add] at h1; split at h1 <;> simp at h1
      refine ⟨a.block, a.off, by obtain ⟨b, o, s⟩ := a; simp only at hsp; subst hsp; rfl, fun k hk => ?_⟩
      have hk' : k < len := by simpa using hk
      have h1 := (hq k hk').1
      rw [R.add_off a _ hsp] at h1
      have h2 : ∀ j, j < 5 → W.cell? ⟨a.block, a.off + k * 5 + j, none⟩ = [.int .i64 (q k).o, .int .i64 (q k).s, .int .i64 (q k).w, .int .i64 (q k).c, .string (q k).t][j]? := fun j hj => by
        rw [← h1 j hj, add_plain]
      simp only [List.getElem_map, List.getElem_range]
      exact ⟨h2 0 (by decide), h2 1 (by decide), h2 2 (by decide), h2 3 (by decide), h2 4 (by decide)⟩
    · obtain ⟨i, hi2, rfl⟩ := List.mem_map.1 hx
      have := (hq i (by simpa using hi2)).2
      unfold maxLen at this
      exact ⟨by omega, this.2⟩
theorem own : ownKnob Tryd.prog.godebug = none := by kernel_rfl
theorem trodAll_stays {H : Type} {enc : TypeId × Value → H} {P : Program} (hl : laidOutB P = true) {W W' : World} (hb : Below W.heap.size W W') :
    ∀ (ts : List TypeId) (vs : List Value) (ds : List (DataW H)) (ps : List MemPlace), (∀ t ∈ ts, P.readableRec t = true ∧ t < P.types.size) → DataW.TrodAll enc P W 0 (fun _ => true) true ts vs ds ps → (∀ x ∈ ps, x.block < W.heap.size) →
      DataW.TrodAll enc P W' 0 (fun b => decide (b < W.heap.size)) true ts vs ds ps
  | [], [], [], _, _, h, _ => h
  | t :: ts, v :: vs, d :: ds, ps, hr, h, hlt => by
    obtain ⟨p, q, h1, h2, rfl⟩ := h
    have hr1 := hr t (List.mem_cons_self ..)
    exact ⟨p, q, Below.trod hl hr1.1 hr1.2 h1 hb (fun x hx => hlt x (List.mem_append_left _ hx)),
      trodAll_stays hl hb ts vs ds q (fun t' ht' => hr t' (List.mem_cons_of_mem _ ht')) h2 (fun x hx => hlt x (List.mem_append_right _ hx)), rfl⟩
  | [], [], _ :: _, _, _, h, _ => h.elim
  | [], _ :: _, _, _, _, h, _ => h.elim
  | _ :: _, [], _, _, _, h, _ => h.elim
  | _ :: _, _ :: _, [], _, _, h, _ => h.elim

theorem trodAll_len {H : Type} {enc : TypeId × Value → H} {P : Program} {W : World} {base : Nat} {spare : Nat → Bool} {held : Bool} :
    ∀ (ts : List TypeId) (vs : List Value) (ds : List (DataW H)) (ps : List MemPlace), DataW.TrodAll enc P W base spare held ts vs ds ps → ds.length = ts.length
  | [], [], [], _, _ => rfl
  | t :: ts, v :: vs, d :: ds, ps, h => by
    obtain ⟨p, q, _, h2, _⟩ := h
    simp [trodAll_len ts vs ds q h2]
  | [], [], _ :: _, _, h => h.elim
  | [], _ :: _, _, _, h => h.elim
  | _ :: _, [], _, _, h => h.elim
  | _ :: _, _ :: _, [], _, h => h.elim

/-- The step from a contract to the row. -/
theorem laid_lift {H : Type} {enc : TypeId × Value → H} {C : Checked} {os : Os} {f : FuncId} {fn : Func} {s : ChangeSpec} {L : List (String × DataW Unit)}
    (hown : ownKnob C.prog.godebug = none) (started : os.Started) (noInit : C.prog.inits.idxOf? f = none) (hfn : C.prog.funcs[f]? = some fn)
    (witness : ∃ (w : World) (tape : Tape) (i : Input), w.os = os ∧ (w.forCall tape i).Shaped C.prog ∧ i.vars = [] ∧ Input.okWide C.prog (w.forCall tape i) .any w.heap.size f i ∧
      ((s.pre enc C.prog fn [] false (w.forCall tape i).memory i.args ∧ laidMetH C.prog L (w.forCall tape i).memory) ∧ sizedMet enc C.prog fn (OpenSpec.ofChange s) false (w.forCall tape i).memory i.args) ∧ ({} : Assume).holds C.prog (lone (Frame.enter C.prog f i.args .normal) [] (w.forCall tape i)))
    (hl : laidOutB C.prog = true) (hr : ∀ t ∈ fn.params.toList, C.prog.readableRec t = true ∧ t < C.prog.types.size)
    (hv : s.vars = []) (b : TypeId) (hb : C.prog.underlying b = some .bool) (hres : fn.resultTypes = #[b])
    (hs : ∀ (ds : List (DataW H)), ds.length = fn.params.toList.length → s.fn H ds = { results := [.lit (.bool true)], args := ds })
    (contract : ∀ (W : World) (base : Nat) (args : Array Value) (ds : List (DataW H)) (ps : List MemPlace),
      (∀ (j : Nat) t v, fn.params[j]? = some t → args[j]? = some v → Value.okWide C.prog W .any base t v) →
      DataW.TrodAll enc C.prog W 0 (fun _ => true) true fn.params.toList args.toList ds ps → laidMetH C.prog L W →
      Calls C.prog f args W fun e W' => e = .returned (.bool true) ∧ Below W.heap.size W W') :
    ReturnsInHanded {} C os f .any (fun w args => (s.pre enc C.prog fn [] false w args ∧ laidMetH C.prog L w) ∧ sizedMet enc C.prog fn (OpenSpec.ofChange s) false w args) (s.post enc C.prog fn false true false false) := by
  refine returnsInHanded_of_change_and (X := fun w _ => laidMetH C.prog L w) (fun _ _ _ hh h => h.of_heap hh) hown started noInit hfn witness ?_
  intro W base args ds gs before hval hW _ _ hL _
  have hW' := hW
  have hlt := hW.lt
  obtain ⟨p, q, hA, hV, rfl, _, _⟩ := hW
  rw [hv] at hV
  obtain ⟨rfl, rfl⟩ : gs = [] ∧ q = [] := by
    cases gs with
    | nil => exact ⟨rfl, hV⟩
    | cons g gs => exact hV.elim
  simp only [List.append_nil] at hW' hlt
  refine (contract W base args ds p hval hA hL).mono fun e W' ⟨he, hbl⟩ => ?_
  subst he
  have hfn' := hs ds (trodAll_len _ _ _ _ hA)
  refine ⟨_, rfl, ds, [], p, [], p, [], hW', ?_, ?_, ?_, hbl.frame _, fun h => by cases h⟩
  · rw [List.append_nil, hfn', hres]
    exact trodAll_mk1 (shut_bool hb true)
  · rw [List.append_nil, hfn']
    exact trodAll_stays hl hbl _ _ _ _ hr hA hlt
  · rw [List.append_nil, hfn', hv]
    rfl

def seatLaid : List (String × DataW Unit) := Rows.treeOriginsRow.laid
theorem xU : U8Extra Tryd.prog Tryd.lays196_ren := ⟨by kernel_rfl, by kernel_rfl, by kernel_rfl, by kernel_rfl, by kernel_rfl, by kernel_rfl, by kernel_rfl⟩
theorem acc_eq : (Rows.laid_unicode_utf8_acceptRanges : DataW Unit) = Lib.acceptData := by kernel_rfl
theorem tabs_of_laid (W : World) (hL : laidMetH Tryd.prog seatLaid W) : R.Tabs W := by
  rw [MakeChecks.laidMetH_plain _ _ _ (by kernel_rfl)] at hL
  have r0 := Lib.laidMet.reads hL (.head _)
  have r1 := Lib.laidMet.reads hL (.tail _ (.head _))
  rw [acc_eq] at r0
  rw [show (Rows.laid_unicode_utf8_first) = Lib.firstData from Pinned.utf8First_eq] at r1
  exact utf8Tabs_of_readsT (U8Types.of196 Tryd.lays196) xU r1 r0
theorem laid_world (os : Os) (args : Array Value) : laidMetH Tryd.prog seatLaid ((World.laidAll Tryd.prog os seatLaid).forCall (fun _ _ => 0) ⟨#[], args, []⟩).memory := by
  rw [MakeChecks.laidMetH_plain _ _ _ (by kernel_rfl)]
  exact laidMet_laidAll _ (by kernel_rfl) (by kernel_rfl)

end Go.Proofs.YtchkadifjbmmpaaDoor
