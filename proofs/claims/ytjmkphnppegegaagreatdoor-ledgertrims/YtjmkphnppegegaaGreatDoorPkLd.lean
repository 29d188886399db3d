/-
  great by contract: is there more than is gone through?
-/
import Derived.Test.YtjmkphnppegegaaGreatDoorPkLc
namespace Go.Proofs.YtjmkphnppegegaaGreatDoor
open Go.RowKit Go.Lib
set_option maxRecDepth 100000

def bigE (e : En) : Bool := decide (300 < e.r.t.size) || (decide (20 < e.v.length) || decide (20 < e.w.length))
def greatE (l : List Ev) (most : Nat) : Bool := (decide (l.length ≤ most) && l.any (fun x => bigE x.e)) || decide (most < l.length)
theorem great_no {l : List Ev} {most : Nat} (h : greatE l most = false) : l.length ≤ most ∧ ∀ x ∈ l, x.e.r.t.size ≤ 300 ∧ x.e.v.length ≤ 20 ∧ x.e.w.length ≤ 20 := by
  unfold greatE at h
  simp only [Bool.or_eq_false_iff, decide_eq_false_iff_not, Bool.and_eq_false_iff] at h
  have hl : l.length ≤ most := by omega
  refine ⟨hl, fun x hx => ?_⟩
  rcases h.1 with h1 | h1
  · exact absurd hl h1
  · rw [List.any_eq_false] at h1
    have := h1 x hx
    simp only [bigE, Bool.or_eq_true, decide_eq_true_eq, not_or] at this
    omega
set_option maxHeartbeats 8000000 in
theorem great_c (w : World) (v : Value) (l : List Ev) (most : Nat) (h : Er w v l) (hm : most ≤ 1000) :
    Calls Tryz.prog 9 #[v, .int .i64 (most : Int)] w fun e w' => e = .returned (.bool (greatE l most)) ∧ w = w' := by
  have HE := Lib.hid h
  obtain ⟨ad, cap, rfl, hc, _⟩ := h
  by_cases hl : l.length ≤ most
  · go_enter Tryz.func9, Tryz.ntmps9
    go_wp2
    go_loopw [5] (fun v5 wr => ∃ j : Nat, j ≤ l.length ∧ v5 = .int .i64 (j : Int) ∧ Hid (∀ k (hk : k < l.length), k < j → bigE l[k].e = false) ∧ w = wr) (fun v5 _ => l.length - (RowKit.intOf v5).toNat)
    case atStart => exact ⟨0, by omega, rfl, Lib.hid (fun k _ h => by omega), rfl⟩
    case round =>
      obtain ⟨j, hj, rfl, HN, rfl⟩ := hrel
      by_cases hjl : j < l.length
      · obtain ⟨ad2, cap2, e2, _, hs2⟩ := HE.out
        cases e2
        obtain ⟨b, o, rfl, hat⟩ := hs2 (by omega)
        have a1 := hat j hjl
        have hgl := World.block_lt_of_cell? w _ a1.1.1
        have hJ := Lib.hid hjl
        generalize hX : l[j] = X at a1
        have HX := Lib.hid hX
        clear hX
        obtain ⟨d, A, B⟩ := X
        obtain ⟨⟨p0, p1, p2, p3, p4, p5, p6, p7⟩, hA, hB⟩ := a1
        simp only at p0 p1 p2 p3 p4 p5 p6 p7 hA hB
        obtain ⟨adA, capA, rfl, _⟩ := id hA.form
        obtain ⟨adB, capB, rfl, _⟩ := id hB.form
        clear hs2 hat hA hB
        cases h1 : decide (300 < d.r.t.size) with
        | true =>
          have h1' : 300 < d.r.t.size := by simpa using h1
          have hfin : greatE l most = true := by
            have hx : bigE l[j].e = true := by rw [HX.out]; simp [bigE, h1]
            unfold greatE
            have : l.any (fun x => bigE x.e) = true := List.any_eq_true.2 ⟨l[j], List.getElem_mem hjl, hx⟩
            simp [this, hl]
          have HF := Lib.hid hfin
          clear hfin
          go_wp2
          go_ret
          exact ⟨by first | (rw [HF.out]; done) | (rw [HF.out]; rfl), rfl⟩
        | false =>
          have h1' : ¬ 300 < d.r.t.size := by simpa using h1
          cases h2 : decide (20 < d.v.length) with
          | true =>
            have h2' : 20 < d.v.length := by simpa using h2
            have hfin : greatE l most = true := by
              have hx : bigE l[j].e = true := by rw [HX.out]; simp [bigE, h2]
              unfold greatE
              have : l.any (fun x => bigE x.e) = true := List.any_eq_true.2 ⟨l[j], List.getElem_mem hjl, hx⟩
              simp [this, hl]
            have HF := Lib.hid hfin
            clear hfin
            go_wp2
            go_ret
            exact ⟨by first | (rw [HF.out]; done) | (rw [HF.out]; rfl), rfl⟩
          | false =>
            have h2' : ¬ 20 < d.v.length := by simpa using h2
            cases h3 : decide (20 < d.w.length) with
            | true =>
              have h3' : 20 < d.w.length := by simpa using h3
              have hfin : greatE l most = true := by
                have hx : bigE l[j].e = true := by rw [HX.out]; simp [bigE, h3]
                unfold greatE
                have : l.any (fun x => bigE x.e) = true := List.any_eq_true.2 ⟨l[j], List.getElem_mem hjl, hx⟩
                simp [this, hl]
              have HF := Lib.hid hfin
              clear hfin
              go_wp2
              go_ret
              exact ⟨by first | (rw [HF.out]; done) | (rw [HF.out]; rfl), rfl⟩
            | false =>
              have h3' : ¬ 20 < d.w.length := by simpa using h3
              have HB : Hid (bigE l[j].e = false) := Lib.hid (by rw [HX.out]; simp [bigE, h1, h2, h3])
              go_wp2
              go_roundw
              case rel => exact ⟨j + 1, hJ.out, by go_num, Lib.hid (fun k hk hkj => by
                  rcases Nat.lt_or_ge k j with h | h
                  · exact HN.out k hk h
                  · obtain rfl : k = j := by omega
                    exact HB.out), by first | rfl | trivial⟩
              case measure => have := hJ.out; simp [RowKit.intOf]; omega
      · obtain rfl : j = l.length := by omega
        have hfin : greatE l most = false := by
          unfold greatE
          have : l.any (fun x => bigE x.e) = false := by
            rw [List.any_eq_false]
            intro x hx
            obtain ⟨k, hk, rfl⟩ := List.getElem_of_mem hx
            rw [HN.out k hk hk]
            decide
          simp [this]
          omega
        have HF := Lib.hid hfin
        have hl2 : ¬ most < l.length := by omega
        clear hfin
        go_wp2
        go_ret
        exact ⟨by rw [HF.out]; simp, rfl⟩
  · have hfin : greatE l most = true := by unfold greatE; simp; omega
    have HF := Lib.hid hfin
    have hl2 : most < l.length := by omega
    clear hfin
    go_enter Tryz.func9, Tryz.ntmps9
    go_wp2
    go_loopw [5] (fun v5 wr => v5 = .int .i64 0 ∧ w = wr) (fun _ _ => 0)
    case atStart => exact ⟨rfl, rfl⟩
    case round =>
      obtain ⟨rfl, rfl⟩ := hrel
      go_wp2
      go_ret
      exact ⟨by rw [HF.out]; simp, rfl⟩
end Go.Proofs.YtjmkphnppegegaaGreatDoor
/-
  What is held of a ledger while entries are written into it: which ones, how many of them are firm; and behind a crash.
-/
namespace Go.Proofs.YtjmkphnppegegaaGreatDoor
open Go.RowKit Go.Lib
set_option maxRecDepth 100000

structure Cs (n : Nat) (S : Lg) (all : List En) (f : Nat) : Prop where
  n : S.n = n
  k : S.k = 1
  A : S.A.length ≤ all.length
  pl : plainE S.all = all
  us : usedP S.P ≤ 312 + 624 * all.length
  y0 : S.A = [] → (rowsE (S.L.take 1)).length ≤ S.y
  fm : ∃ q, q ≤ S.L.length ∧ (rowsE (S.L.take q)).length ≤ S.y ∧ f ≤ (plainE (S.A.flatten ++ S.L.take q)).length
  fj : f ≤ all.length
theorem Cs.new {n : Nat} (h1 : 1 ≤ n) (h8 : n ≤ 8) : Cs n (Lg.new n) [] 0 := by
  have h := new_used h1 h8
  refine ⟨rfl, rfl, by simp [Lg.new], by simp [Lg.new, Lg.all, plainE, baseE], by simp only [List.length_nil]; omega, fun _ => ?_, ⟨0, by omega, by simp [rowsE], by omega⟩, by omega⟩
  simp [Lg.new]
theorem Cs.write {n : Nat} {S : Lg} {all : List En} {f : Nat} (h : Cs n S all f) (ok : S.Ok) {e : En} {v w : List Int} (hm : mayE e n = true) (hk : e.k ≠ 1) (hv : mayE (baseE v w) n = true) : Cs n (S.write e v w) (all ++ [e]) f := by
  have h1 := Lg.used_write S e v w
  have h2 := adds_le (S := S) (mayE_some hm) (mayE_some hv)
  have h3 := Lg.plain_write S e v w hk
  rw [h.pl] at h3
  have hp := List.length_pos_iff.2 ok.nl
  have hlen : (all ++ [e]).length = all.length + 1 := by simp
  have hAw := Lg.write_A S e v w
  have hus := h.us
  have hA := h.A
  have hfj := h.fj
  refine ⟨by rw [Lg.write_n]; exact h.n, by rw [Lg.write_k]; exact h.k, by rw [hlen]; omega, h3, by rw [hlen]; omega, fun e0 => ?_, ?_, by rw [hlen]; omega⟩
  · unfold Lg.write at e0 ⊢
    split at e0
    · rename_i hz
      rw [if_pos hz]
      show (rowsE ((S.L ++ [e]).take 1)).length ≤ S.y
      rw [List.take_append_of_le_length (by omega)]
      exact h.y0 e0
    · simp at e0
  · unfold Lg.write
    split
    · obtain ⟨q, q1, q2, q3⟩ := h.fm
      refine ⟨q, ?_, ?_, ?_⟩
      · show q ≤ (S.L ++ [e]).length
        rw [List.length_append]
        omega
      · show (rowsE ((S.L ++ [e]).take q)).length ≤ S.y
        rw [List.take_append_of_le_length q1]
        exact q2
      · show f ≤ (plainE (S.A.flatten ++ (S.L ++ [e]).take q)).length
        rw [List.take_append_of_le_length q1]
        exact q3
    · refine ⟨0, Nat.zero_le _, by simp [rowsE], ?_⟩
      show f ≤ (plainE ((S.A ++ [S.L]).flatten ++ [])).length
      rw [List.append_nil, List.flatten_append]
      simp only [List.flatten_cons, List.flatten_nil, List.append_nil]
      have h4 := congrArg List.length h.pl
      unfold Lg.all at h4
      omega
theorem Cs.sync {n : Nat} {S : Lg} {all : List En} {f : Nat} (h : Cs n S all f) : Cs n S.sync all all.length := by
  refine ⟨h.n, h.k, h.A, h.pl, ?_, fun _ => rowsE_take_le _ _, ⟨S.L.length, Nat.le_refl _, ?_, ?_⟩, Nat.le_refl _⟩
  · have := h.us
    rw [Lg.used] at this ⊢
    exact this
  · show (rowsE (S.L.take S.L.length)).length ≤ (rowsE S.L).length
    rw [List.take_length]
    omega
  · show all.length ≤ (plainE (S.A.flatten ++ S.L.take S.L.length)).length
    rw [List.take_length]
    exact Nat.le_of_eq (congrArg List.length h.pl).symm
/-- Behind a crash: a beginning, with all that was firm. -/
theorem Cs.torn {n : Nat} {S : Lg} {all : List En} {f : Nat} (h : Cs n S all f) {c wl : Nat} (hc : S.y ≤ c) (q3 : ∀ q, q ≤ S.L.length → (rowsE (S.L.take q)).length ≤ c → q ≤ wl) (q4 : wl = 0 → S.A ≠ []) :
    ∃ r, f ≤ r ∧ r ≤ all.length ∧ plainE (S.torn wl).all = all.take r := by
  have h1 := h.pl
  unfold Lg.all at h1
  have r5 := List.take_append_drop wl S.L
  rw [← r5, ← List.append_assoc, plainE_app] at h1
  refine ⟨(plainE (S.A.flatten ++ S.L.take wl)).length, ?_, ?_, ?_⟩
  · obtain ⟨q, r1, r2, r3⟩ := h.fm
    have r4 := q3 q r1 (Nat.le_trans r2 hc)
    have r6 : S.L.take wl = S.L.take q ++ (S.L.take wl).drop q := by
      have := List.take_append_drop q (S.L.take wl)
      rw [List.take_take, Nat.min_eq_left r4] at this
      exact this.symm
    rw [r6, ← List.append_assoc, plainE_app, List.length_append]
    omega
  · rw [← h1, List.length_append]
    omega
  · rw [Lg.torn_all q4, ← h1, List.take_left']
    rfl
end Go.Proofs.YtjmkphnppegegaaGreatDoor
/-
  A list of entries that grows beside a ledger; its entries' lists are elder than both.
-/
namespace Go.Proofs.YtjmkphnppegegaaGreatDoor
open Go.RowKit Go.Lib
set_option maxRecDepth 100000

/-- A row of entries, none of whose blocks is own's; their lists lie in w0. -/
structure Wn (w0 w : World) (own : Nat → Prop) (v : Value) (l : List Ev) : Prop where
  row : ERow w w0.heap.size v l
  no : ∀ g, v.ownBlock = some g → ¬ own g
  ls : ∀ x ∈ l, Nl w0 x.a x.e.v ∧ Nl w0 x.b x.e.w
theorem Wn.nil (w0 w : World) (own : Nat → Prop) : Wn w0 w own (.slice none 0 0) [] := ⟨World.ownsRow_nil _ _ _ _, (fun g hg => by cases hg), (fun x hx => by cases hx)⟩
theorem Wn.step {w0 w w' : World} {own own' : Nat → Prop} {v : Value} {l : List Ev} (h : Wn w0 w own v l) (hs : Step w own w' own') : Wn w0 w' own' v l :=
  ⟨ownsRow_of_block h.row (fun g hg => hs.turn.block g (World.ownsRow.lt h.row g hg).2 (h.no g hg)), fun g hg => hs.not (h.no g hg) (World.ownsRow.lt h.row g hg).2, h.ls⟩
theorem Wn.below {w0 w w' : World} {own : Nat → Prop} {v : Value} {l : List Ev} (h : Wn w0 w own v l) (hb : Below w.heap.size w w') : Wn w0 w' own v l := h.step (.ofBelow hb)
theorem Wn.er {w0 w : World} {own : Nat → Prop} {v : Value} {l : List Ev} (h : Wn w0 w own v l) (hb : Below w0.heap.size w0 w) : Er w v l := ERow.er h.row (fun x hx => ⟨(h.ls x hx).1.below hb, (h.ls x hx).2.below hb⟩)
/-- Where the owner lets blocks go that the row never had. -/
theorem Wn.less {w0 w : World} {own own' : Nat → Prop} {v : Value} {l : List Ev} (h : Wn w0 w own v l) (hs : ∀ i, own' i → own i) : Wn w0 w own' v l := ⟨h.row, fun g hg k => h.no g hg (hs g k), h.ls⟩
/-- One entry more. -/
theorem Wn.push {w0 w : World} {own : Nat → Prop} {v : Value} {l : List Ev} (h : Wn w0 w own v l) (hb : Below w0.heap.size w0 w) (x : Ev) (ha : Nl w0 x.a x.e.v) (hc : Nl w0 x.b x.e.w) (hn : l.length ≤ 1000) (hup : ∀ i, own i → i < w.heap.size) (ty T : TypeId) :
    ∃ A N C w1, (Builtin.append_ #[22, 22] ty #[v, .slice (some ⟨w.heap.size, 0, none⟩) 1 1]).run Tryz.prog (w.alloc (.cells #[.int .i64 x.e.k, x.a, x.b, .int .i64 x.e.r.o, .int .i64 x.e.r.s, .int .i64 x.e.r.w, .int .i64 x.e.r.c, .string x.e.r.t] T)) = .ok (.slice A N C) w1 ∧ Wn w0 w1 own (.slice A N C) (l ++ [x]) ∧ Turn (fun i => v.ownBlock = some i) w w1 := by
  have hal := alloc_below w (.cells #[.int .i64 x.e.k, x.a, x.b, .int .i64 x.e.r.o, .int .i64 x.e.r.s, .int .i64 x.e.r.w, .int .i64 x.e.r.c, .string x.e.r.t] T)
  have er7 := Er.one w x T (ha.below hb) (hc.below hb)
  obtain ⟨A8, N8, C8, w8, run8, row8, g8, ob8⟩ := eapp_run l [x] v _ _ ty w0.heap.size (own_below h.row hal) er7 (by simp; omega) (by have := hb.size; simp; omega)
  refine ⟨A8, N8, C8, w8, run8, ⟨row8, fun g hg k => ?_, fun y hy => ?_⟩, (Turn.ofBelow hal).trans (Turn.ofGrown g8 (fun g hg => hg))⟩
  · rcases ob8 with e | e
    · rw [e] at hg
      exact h.no g hg k
    · rw [e] at hg
      have := hup g k
      simp at hg
      omega
  · rcases List.mem_append.1 hy with hy | hy
    · exact h.ls y hy
    · rw [List.mem_singleton] at hy
      subst hy
      exact ⟨ha, hc⟩
/-- A ledger beside a row that grows. -/
theorem Led.beside {w w' : World} {g p m : Nat} {S : Lg} {own : Nat → Prop} {w0 : World} {v : Value} {l : List Ev} (h : Led w g p m S own) (k : Wn w0 w (plusB own g) v l) (ht : Turn (fun i => v.ownBlock = some i) w w') : Led w' g p m S own :=
  h.far ht (fun i hi => ⟨fun o => k.no i hi (.inl o), fun e => k.no i hi (.inr e)⟩)
theorem Gr.beside {w w' : World} {own : Nat → Prop} {w0 : World} {v : Value} {l : List Ev} {own' : Nat → Prop} (h : Gr w0 w own) (k : Wn w0 w own' v l) (ht : Turn (fun i => v.ownBlock = some i) w w') : Gr w0 w' own :=
  ⟨h.bl.trans (ht.below h.bl.size (fun i hi => (World.ownsRow.lt k.row i hi).1)), h.ow⟩
end Go.Proofs.YtjmkphnppegegaaGreatDoor
