/-
  unpack, by contract: the entry that a frame holds.
-/
import Derived.Test.YtjmkphnppegegaaGreatDoorPkS
import Derived.Test.YtjmkphnppegegaaGreatDoorPkRs
import Derived.Test.YtjmkphnppegegaaGreatDoorPkA
namespace Go.Proofs.YtjmkphnppegegaaGreatDoor
open Go.RowKit Go.Lib
set_option maxRecDepth 100000

theorem Bc.blc {w : World} {v : Value} {l : List Int} (h : Bc w v l) : BlC w v l := by
  obtain ⟨h1, ad, cap, rfl, hc⟩ := h
  refine ⟨ad, cap, rfl, hc, fun h0 => ?_⟩
  obtain ⟨ad', cap', e, h2⟩ := h1.form
  simp only [Value.slice.injEq] at e
  obtain ⟨rfl, _, rfl⟩ := e
  exact h2 h0
/-- No block is both's. -/
def apart (a b : Value) : Prop := ∀ g, a.ownBlock = some g → b.ownBlock ≠ some g
theorem apart_of_rows {w w1 w2 : World} {B B' : Nat} {a b : Value} {l m : List Int} (h1 : Row w B a l) (h2 : Row w2 w1.heap.size b m) (hb : w.heap.size ≤ w1.heap.size) (_ : B' ≤ B) : apart a b := fun g hg hg' => by
  have e1 := (World.ownsRow.lt h1 g hg).2
  have e2 := (World.ownsRow.lt h2 g hg').1
  omega
theorem apart_nil (b : Value) : apart (.slice none 0 0) b := fun g hg => by cases hg
theorem apart_nil' (a : Value) : apart a (.slice none 0 0) := fun g _ hg => by cases hg

theorem res_e2 {fn : Func} {p q : Tmp} (h : fn.results = #[.cell p 43, .tmp q]) (tmps : Array Value) (g : Nat) (hp : tmps.getD p undef = .pointer (some ⟨g, 0, none⟩)) (a b c d e f i j : Value) (w : World) (hx : Bx 43 w g #[a, b, c, d, e, f, i, j]) :
    (results fn tmps).run Tryz.prog w = .ok (.tuple #[.agg #[a, b, c, d, e, f, i, j], tmps.getD q undef]) w := by
  have aR := Tryz.isAgg43
  have zR := Tryz.sizeOf43
  obtain ⟨c0, c1, c2, c3, c4, c5, c6, c7⟩ := hx.eight
  rw [Array.getD_eq_getD_getElem?] at hp
  simp [results, h, hp, go_sem, aR, zR, c0, c1, c2, c3, c4, c5, c6, c7]
theorem res_e3 {fn : Func} {p q r : Tmp} (h : fn.results = #[.cell p 43, .tmp q, .tmp r]) (tmps : Array Value) (g : Nat) (hp : tmps.getD p undef = .pointer (some ⟨g, 0, none⟩)) (a b c d e f i j : Value) (w : World) (hx : Bx 43 w g #[a, b, c, d, e, f, i, j]) :
    (results fn tmps).run Tryz.prog w = .ok (.tuple #[.agg #[a, b, c, d, e, f, i, j], tmps.getD q undef, tmps.getD r undef]) w := by
  have aR := Tryz.isAgg43
  have zR := Tryz.sizeOf43
  obtain ⟨c0, c1, c2, c3, c4, c5, c6, c7⟩ := hx.eight
  rw [Array.getD_eq_getD_getElem?] at hp
  simp [results, h, hp, go_sem, aR, zR, c0, c1, c2, c3, c4, c5, c6, c7]
/-- Eight cells stored, one by one. -/
def set8 (w : World) (g o : Nat) (a b c d e f i j : Value) : World := (((((((w.setCell ⟨g, o, none⟩ a).setCell ⟨g, o + 1, none⟩ b).setCell ⟨g, o + 2, none⟩ c).setCell ⟨g, o + 3, none⟩ d).setCell ⟨g, o + 4, none⟩ e).setCell ⟨g, o + 5, none⟩ f).setCell ⟨g, o + 6, none⟩ i).setCell ⟨g, o + 7, none⟩ j
theorem Bx.set8 {w : World} {g : Nat} {a' b' c' d' e' f' i' j' : Value} (h : Bx 43 w g #[a', b', c', d', e', f', i', j']) (a b c d e f i j : Value) : Bx 43 (set8 w g 0 a b c d e f i j) g #[a, b, c, d, e, f, i, j] := by
  have h0 : Bx _ _ _ #[a, b', c', d', e', f', i', j'] := h.set 0 a
  have h1 : Bx _ _ _ #[a, b, c', d', e', f', i', j'] := h0.set 1 b
  have h2 : Bx _ _ _ #[a, b, c, d', e', f', i', j'] := h1.set 2 c
  have h3 : Bx _ _ _ #[a, b, c, d, e', f', i', j'] := h2.set 3 d
  have h4 : Bx _ _ _ #[a, b, c, d, e, f', i', j'] := h3.set 4 e
  have h5 : Bx _ _ _ #[a, b, c, d, e, f, i', j'] := h4.set 5 f
  have h6 : Bx _ _ _ #[a, b, c, d, e, f, i, j'] := h5.set 6 i
  exact h6.set 7 j
theorem below_set8 {W w : World} {B g : Nat} (h : Below B W w) (hg : B ≤ g) (o : Nat) (a b c d e f i j : Value) : Below B W (set8 w g o a b c d e f i j) :=
  (((((((h.setCell hg _).setCell hg _).setCell hg _).setCell hg _).setCell hg _).setCell hg _).setCell hg _).setCell hg _
theorem heap_set8 (w : World) (g o : Nat) (a b c d e f i j : Value) (p : Nat) (hp : p ≠ g) : (set8 w g o a b c d e f i j).heap[p]? = w.heap[p]? := by
  unfold set8
  simp only [Below.heap_setCell _ _ _ p (show p ≠ (⟨g, _, none⟩ : Addr).block from hp)]
theorem grown_set8 (w : World) (g o : Nat) (a b c d e f i j : Value) : w.grownBy (set8 w g o a b c d e f i j) (some g) := by
  have h := below_set8 (Below.refl 0 w) (Nat.zero_le g) o a b c d e f i j
  exact ⟨h.os, h.tape, h.output, h.size, fun p _ hne => heap_set8 w g o a b c d e f i j p (by intro e; exact hne (by rw [e]))⟩

/-- The entry that a frame of that kind holds. -/
def unE (kind : Int) (l : List Int) : Option En :=
  if kind = 1 then
    match tvT l with
    | none => none
    | some (v, r) => match tvT r with
      | none => none
      | some (w, q) => if (q.length : Int) = 0 then some ⟨kind, v, w, zeroR⟩ else none
  else if kind = 2 then (if atOk l 0 = true ∧ 12 + hdN l = (l.length : Int) then some ⟨kind, [], [], rdR l⟩ else none)
  else if kind = 3 then
    match tvT l with
    | none => none
    | some (w, q) => if (q.length : Int) = 0 then some ⟨kind, [], w, zeroR⟩ else none
  else none
def unpT (kind : Int) (l : List Int) (w : World) (x : Ending) (w' : World) : Prop :=
  ∃ d a b, x = .returned (.tuple #[.agg #[.int .i64 d.k, a, b, .int .i64 d.r.o, .int .i64 d.r.s, .int .i64 d.r.w, .int .i64 d.r.c, .string d.r.t], .bool (unE kind l).isSome]) ∧ (∀ e, unE kind l = some e → d = e) ∧ Row w' w.heap.size a d.v ∧ Row w' w.heap.size b d.w ∧ apart a b ∧ Below w.heap.size w w'
theorem unpT_of {kind : Int} {l : List Int} {w w' : World} (d : En) (a b : Value) (S : Bool) (hS : (unE kind l).isSome = S) (hd : ∀ e, unE kind l = some e → d = e) (ha : Row w' w.heap.size a d.v) (hb : Row w' w.heap.size b d.w) (hp : apart a b) (hB : Below w.heap.size w w') :
    unpT kind l w (.returned (.tuple #[.agg #[.int .i64 d.k, a, b, .int .i64 d.r.o, .int .i64 d.r.s, .int .i64 d.r.w, .int .i64 d.r.c, .string d.r.t], .bool S])) w' := by
  subst hS
  exact ⟨d, a, b, rfl, hd, ha, hb, hp, hB⟩

theorem row_set8 {w : World} {B g o : Nat} {v : Value} {l : List Int} (h : Row w B v l) (hg : v.ownBlock ≠ some g) (a b c d e f i j : Value) : Row (set8 w g o a b c d e f i j) B v l :=
  h.far (grown_set8 w g o a b c d e f i j) (by rintro g' hg' g'' hg'' rfl; cases hg'; exact hg hg'')

theorem tvT_cons (c : Int) (r : List Int) (h : 2 * c.toNat ≤ r.length) : tvT (c :: r) = some (unV r c.toNat, r.drop (2 * c.toNat)) := if_pos h
theorem tvT_short (c : Int) (r : List Int) (h : ¬ 2 * c.toNat ≤ r.length) : tvT (c :: r) = none := if_neg h
theorem tvR_ok {l : List Int} (h : OkB l) : OkB (tvR (tvT l)) ∧ (tvR (tvT l)).length ≤ l.length := by
  cases l with
  | nil => exact ⟨(fun x hx => by cases hx), Nat.le_refl _⟩
  | cons c r =>
    by_cases hp : 2 * c.toNat ≤ r.length
    · rw [tvT_cons c r hp]
      exact ⟨fun x hx => h x (List.mem_cons_of_mem _ (List.mem_of_mem_drop hx)), by simp [tvR]; omega⟩
    · rw [tvT_short c r hp]
      exact ⟨(fun x hx => by cases hx), Nat.zero_le _⟩
theorem unE_one {kind : Int} {l : List Int} (k : kind = 1) : (unE kind l).isSome = ((tvT l).isSome && ((tvT (tvR (tvT l))).isSome && (((tvR (tvT (tvR (tvT l)))).length : Int) == 0))) ∧ ∀ e, unE kind l = some e → (⟨kind, tvV (tvT l), tvV (tvT (tvR (tvT l))), zeroR⟩ : En) = e := by
  unfold unE
  rw [if_pos k]
  cases h1 : tvT l with
  | none => exact ⟨rfl, fun e h => by cases h⟩
  | some p =>
    obtain ⟨v, r⟩ := p
    simp only [tvR, tvV]
    cases h2 : tvT r with
    | none => exact ⟨rfl, fun e h => by cases h⟩
    | some q =>
      obtain ⟨w, t⟩ := q
      simp only
      by_cases h3 : (t.length : Int) = 0
      · rw [if_pos h3]
        refine ⟨by simp [h3], fun e h => by simpa using h⟩
      · rw [if_neg h3]
        refine ⟨?_, fun e h => by cases h⟩
        have : ((t.length : Int) == 0) = false := by simpa using h3
        simp [this]
theorem unE_three {kind : Int} {l : List Int} (k1 : ¬ kind = 1) (k2 : ¬ kind = 2) (k : kind = 3) : (unE kind l).isSome = ((tvT l).isSome && (((tvR (tvT l)).length : Int) == 0)) ∧ ∀ e, unE kind l = some e → (⟨kind, [], tvV (tvT l), zeroR⟩ : En) = e := by
  unfold unE
  rw [if_neg k1, if_neg k2, if_pos k]
  cases h1 : tvT l with
  | none => exact ⟨rfl, fun e h => by cases h⟩
  | some p =>
    obtain ⟨v, t⟩ := p
    simp only [tvR, tvV]
    by_cases h3 : (t.length : Int) = 0
    · rw [if_pos h3]
      refine ⟨by simp [h3], fun e h => by simpa using h⟩
    · rw [if_neg h3]
      refine ⟨?_, fun e h => by cases h⟩
      have : ((t.length : Int) == 0) = false := by simpa using h3
      simp [this]
/-- Bytes' room: how many there are. -/
theorem Bc.len {w : World} {A : Option Addr} {N C : Nat} {l : List Int} (h : Bc w (.slice A N C) l) : N = l.length := by
  obtain ⟨_, ad, cap, e, _⟩ := h
  simp only [Value.slice.injEq] at e
  exact e.2.1
theorem Row.off {w : World} {B g : Nat} {v : Value} {l : List Int} (h : Row w B v l) (hg : g < B) : v.ownBlock ≠ some g := fun e => by
  have := (World.ownsRow.lt h g e).1
  omega

set_option maxHeartbeats 8000000 in
theorem unpack_c (kind : Int) (l : List Int) (v : Value) (w : World) (h : Bc w v l) (ho : OkB l) (hl : l.length ≤ 1000000) (hT : Tabs w) :
    Calls Tryz.prog 91 #[.int .i64 kind, v] w (unpT kind l w) := by
  have HX := Lib.hid (Bx.new 43 w #[.int .i64 0, .slice none 0 0, .slice none 0 0, .int .i64 0, .int .i64 0, .int .i64 0, .int .i64 0, .string ⟨#[]⟩])
  have hA := Lib.hid (alloc_below w (.cells #[.int .i64 0, .slice none 0 0, .slice none 0 0, .int .i64 0, .int .i64 0, .int .i64 0, .int .i64 0, .string ⟨#[]⟩] 43))
  obtain ⟨W1, hW1⟩ : ∃ W1, W1 = w.alloc (.cells #[.int .i64 0, .slice none 0 0, .slice none 0 0, .int .i64 0, .int .i64 0, .int .i64 0, .int .i64 0, .string ⟨#[]⟩] 43) := ⟨_, rfl⟩
  rw [← hW1] at HX hA
  have hz : W1.heap.size = w.heap.size + 1 := by rw [hW1]; simp
  have CT := Lib.hid (takevec_c l v W1 (h.below hA.out) ho hl)
  have CR := Lib.hid (read_c l v 0 W1 (h.below hA.out).blc ho hl (by decide) (hT.below hA.out))
  obtain ⟨ad, cap, rfl, hcap⟩ := h.2
  by_cases k1 : kind = 1
  · have f1 : (kind == 1) = true := by simpa using k1
    obtain ⟨u1, u2⟩ := unE_one (l := l) k1
    obtain ⟨o2, l2⟩ := tvR_ok ho
    have HU2 := Lib.hid u2
    have HO2 := Lib.hid o2
    have hl2 : (tvR (tvT l)).length ≤ 1000000 := by omega
    unfold tvecT at CT
    clear k1 h ho hT CR u2 o2 l2 hl hcap
    generalize tvT l = t1 at CT u1 HU2 HO2 hl2
    generalize hS1 : t1.isSome = S1 at CT u1
    clear hS1
    go_enter Tryz.func91, Tryz.ntmps91
    go_wp2_with fail
    rw [← hW1]
    refine CT.out.mono ?_
    rintro x w2 ⟨V2, A2, N2, C2, rfl, h2, r2, b2⟩
    have CT2 := Lib.hid (takevec_c (tvR t1) _ w2 r2 HO2.out hl2)
    unfold tvecT at CT2
    generalize tvT (tvR t1) = t2 at CT2 u1 HU2
    generalize hS2 : t2.isSome = S2 at CT2 u1
    have HV2 := Lib.hid h2
    obtain ⟨adv, capv, rfl, _⟩ := h2.nl.form
    have hx2 := Lib.hid (HX.out.below b2)
    have HB2 := Lib.hid (bn hA.out b2)
    have hz2 := b2.size
    clear h2 b2 CT hS2
    go_wp2_with fail
    refine CT2.out.mono ?_
    rintro x w3 ⟨V3, A3, N3, C3, rfl, h3, r3, b3⟩
    have HV3 := Lib.hid h3
    obtain ⟨adw, capw, rfl, _⟩ := h3.nl.form
    have hx3 := Lib.hid (hx2.out.below b3)
    have HB3 := Lib.hid (bn HB2.out b3)
    have HV2' := Lib.hid (HV2.out.below b3)
    have hap := Lib.hid (apart_of_rows (B' := 0) HV2.out h3 (Nat.le_refl _) (Nat.zero_le _))
    obtain rfl := r3.len
    generalize hQ : (((tvR t2).length : Int) == 0) = Q at u1
    clear h3 b3 CT2
    have hl3 := hx3.out.lt
    obtain ⟨c0, c1, c2, c3, c4, c5, c6, c7⟩ := hx3.out.eight
    have s0 := hx3.out.soft 0
    have s1 := hx3.out.soft 1
    have s2 := hx3.out.soft 2
    have s3 := hx3.out.soft 3
    have s4 := hx3.out.soft 4
    have s5 := hx3.out.soft 5
    have s6 := hx3.out.soft 6
    have s7 := hx3.out.soft 7
    have HU1 := Lib.hid u1
    clear u1 r3 r2
    have fin : Hid (∀ S, (S1 && (S2 && Q)) = S → unpT kind l w (.returned (.tuple #[.agg #[.int .i64 kind, .slice adv (tvV t1).length capv, .slice adw (tvV t2).length capw, .int .i64 0, .int .i64 0, .int .i64 0, .int .i64 0, .string ⟨#[]⟩], .bool S])) (set8 w3 w.heap.size 0 (.int .i64 kind) (.slice adv (tvV t1).length capv) (.slice adw (tvV t2).length capw) (.int .i64 0) (.int .i64 0) (.int .i64 0) (.int .i64 0) (.string ⟨#[]⟩))) := Lib.hid (fun S hS =>
      unpT_of ⟨kind, tvV t1, tvV t2, zeroR⟩ _ _ S (HU1.out.trans hS) HU2.out
        (row_set8 (HV2'.out.mono (by omega)) (HV2'.out.off (by omega)) _ _ _ _ _ _ _ _)
        (row_set8 (HV3.out.mono (by omega)) (HV3.out.off (by omega)) _ _ _ _ _ _ _ _) hap.out (below_set8 HB3.out (Nat.le_refl _) _ _ _ _ _ _ _ _ _))
    cases S1
    · go_wp2
      exact bodyPost_ret (res_e2 Tryz.results91 _ w.heap.size rfl _ _ _ _ _ _ _ _ _ (hx3.out.set8 _ _ _ _ _ _ _ _)) rfl (fin.out _ rfl)
    · cases S2
      · go_wp2
        exact bodyPost_ret (res_e2 Tryz.results91 _ w.heap.size rfl _ _ _ _ _ _ _ _ _ (hx3.out.set8 _ _ _ _ _ _ _ _)) rfl (fin.out _ rfl)
      · go_wp2
        exact bodyPost_ret (res_e2 Tryz.results91 _ w.heap.size rfl _ _ _ _ _ _ _ _ _ (hx3.out.set8 _ _ _ _ _ _ _ _)) rfl (fin.out _ (by simp))
  · have f1 : (kind == 1) = false := by simpa using k1
    by_cases k2 : kind = 2
    · have f2 : (kind == 2) = true := by simpa using k2
      have CR2 : Hid (Calls Tryz.prog 115 #[.slice ad l.length cap, .int .i64 0] W1 fun x w' => ∃ (r : Rc) (n : Int) (S : Bool), x = .returned (.tuple #[.agg #[.int .i64 r.o, .int .i64 r.s, .int .i64 r.w, .int .i64 r.c, .string r.t], .int .i64 n, .bool S]) ∧ Hid ((unE kind l).isSome = (S && (n == (l.length : Int))) ∧ ∀ e, unE kind l = some e → (⟨kind, [], [], r⟩ : En) = e) ∧ Hid (Below W1.heap.size W1 w')) := Lib.hid (CR.out.mono (by
        intro x w' hx
        unfold readT at hx
        rw [show (0 : Int).toNat = 0 from rfl, List.drop_zero] at hx
        unfold unE
        rw [if_neg k1, if_pos k2]
        cases hk : atOk l 0 with
        | false =>
          rw [hk] at hx
          obtain ⟨rfl, hb⟩ := hx
          exact ⟨zeroR, 0, false, rfl, Lib.hid ⟨rfl, fun e he => by simp at he⟩, Lib.hid hb⟩
        | true =>
          rw [hk] at hx
          obtain ⟨rfl, hb⟩ := hx
          refine ⟨rdR l, _, true, rfl, Lib.hid ?_, Lib.hid hb⟩
          rw [show (0 : Int) + 12 + hdN l = 12 + hdN l from by omega]
          by_cases hq : 12 + hdN l = (l.length : Int)
          · rw [if_pos ⟨rfl, hq⟩]
            exact ⟨by simp [hq], fun e he => by simpa using he⟩
          · rw [if_neg (fun hh => hq hh.2)]
            refine ⟨?_, fun e he => by cases he⟩
            have : (12 + hdN l == (l.length : Int)) = false := by simpa using hq
            simp [this]))
      clear CT CR k1 k2 h ho hT
      go_enter Tryz.func91, Tryz.ntmps91
      go_wp2_with fail
      rw [← hW1]
      refine CR2.out.mono ?_
      rintro x w2 ⟨r, n, S, rfl, HU, b2⟩
      have hx2 := HX.out.below b2.out
      have HX2 := Lib.hid hx2
      have HB2 := Lib.hid (bn hA.out b2.out)
      have hl2 := hx2.lt
      clear b2 CR2 HX
      obtain ⟨c0, c1, c2, c3, c4, c5, c6, c7⟩ := hx2.eight
      have s0 := hx2.soft 0
      have s1 := hx2.soft 1
      have s2 := hx2.soft 2
      have s3 := hx2.soft 3
      have s4 := hx2.soft 4
      have s5 := hx2.soft 5
      have s6 := hx2.soft 6
      have s7 := hx2.soft 7
      clear hx2
      generalize hQ : (n == (l.length : Int)) = Q at HU
      have fin : Hid (∀ T, (S && Q) = T → unpT kind l w (.returned (.tuple #[.agg #[.int .i64 kind, .slice none 0 0, .slice none 0 0, .int .i64 r.o, .int .i64 r.s, .int .i64 r.w, .int .i64 r.c, .string r.t], .bool T])) ((set8 w2 w.heap.size 0 (.int .i64 kind) (.slice none 0 0) (.slice none 0 0) (.int .i64 r.o) (.int .i64 r.s) (.int .i64 r.w) (.int .i64 r.c) (.string r.t)).alloc (.cells #[.int .i64 r.o, .int .i64 r.s, .int .i64 r.w, .int .i64 r.c, .string r.t] 41))) := Lib.hid (fun T hS =>
        unpT_of ⟨kind, [], [], r⟩ _ _ T (HU.out.1.trans hS) HU.out.2 (Row.nil _ _) (Row.nil _ _) (apart_nil _) ((below_set8 HB2.out (Nat.le_refl _) _ _ _ _ _ _ _ _ _).alloc (below_set8 HB2.out (Nat.le_refl _) _ _ _ _ _ _ _ _ _).size _))
      cases S
      · go_wp2
        exact bodyPost_ret (res_e2 Tryz.results91 _ w.heap.size rfl _ _ _ _ _ _ _ _ _ ((HX2.out.set8 _ _ _ _ _ _ _ _).alloc _)) rfl (fin.out _ rfl)
      · go_wp2
        exact bodyPost_ret (res_e2 Tryz.results91 _ w.heap.size rfl _ _ _ _ _ _ _ _ _ ((HX2.out.set8 _ _ _ _ _ _ _ _).alloc _)) rfl (fin.out _ (by simp))
    · have f2 : (kind == 2) = false := by simpa using k2
      by_cases k3 : kind = 3
      · have f3 : (kind == 3) = true := by simpa using k3
        obtain ⟨u1, u2⟩ := unE_three (l := l) k1 k2 k3
        have HU2 := Lib.hid u2
        unfold tvecT at CT
        clear k1 k2 k3 h ho hT CR u2 hl hcap
        generalize tvT l = t1 at CT u1 HU2
        generalize hS1 : t1.isSome = S1 at CT u1
        clear hS1
        go_enter Tryz.func91, Tryz.ntmps91
        go_wp2_with fail
        rw [← hW1]
        refine CT.out.mono ?_
        rintro x w3 ⟨V3, A3, N3, C3, rfl, h3, r3, b3⟩
        have HV3 := Lib.hid h3
        obtain ⟨adw, capw, rfl, _⟩ := h3.nl.form
        have hx3 := Lib.hid (HX.out.below b3)
        have HB3 := Lib.hid (bn hA.out b3)
        obtain rfl := r3.len
        generalize hQ : (((tvR t1).length : Int) == 0) = Q at u1
        clear h3 b3 CT
        have hl3 := hx3.out.lt
        obtain ⟨c0, c1, c2, c3, c4, c5, c6, c7⟩ := hx3.out.eight
        have s0 := hx3.out.soft 0
        have s1 := hx3.out.soft 1
        have s2 := hx3.out.soft 2
        have s3 := hx3.out.soft 3
        have s4 := hx3.out.soft 4
        have s5 := hx3.out.soft 5
        have s6 := hx3.out.soft 6
        have s7 := hx3.out.soft 7
        have HU1 := Lib.hid u1
        clear u1 r3
        have fin : Hid (∀ S, (S1 && Q) = S → unpT kind l w (.returned (.tuple #[.agg #[.int .i64 kind, .slice none 0 0, .slice adw (tvV t1).length capw, .int .i64 0, .int .i64 0, .int .i64 0, .int .i64 0, .string ⟨#[]⟩], .bool S])) (set8 w3 w.heap.size 0 (.int .i64 kind) (.slice none 0 0) (.slice adw (tvV t1).length capw) (.int .i64 0) (.int .i64 0) (.int .i64 0) (.int .i64 0) (.string ⟨#[]⟩))) := Lib.hid (fun S hS =>
          unpT_of ⟨kind, [], tvV t1, zeroR⟩ _ _ S (HU1.out.trans hS) HU2.out (Row.nil _ _)
            (row_set8 (HV3.out.mono (by omega)) (HV3.out.off (by omega)) _ _ _ _ _ _ _ _) (apart_nil _) (below_set8 HB3.out (Nat.le_refl _) _ _ _ _ _ _ _ _ _))
        cases S1
        · go_wp2
          exact bodyPost_ret (res_e2 Tryz.results91 _ w.heap.size rfl _ _ _ _ _ _ _ _ _ (hx3.out.set8 _ _ _ _ _ _ _ _)) rfl (fin.out _ rfl)
        · go_wp2
          exact bodyPost_ret (res_e2 Tryz.results91 _ w.heap.size rfl _ _ _ _ _ _ _ _ _ (hx3.out.set8 _ _ _ _ _ _ _ _)) rfl (fin.out _ (by simp))
      · have f3 : (kind == 3) = false := by simpa using k3
        have HU : Hid (unE kind l = none) := Lib.hid (by unfold unE; rw [if_neg k1, if_neg k2, if_neg k3])
        clear k1 k2 k3 h ho hT CR CT
        go_enter Tryz.func91, Tryz.ntmps91
        go_wp2
        refine bodyPost_ret (v := .tuple #[.agg #[.int .i64 0, .slice none 0 0, .slice none 0 0, .int .i64 0, .int .i64 0, .int .i64 0, .int .i64 0, .string ⟨#[]⟩], .bool false]) (by simp [results, Tryz.results91, go_sem]) rfl ?_
        exact unpT_of ⟨0, [], [], zeroR⟩ _ _ false (by rw [HU.out]; rfl) (fun e he => by rw [HU.out] at he; cases he) (Row.nil _ _) (Row.nil _ _) (apart_nil _) (by rw [← hW1]; exact hA.out)
end Go.Proofs.YtjmkphnppegegaaGreatDoor
/-
  next, by contract: the entry that stands at a place.
-/
namespace Go.Proofs.YtjmkphnppegegaaGreatDoor
open Go.RowKit Go.Lib
set_option maxRecDepth 100000

/-- The entry at place a, one that may be for n, and the place behind it. -/
def nextE (l : List Int) (a : Int) (n : Int) : Option (En × Int) :=
  match nxT l a with
  | none => none
  | some (k, m) => match unE k (nxL l a (some (k, m))) with
    | none => none
    | some e => if mayE e n = true then some (e, a + ((m : Int) + 12)) else none
def nexT (l : List Int) (a : Int) (n : Int) (w : World) (x : Ending) (w' : World) : Prop :=
  ∃ d A B E, x = .returned (.tuple #[.agg #[.int .i64 d.k, A, B, .int .i64 d.r.o, .int .i64 d.r.s, .int .i64 d.r.w, .int .i64 d.r.c, .string d.r.t], .int .i64 E, .bool (nextE l a n).isSome]) ∧ (∀ e E', nextE l a n = some (e, E') → d = e ∧ E = E') ∧ Row w' w.heap.size A d.v ∧ Row w' w.heap.size B d.w ∧ apart A B ∧ Below w.heap.size w w'
theorem nexT_no {l : List Int} {a n : Int} {w w' : World} (h : nextE l a n = none) (hB : Below w.heap.size w w') :
    nexT l a n w (.returned (.tuple #[.agg #[.int .i64 0, .slice none 0 0, .slice none 0 0, .int .i64 0, .int .i64 0, .int .i64 0, .int .i64 0, .string ⟨#[]⟩], .int .i64 0, .bool false])) w' := by
  unfold nexT
  rw [h]
  exact ⟨⟨0, [], [], zeroR⟩, _, _, _, rfl, (fun _ _ h => by cases h), Row.nil _ _, Row.nil _ _, apart_nil _, hB⟩
theorem nexT_yes {l : List Int} {a n E : Int} {d : En} {A B : Value} {w w' : World} (h : nextE l a n = some (d, E)) (ha : Row w' w.heap.size A d.v) (hb : Row w' w.heap.size B d.w) (hp : apart A B) (hB : Below w.heap.size w w') :
    nexT l a n w (.returned (.tuple #[.agg #[.int .i64 d.k, A, B, .int .i64 d.r.o, .int .i64 d.r.s, .int .i64 d.r.w, .int .i64 d.r.c, .string d.r.t], .int .i64 E, .bool true])) w' := by
  unfold nexT
  rw [h]
  exact ⟨d, A, B, E, rfl, (fun _ _ h => by cases h; exact ⟨rfl, rfl⟩), ha, hb, hp, hB⟩

theorem unE_bounds {k : Int} {l : List Int} {e : En} (h : unE k l = some e) : e.v.length ≤ l.length ∧ e.w.length ≤ l.length ∧ e.r.t.size ≤ 120 ∧ e.k = k := by
  have hv : ∀ {l x r : List Int}, tvT l = some (x, r) → x.length ≤ l.length ∧ r.length ≤ l.length := by
    intro l x r h
    cases l with
    | nil => cases h
    | cons c t =>
      by_cases hp : 2 * c.toNat ≤ t.length
      · rw [tvT_cons c t hp] at h
        simp only [Option.some.injEq, Prod.mk.injEq] at h
        obtain ⟨rfl, rfl⟩ := h
        rw [unV_len]
        simp
        omega
      · rw [tvT_short c t hp] at h
        cases h
  unfold unE at h
  split at h
  · split at h
    · cases h
    · rename_i v r h1
      split at h
      · cases h
      · rename_i w q h2
        split at h
        · simp only [Option.some.injEq] at h
          subst h
          have := hv h1
          have := hv h2
          exact ⟨by simp; omega, by simp; omega, (show (0 : Nat) ≤ 120 from by decide), rfl⟩
        · cases h
  · split at h
    · split at h
      · rename_i h3
        simp only [Option.some.injEq] at h
        subst h
        refine ⟨by simp, by simp, ?_, rfl⟩
        have h4 := h3.1
        unfold atOk rdOk at h4
        simp only [Bool.and_eq_true] at h4
        exact mayR_size (by simpa using h4.2.2.2.2)
      · cases h
    · split at h
      · split at h
        · cases h
        · rename_i w q h1
          split at h
          · simp only [Option.some.injEq] at h
            subst h
            have := hv h1
            exact ⟨by simp, by simp; omega, (show (0 : Nat) ≤ 120 from by decide), rfl⟩
          · cases h
      · cases h
theorem nxL_ok {l : List Int} (h : OkB l) (a : Int) (p : Option (Int × Nat)) : OkB (nxL l a p) ∧ (nxL l a p).length ≤ l.length := by
  cases p with
  | none => exact ⟨(fun x hx => by cases hx), Nat.zero_le _⟩
  | some p => exact ⟨((h.drop _).drop _).take _, by simp [nxL]; omega⟩

set_option maxHeartbeats 8000000 in
theorem nexte_c (l : List Int) (v : Value) (a n : Int) (w : World) (h : Bc w v l) (ho : OkB l) (hl : l.length ≤ 1000000) (hT : Tabs w) :
    Calls Tryz.prog 69 #[v, .int .i64 a, .int .i64 n] w (nexT l a n w) := by
  have HX := Lib.hid (Bx.new 43 w #[.int .i64 0, .slice none 0 0, .slice none 0 0, .int .i64 0, .int .i64 0, .int .i64 0, .int .i64 0, .string ⟨#[]⟩])
  have hA := Lib.hid (alloc_below w (.cells #[.int .i64 0, .slice none 0 0, .slice none 0 0, .int .i64 0, .int .i64 0, .int .i64 0, .int .i64 0, .string ⟨#[]⟩] 43))
  obtain ⟨W1, hW1⟩ : ∃ W1, W1 = w.alloc (.cells #[.int .i64 0, .slice none 0 0, .slice none 0 0, .int .i64 0, .int .i64 0, .int .i64 0, .int .i64 0, .string ⟨#[]⟩] 43) := ⟨_, rfl⟩
  rw [← hW1] at HX hA
  have hz : W1.heap.size = w.heap.size + 1 := by rw [hW1]; simp
  have CN := Lib.hid (next_c l v a W1 (h.below hA.out) ho hl)
  have HT := Lib.hid hT
  have HO := Lib.hid ho
  obtain ⟨ad, cap, rfl, hcap⟩ := h.2
  clear h hT ho
  unfold nextT at CN
  cases hn : nxT l a with
  | none =>
    rw [hn] at CN
    have HE : Hid (nextE l a n = none) := Lib.hid (by unfold nextE; rw [hn])
    clear hn
    go_enter Tryz.func69, Tryz.ntmps69
    go_wp2_with fail
    rw [← hW1]
    refine CN.out.mono ?_
    rintro x w2 ⟨V2, rfl, h2, b2⟩
    have hx2 := HX.out.below b2
    have HX2 := Lib.hid hx2
    have HB2 := Lib.hid (bn hA.out b2)
    have hl2 := hx2.lt
    clear b2 CN HX
    obtain ⟨c0, c1, c2, c3, c4, c5, c6, c7⟩ := hx2.eight
    have s0 := hx2.soft 0
    have s1 := hx2.soft 1
    have s2 := hx2.soft 2
    have s3 := hx2.soft 3
    have s4 := hx2.soft 4
    have s5 := hx2.soft 5
    have s6 := hx2.soft 6
    have s7 := hx2.soft 7
    clear hx2
    go_wp2
    exact bodyPost_ret (res_e3 Tryz.results69 _ w.heap.size rfl _ _ _ _ _ _ _ _ _ (HX2.out.set8 _ _ _ _ _ _ _ _)) rfl (nexT_no HE.out (below_set8 HB2.out (Nat.le_refl _) _ _ _ _ _ _ _ _ _))
  | some p =>
    obtain ⟨k, m⟩ := p
    rw [hn] at CN
    have HNE : Hid (nextE l a n = match unE k (nxL l a (some (k, m))) with
      | none => none
      | some e => if mayE e n = true then some (e, a + ((m : Int) + 12)) else none) := Lib.hid (by unfold nextE; rw [hn])
    obtain ⟨ok2, len2⟩ := nxL_ok HO.out a (some (k, m))
    have HO2 := Lib.hid ok2
    have hl2 : (nxL l a (some (k, m))).length ≤ 1000000 := by omega
    simp only [nxK, nxE, Option.isSome] at CN
    generalize nxL l a (some (k, m)) = L2 at CN HNE HO2 hl2
    generalize a + ((m : Int) + 12) = E at CN HNE
    clear ok2 len2 hn
    go_enter Tryz.func69, Tryz.ntmps69
    go_wp2_with fail
    rw [← hW1]
    refine CN.out.mono ?_
    rintro x w2 ⟨V2, rfl, h2, b2⟩
    have HX2 := Lib.hid (HX.out.below b2)
    have HB2 := Lib.hid (bn hA.out b2)
    have hz2 := b2.size
    have CU := Lib.hid (unpack_c k L2 V2 w2 h2.bc HO2.out hl2 (HT.out.below HB2.out))
    obtain ⟨ad2, cap2, rfl, _⟩ := h2.nl.form
    clear b2 CN HX h2
    unfold unpT at CU
    cases hu : unE k L2 with
    | none =>
      rw [hu] at CU
      have HE : Hid (nextE l a n = none) := Lib.hid (by have := HNE.out; rw [hu] at this; exact this)
      clear hu HNE
      go_wp2_with fail
      refine CU.out.mono ?_
      rintro x w3 ⟨d, A, B, rfl, hd, hA3, hB3, hap, b3⟩
      obtain ⟨adA, capA, rfl, _⟩ := hA3.nl.form
      obtain ⟨adB, capB, rfl, _⟩ := hB3.nl.form
      have hx3 := HX2.out.below b3
      have HX3 := Lib.hid hx3
      have HB3 := Lib.hid (bn HB2.out b3)
      have hl3 := hx3.lt
      clear b3 CU HX2 hd hA3 hB3 hap
      obtain ⟨c0, c1, c2, c3, c4, c5, c6, c7⟩ := hx3.eight
      have s0 := hx3.soft 0
      have s1 := hx3.soft 1
      have s2 := hx3.soft 2
      have s3 := hx3.soft 3
      have s4 := hx3.soft 4
      have s5 := hx3.soft 5
      have s6 := hx3.soft 6
      have s7 := hx3.soft 7
      clear hx3
      go_wp2
      exact bodyPost_ret (res_e3 Tryz.results69 _ w.heap.size rfl _ _ _ _ _ _ _ _ _ ((HX3.out.set8 _ _ _ _ _ _ _ _).alloc _)) rfl (nexT_no HE.out ((below_set8 HB3.out (Nat.le_refl _) _ _ _ _ _ _ _ _ _).alloc (below_set8 HB3.out (Nat.le_refl _) _ _ _ _ _ _ _ _ _).size _))
    | some e =>
      rw [hu] at CU
      obtain ⟨q1, q2, q3, q4⟩ := unE_bounds hu
      have HNE' : Hid (nextE l a n = if mayE e n = true then some (e, E) else none) := Lib.hid (by have := HNE.out; rw [hu] at this; exact this)
      clear hu HNE
      go_wp2_with fail
      refine CU.out.mono ?_
      rintro x w3 ⟨d, A, B, rfl, hd, hA3, hB3, hap, b3⟩
      obtain rfl := hd e rfl
      have hq3 : d.r.t.size ≤ 9223372036854775807 := by omega
      have HB3 := Lib.hid (bn HB2.out b3)
      obtain ⟨W4, hW4⟩ : ∃ W4, W4 = w3.alloc (.cells #[.int .i64 d.k, A, B, .int .i64 d.r.o, .int .i64 d.r.s, .int .i64 d.r.w, .int .i64 d.r.c, .string d.r.t] 43) := ⟨_, rfl⟩
      have hb4 : Below w3.heap.size w3 W4 := by rw [hW4]; exact alloc_below _ _
      have HX4 := Lib.hid ((HX2.out.below b3).below hb4)
      have HD4 : Hid (Bx 43 W4 w3.heap.size #[.int .i64 d.k, A, B, .int .i64 d.r.o, .int .i64 d.r.s, .int .i64 d.r.w, .int .i64 d.r.c, .string d.r.t]) := Lib.hid (by rw [hW4]; exact Bx.new _ _ _)
      have HB4 := Lib.hid (bn HB3.out hb4)
      have HA4 := Lib.hid (hA3.below hb4)
      have HBB4 := Lib.hid (hB3.below hb4)
      have hz3 := b3.size
      have hz4 := hb4.size
      have CM := Lib.hid (maye_c d A B n W4 HA4.out.nl HBB4.out.nl (by omega) (by omega) hq3 (HT.out.below HB4.out))
      have HAP := Lib.hid hap
      obtain ⟨adA, capA, rfl, _⟩ := hA3.nl.form
      obtain ⟨adB, capB, rfl, _⟩ := hB3.nl.form
      have hl4 := HX4.out.lt
      have hl5 := HD4.out.lt
      clear b3 CU HX2 hd hA3 hB3 hap hb4 q1 q2 q3 q4
      cases hm : mayE d n with
      | false =>
        rw [hm] at CM HNE'
        have HE : Hid (nextE l a n = none) := Lib.hid (by have := HNE'.out; rwa [if_neg (by decide)] at this)
        clear hm HNE'
        go_wp2_with fail
        rw [← hW4]
        refine CM.out.mono ?_
        rintro x w5 ⟨rfl, b5⟩
        have hx5 := HX4.out.below b5
        have HX5 := Lib.hid hx5
        have HB5 := Lib.hid (bn HB4.out b5)
        have hl6 := hx5.lt
        clear b5 CM HX4
        obtain ⟨c0, c1, c2, c3, c4, c5, c6, c7⟩ := hx5.eight
        have s0 := hx5.soft 0
        have s1 := hx5.soft 1
        have s2 := hx5.soft 2
        have s3 := hx5.soft 3
        have s4 := hx5.soft 4
        have s5 := hx5.soft 5
        have s6 := hx5.soft 6
        have s7 := hx5.soft 7
        clear hx5
        go_wp2
        exact bodyPost_ret (res_e3 Tryz.results69 _ w.heap.size rfl _ _ _ _ _ _ _ _ _ (HX5.out.set8 _ _ _ _ _ _ _ _)) rfl (nexT_no HE.out (below_set8 HB5.out (Nat.le_refl _) _ _ _ _ _ _ _ _ _))
      | true =>
        rw [hm] at CM HNE'
        have HE : Hid (nextE l a n = some (d, E)) := Lib.hid (by have := HNE'.out; rwa [if_pos rfl] at this)
        clear hm HNE'
        go_wp2_with fail
        rw [← hW4]
        refine CM.out.mono ?_
        rintro x w5 ⟨rfl, b5⟩
        have hx5 := HX4.out.below b5
        have HX5 := Lib.hid hx5
        have hd5 := HD4.out.below b5
        have HB5 := Lib.hid (bn HB4.out b5)
        have HA5 := Lib.hid (HA4.out.below b5)
        have HBB5 := Lib.hid (HBB4.out.below b5)
        have hl6 := hx5.lt
        have hl7 := hd5.lt
        clear b5 CM HX4 HD4 HA4 HBB4
        obtain ⟨c0, c1, c2, c3, c4, c5, c6, c7⟩ := hx5.eight
        obtain ⟨d0, d1, d2, d3, d4, d5, d6, d7⟩ := hd5.eight
        have s0 := hx5.soft 0
        have s1 := hx5.soft 1
        have s2 := hx5.soft 2
        have s3 := hx5.soft 3
        have s4 := hx5.soft 4
        have s5 := hx5.soft 5
        have s6 := hx5.soft 6
        have s7 := hx5.soft 7
        clear hx5 hd5
        go_wp2
        exact bodyPost_ret (res_e3 Tryz.results69 _ w.heap.size rfl _ _ _ _ _ _ _ _ _ (HX5.out.set8 _ _ _ _ _ _ _ _)) rfl (nexT_yes HE.out (row_set8 (HA5.out.mono (by omega)) (HA5.out.off (by omega)) _ _ _ _ _ _ _ _) (row_set8 (HBB5.out.mono (by omega)) (HBB5.out.off (by omega)) _ _ _ _ _ _ _ _) HAP.out (below_set8 HB5.out (Nat.le_refl _) _ _ _ _ _ _ _ _ _))
end Go.Proofs.YtjmkphnppegegaaGreatDoor
/-
  Rows of entries in memory, of one's own; read; what stays of them.
-/
namespace Go.Proofs.YtjmkphnppegegaaGreatDoor
open Go.RowKit Go.Lib
set_option maxRecDepth 100000

/-- An entry with the values of its two lists. -/
structure Ev where
  e : En
  a : Value
  b : Value
def cs8 : List Ev → List Value
  | [] => []
  | x :: t => .int .i64 x.e.k :: x.a :: x.b :: .int .i64 x.e.r.o :: .int .i64 x.e.r.s :: .int .i64 x.e.r.w :: .int .i64 x.e.r.c :: .string x.e.r.t :: cs8 t
theorem cs8_len : ∀ l : List Ev, (cs8 l).length = l.length * 8
  | [] => rfl
  | p :: t => by simp [cs8, cs8_len t]; omega
theorem cs8_app : ∀ (l l' : List Ev), cs8 (l ++ l') = cs8 l ++ cs8 l'
  | [], _ => rfl
  | p :: t, l' => by simp [cs8, cs8_app t l']
theorem cs8_at : ∀ (l : List Ev) (k : Nat) (hk : k < l.length), (cs8 l)[k * 8]? = some (.int .i64 l[k].e.k) ∧ (cs8 l)[k * 8 + 1]? = some l[k].a ∧ (cs8 l)[k * 8 + 2]? = some l[k].b ∧ (cs8 l)[k * 8 + 3]? = some (.int .i64 l[k].e.r.o) ∧ (cs8 l)[k * 8 + 4]? = some (.int .i64 l[k].e.r.s) ∧ (cs8 l)[k * 8 + 5]? = some (.int .i64 l[k].e.r.w) ∧ (cs8 l)[k * 8 + 6]? = some (.int .i64 l[k].e.r.c) ∧ (cs8 l)[k * 8 + 7]? = some (.string l[k].e.r.t)
  | [], _, hk => by simp at hk
  | p :: t, 0, _ => by simp [cs8]
  | p :: t, k + 1, hk => by
    have h := cs8_at t k (by simpa using hk)
    rw [show (k + 1) * 8 = k * 8 + 1 + 1 + 1 + 1 + 1 + 1 + 1 + 1 from by omega]
    simp only [cs8, List.getElem?_cons_succ, List.getElem_cons_succ]
    exact h
/-- The row v, of one's own from block B on, holds the entries l. -/
def ERow (w : World) (B : Nat) (v : Value) (l : List Ev) : Prop := w.ownsRow B 43 8 v l.length (cs8 l)
def flat : List Ev → List Value
  | [] => []
  | x :: t => x.a :: x.b :: flat t
theorem flat_app : ∀ (l m : List Ev), flat (l ++ m) = flat l ++ flat m
  | [], _ => rfl
  | x :: t, m => by simp [flat, flat_app t m]
theorem mem_flat {v : Value} : ∀ {l : List Ev}, v ∈ flat l → ∃ x ∈ l, v = x.a ∨ v = x.b
  | [], h => by cases h
  | x :: t, h => by
    simp only [flat, List.mem_cons] at h
    rcases h with rfl | rfl | h
    · exact ⟨x, List.mem_cons_self .., .inl rfl⟩
    · exact ⟨x, List.mem_cons_self .., .inr rfl⟩
    · obtain ⟨y, hy, e⟩ := mem_flat h
      exact ⟨y, List.mem_cons_of_mem _ hy, e⟩
/-- .. with their lists, each one's own too. -/
structure EOwn (w : World) (B : Nat) (v : Value) (l : List Ev) : Prop where
  row : ERow w B v l
  rows : ∀ x ∈ l, Row w B x.a x.e.v ∧ Row w B x.b x.e.w
  pw : (flat l).Pairwise apart
theorem EOwn.nil (w : World) (B : Nat) : EOwn w B (.slice none 0 0) [] := ⟨World.ownsRow_nil _ _ _ _, (fun _ h => by cases h), List.Pairwise.nil⟩
theorem EOwn.below {w w' : World} {B : Nat} {v : Value} {l : List Ev} (h : EOwn w B v l) (hb : Below w.heap.size w w') : EOwn w' B v l :=
  ⟨own_below h.row hb, fun x hx => ⟨(h.rows x hx).1.below hb, (h.rows x hx).2.below hb⟩, h.pw⟩
theorem EOwn.mono {w : World} {B B' : Nat} {v : Value} {l : List Ev} (h : EOwn w B v l) (hb : B' ≤ B) : EOwn w B' v l :=
  ⟨own_mono h.row hb, fun x hx => ⟨(h.rows x hx).1.mono hb, (h.rows x hx).2.mono hb⟩, h.pw⟩
theorem tags_apart {w : World} {B B' : Nat} {v a : Value} {n : Nat} {xs : List Value} {l : List Int} (hv : w.ownsRow B 43 8 v n xs) (ha : Row w B' a l) : apart v a := fun g hg hg' => by
  rcases hv.2 with ⟨rfl, _⟩ | ⟨g1, cap, cur, rfl, _, h1, _⟩
  · cases hg
  · rcases ha.2 with ⟨rfl, _⟩ | ⟨g2, cap', cur', rfl, _, h2, _⟩
    · cases hg'
    · simp only [Value.ownBlock, Option.some.injEq] at hg hg'
      subst hg
      subst hg'
      rw [h1] at h2
      simp only [Option.some.injEq, Obj.cells.injEq] at h2
      exact absurd h2.2.1 (by decide)
theorem entryInfo : (Tryz.prog.info? 43).map (fun i => (i.zero, i.size, i.bytes)) = some (some (.agg #[.int .i64 0, .slice none 0 0, .slice none 0 0, .int .i64 0, .int .i64 0, .int .i64 0, .int .i64 0, .string ⟨#[]⟩]), 8, 104) := by kernel_rfl
theorem cell_eight_new (w : World) (a b c d e f i j : Value) (t : TypeId) : ∀ k u, [a, b, c, d, e, f, i, j][k]? = some u → (w.alloc (.cells #[a, b, c, d, e, f, i, j] t)).cell? ((⟨w.heap.size, 0, none⟩ : Addr).add k) = some u := by
  intro k u hk
  match k, hk with
  | 0, hj => simp at hj; subst hj; simp [Addr.add]
  | 1, hj => simp at hj; subst hj; simp [Addr.add]
  | 2, hj => simp at hj; subst hj; simp [Addr.add]
  | 3, hj => simp at hj; subst hj; simp [Addr.add]
  | 4, hj => simp at hj; subst hj; simp [Addr.add]
  | 5, hj => simp at hj; subst hj; simp [Addr.add]
  | 6, hj => simp at hj; subst hj; simp [Addr.add]
  | 7, hj => simp at hj; subst hj; simp [Addr.add]
  | k + 8, hj => simp at hj
/-- One entry more. -/
theorem EOwn.push {w w1 w' : World} {B : Nat} {v v' : Value} {l : List Ev} (h : EOwn w B v l) (x : Ev) (hb : Below w.heap.size w w1) (hB : B ≤ w.heap.size) (ha : Row w1 w.heap.size x.a x.e.v) (hc : Row w1 w.heap.size x.b x.e.w) (hp : apart x.a x.b)
    (hr : w'.ownsRow B 43 8 v' (l.length + 1) (cs8 l ++ cs8 [x])) (hg : w1.grownBy w' v.ownBlock) : EOwn w' B v' (l ++ [x]) := by
  have h1 := h.below hb
  have far : ∀ {a : Value} {m : List Int} {B' : Nat}, Row w1 B' a m → Row w' B' a m := fun {a m B'} hr => hr.far hg (by
    rintro g hg' g' hg'' rfl
    exact tags_apart h1.row hr g hg' hg'')
  refine ⟨?_, ?_, ?_⟩
  · unfold ERow
    rw [cs8_app, List.length_append]
    exact hr
  · intro y hy
    rcases List.mem_append.1 hy with hy | hy
    · exact ⟨far (h1.rows y hy).1, far (h1.rows y hy).2⟩
    · rw [List.mem_singleton] at hy
      subst hy
      exact ⟨(far ha).mono hB, (far hc).mono hB⟩
  · rw [flat_app, List.pairwise_append]
    refine ⟨h.pw, ?_, ?_⟩
    · simp only [flat, List.pairwise_cons, List.not_mem_nil, false_imp_iff, implies_true, List.Pairwise.nil, and_true, List.mem_singleton, forall_eq]
      exact hp
    · intro u hu y hy g hg1 hg2
      obtain ⟨z, hz, hu⟩ := mem_flat hu
      have hlt : g < w.heap.size := by
        rcases hu with rfl | rfl
        · exact (World.ownsRow.lt (h.rows z hz).1 g hg1).2
        · exact (World.ownsRow.lt (h.rows z hz).2 g hg1).2
      simp only [flat, List.mem_cons, List.not_mem_nil, or_false] at hy
      rcases hy with rfl | rfl
      · have := (World.ownsRow.lt ha g hg2).1
        omega
      · have := (World.ownsRow.lt hc g hg2).1
        omega

/-- The entry x stands at place p of block b, and can be read. -/
def EvAt (w : World) (b p : Nat) (x : Ev) : Prop :=
  (w.cell? ⟨b, p, none⟩ = some (.int .i64 x.e.k) ∧ w.cell? ⟨b, p + 1, none⟩ = some x.a ∧ w.cell? ⟨b, p + 2, none⟩ = some x.b ∧ w.cell? ⟨b, p + 3, none⟩ = some (.int .i64 x.e.r.o) ∧ w.cell? ⟨b, p + 4, none⟩ = some (.int .i64 x.e.r.s) ∧ w.cell? ⟨b, p + 5, none⟩ = some (.int .i64 x.e.r.w) ∧ w.cell? ⟨b, p + 6, none⟩ = some (.int .i64 x.e.r.c) ∧ w.cell? ⟨b, p + 7, none⟩ = some (.string x.e.r.t)) ∧ Nl w x.a x.e.v ∧ Nl w x.b x.e.w
theorem EvAt.below {w w' : World} {b p : Nat} {x : Ev} (h : EvAt w b p x) (hb : Below w.heap.size w w') : EvAt w' b p x := by
  have kk : ∀ {a : Addr} {v : Value}, w.cell? a = some v → w'.cell? a = some v := fun {a v} hc => (hb.cell (World.block_lt_of_cell? w a hc)).trans hc
  obtain ⟨⟨c0, c1, c2, c3, c4, c5, c6, c7⟩, ha, hb'⟩ := h
  exact ⟨⟨kk c0, kk c1, kk c2, kk c3, kk c4, kk c5, kk c6, kk c7⟩, ha.below hb, hb'.below hb⟩
/-- The slice v holds the entries l. -/
def Er (w : World) (v : Value) (l : List Ev) : Prop :=
  ∃ ad cap, v = .slice ad l.length cap ∧ l.length ≤ cap ∧ (0 < l.length → ∃ b o, ad = some ⟨b, o, none⟩ ∧ ∀ k (hk : k < l.length), EvAt w b (o + k * 8) l[k])
theorem Er.below {w w' : World} {v : Value} {l : List Ev} (h : Er w v l) (hb : Below w.heap.size w w') : Er w' v l := by
  obtain ⟨ad, cap, h1, h2, h3⟩ := h
  exact ⟨ad, cap, h1, h2, fun h0 => by obtain ⟨b, o, e, hs⟩ := h3 h0; exact ⟨b, o, e, fun k hk => (hs k hk).below hb⟩⟩
theorem EOwn.er {w : World} {B : Nat} {v : Value} {l : List Ev} (h : EOwn w B v l) : Er w v l := by
  have hr := h.row
  rcases h.row.2 with ⟨rfl, h0⟩ | ⟨g, cap, cur, rfl, _, _, hn, _⟩
  · exact ⟨none, 0, by rw [h0], by omega, fun h => by omega⟩
  · refine ⟨_, cap, rfl, hn, fun _ => ⟨g, 0, rfl, fun k hk => ?_⟩⟩
    obtain ⟨c0, c1, c2, c3, c4, c5, c6, c7⟩ := cs8_at l k hk
    have f : ∀ j, j < l.length * 8 → w.cell? ⟨g, j, none⟩ = (cs8 l)[j]? := fun j hj => World.ownsRow.cellAt hr j hj
    rw [Nat.zero_add]
    have hm := h.rows l[k] (List.getElem_mem hk)
    exact ⟨⟨(f _ (by omega)).trans c0, (f _ (by omega)).trans c1, (f _ (by omega)).trans c2, (f _ (by omega)).trans c3, (f _ (by omega)).trans c4, (f _ (by omega)).trans c5, (f _ (by omega)).trans c6, (f _ (by omega)).trans c7⟩, hm.1.nl, hm.2.nl⟩
end Go.Proofs.YtjmkphnppegegaaGreatDoor
/-
  Read, by contract.
-/
namespace Go.Proofs.YtjmkphnppegegaaGreatDoor
open Go.RowKit Go.Lib
set_option maxRecDepth 100000

/-- The entries from place a on, and how far they reach; c: they begin with a base. (f: at most so many.) -/
def rdE (l : List Int) (n : Int) : Nat → Nat → Bool → List En × Nat
  | 0, a, _ => ([], a)
  | f + 1, a, c => match nextE l (a : Int) n with
    | none => ([], a)
    | some (e, E) => if c = (e.k == 1) then (e :: (rdE l n f E.toNat false).1, (rdE l n f E.toNat false).2) else ([], a)
def readE (l : List Int) (n : Int) : List En × Nat := rdE l n (l.length + 1) 0 true
theorem nextE_bound {l : List Int} {a : Nat} {n : Int} {e : En} {E : Int} (h : nextE l (a : Int) n = some (e, E)) : (a : Int) + 12 ≤ E ∧ E ≤ (l.length : Int) := by
  unfold nextE at h
  split at h
  · cases h
  · rename_i k m hx
    split at h
    · cases h
    · split at h
      · simp only [Option.some.injEq, Prod.mk.injEq] at h
        obtain ⟨_, rfl⟩ := h
        unfold nxT at hx
        split at hx
        · rename_i hq
          have := (fsT_len hx).1
          rw [List.length_drop, Int.toNat_natCast] at this
          omega
        · cases hx
      · cases h
def readT8 (l : List Int) (n : Int) (w : World) (x : Ending) (w' : World) : Prop :=
  ∃ v xs, x = .returned (.tuple #[v, .int .i64 ((readE l n).2 : Int)]) ∧ xs.map Ev.e = (readE l n).1 ∧ EOwn w' w.heap.size v xs ∧ Below w.heap.size w w'

theorem isE_push (xs : List Ev) (y : Ev) : (xs ++ [y]).isEmpty = false := by cases xs <;> rfl
theorem cells_one_new (w : World) (g : Nat) (hg : g = w.heap.size) (x : Ev) (T : TypeId) : ∀ k u, (cs8 [x])[k]? = some u → (w.alloc (.cells #[.int .i64 x.e.k, x.a, x.b, .int .i64 x.e.r.o, .int .i64 x.e.r.s, .int .i64 x.e.r.w, .int .i64 x.e.r.c, .string x.e.r.t] T)).cell? ((⟨g, 0, none⟩ : Addr).add k) = some u := by
  subst hg
  exact cell_eight_new w _ _ _ _ _ _ _ _ T
theorem cs8_slices (d : En) (ad1 ad2 : Option Addr) (n1 n2 c1 c2 : Nat) : ∀ u ∈ cs8 [⟨d, .slice ad1 n1 c1, .slice ad2 n2 c2⟩], u.oneCell' = true := by
  intro u hu
  simp only [cs8, List.mem_cons, List.not_mem_nil, or_false] at hu
  rcases hu with rfl | rfl | rfl | rfl | rfl | rfl | rfl | rfl <;> rfl
set_option maxHeartbeats 8000000 in
theorem reade_c (l : List Int) (v : Value) (n : Int) (w : World) (h : Bc w v l) (ho : OkB l) (hl : l.length ≤ 1000000) (hT : Tabs w) :
    Calls Tryz.prog 48 #[v, .int .i64 n] w (readT8 l n w) := by
  have CN : Hid (∀ W (a : Nat), Below w.heap.size w W → Calls Tryz.prog 69 #[v, .int .i64 (a : Int), .int .i64 n] W (nexT l (a : Int) n W)) := Lib.hid (fun W a hW => nexte_c l v (a : Int) n W (h.below hW) ho hl (hT.below hW))
  obtain ⟨ad, cap, rfl, hcap⟩ := h.2
  obtain ⟨i0, hi, hz0, hz1, hz2⟩ := info_parts entryInfo
  have HI := Lib.hid hi
  have HZ0 := Lib.hid hz0
  have HZ1 := Lib.hid hz1
  have HZ2 := Lib.hid hz2
  clear h ho hT hi hz0 hz1 hz2
  go_enter Tryz.func48, Tryz.ntmps48
  go_wp2
  go_loopw [6, 7] (fun v6 v7 wr => ∃ (a f : Nat) (xs : List Ev), v7 = .int .i64 (a : Int) ∧ a ≤ l.length ∧ l.length + 1 ≤ f + a ∧ xs.length ≤ a ∧ Hid ((xs.map Ev.e ++ (rdE l n f a xs.isEmpty).1, (rdE l n f a xs.isEmpty).2) = readE l n) ∧ Hid (EOwn wr w.heap.size v6 xs) ∧ Hid (Below w.heap.size w wr)) (fun _ v7 _ => l.length - (RowKit.intOf v7).toNat)
  case atStart => exact ⟨0, l.length + 1, [], rfl, by omega, by omega, by simp, Lib.hid rfl, Lib.hid (EOwn.nil _ _), Lib.hid (Below.refl _ _)⟩
  case round =>
    obtain ⟨a, f, xs, rfl, ha, hf, hxs, HE, HO, HB⟩ := hrel
    have hsz := HB.out.size
    cases f with
    | zero => omega
    | succ f =>
    have HC := Lib.hid (CN.out wr a HB.out)
    unfold nexT at HC
    obtain ⟨adx, capx, rfl, hxc, _⟩ := HO.out.er
    have he := HE.out
    rw [rdE] at he
    have emp : ((xs.length : Int) == 0) = xs.isEmpty := by cases xs <;> simp; omega
    clear HE
    cases hn : nextE l (a : Int) n with
    | none =>
      rw [hn] at HC he
      have HF := Lib.hid he
      clear he hn emp
      generalize xs.isEmpty = I
      go_wp2_with fail
      refine HC.out.mono ?_
      rintro x w2 ⟨d, A, B, E, rfl, _, hA2, hB2, _, b2⟩
      obtain ⟨adA, capA, rfl, _⟩ := hA2.nl.form
      obtain ⟨adB, capB, rfl, _⟩ := hB2.nl.form
      have HO2 := Lib.hid ((HO.out.below b2).below (alloc_below _ (.cells #[.int .i64 d.k, .slice adA d.v.length capA, .slice adB d.w.length capB, .int .i64 d.r.o, .int .i64 d.r.s, .int .i64 d.r.w, .int .i64 d.r.c, .string d.r.t] 43)))
      have HB2 := Lib.hid (bn (bn HB.out b2) (alloc_below _ (.cells #[.int .i64 d.k, .slice adA d.v.length capA, .slice adB d.w.length capB, .int .i64 d.r.o, .int .i64 d.r.s, .int .i64 d.r.w, .int .i64 d.r.c, .string d.r.t] 43)))
      clear hA2 hB2 b2
      go_wp2
      go_ret2
      refine ⟨_, xs, by rw [← HF.out]; rfl, by rw [← HF.out]; simp, HO2.out, HB2.out⟩
    | some p =>
      obtain ⟨e, E⟩ := p
      rw [hn] at HC he
      obtain ⟨hE1, hE2⟩ := nextE_bound hn
      simp only at he
      cases hI : xs.isEmpty with
      | true =>
        cases hK : (e.k == 1) with
        | true =>
          rw [hI, hK, if_pos rfl] at he
          rw [hI] at emp
          have HF := Lib.hid he
          obtain ⟨F, rfl⟩ := Int.eq_ofNat_of_zero_le (show 0 ≤ E by omega)
          clear he hn hI
          go_wp2_with fail
          refine HC.out.mono ?_
          rintro x w2 ⟨d, A, B, E', rfl, hd, hA2, hB2, hap, b2⟩
          obtain ⟨rfl, rfl⟩ := hd e (F : Int) rfl
          have HA2 := Lib.hid hA2
          have HB2' := Lib.hid hB2
          have HAP := Lib.hid hap
          obtain ⟨adA, capA, rfl, _⟩ := hA2.nl.form
          obtain ⟨adB, capB, rfl, _⟩ := hB2.nl.form
          have HB2 := Lib.hid b2
          have hz2 := b2.size
          have hr2 := Lib.hid (World.ownsRow.alloc (World.ownsRow.alloc (HO.out.below b2).row (.cells #[.int .i64 d.k, .slice adA d.v.length capA, .slice adB d.w.length capB, .int .i64 d.r.o, .int .i64 d.r.s, .int .i64 d.r.w, .int .i64 d.r.c, .string d.r.t] 43)) (.cells #[.int .i64 d.k, .slice adA d.v.length capA, .slice adB d.w.length capB, .int .i64 d.r.o, .int .i64 d.r.s, .int .i64 d.r.w, .int .i64 d.r.c, .string d.r.t] 43))
          clear hA2 hB2 b2 hap hd
          go_wp2_with (at_builtin; refine wpList_append_own _ rfl _ _ 22 rfl w.heap.size 43 i0 _ 8 104 Tryz.underlying22 HI.out HZ0.out HZ1.out HZ2.out rfl (by decide) _ _ _ rfl hr2.out ⟨w2.heap.size + 1, 0, none⟩ 1 1 (cs8 [⟨d, .slice adA d.v.length capA, .slice adB d.w.length capB⟩]) rfl rfl (by exact cells_one_new _ _ (by simp) ⟨d, .slice adA d.v.length capA, .slice adB d.w.length capB⟩ _) (cs8_slices _ _ _ _ _ _ _) (by unfold maxLen; omega) (by omega) (by simp; omega) ?_; intro v' w3 hown3 hgrow3 hnil3)
          go_roundw
          case rel => exact ⟨F, f, xs ++ [⟨d, .slice adA d.v.length capA, .slice adB d.w.length capB⟩], rfl, by omega, by omega, by simp; omega, Lib.hid (by
              rw [← HF.out, isE_push]
              simp), Lib.hid (EOwn.push HO.out ⟨d, _, _⟩ (bn (bn HB2.out (alloc_below _ _)) (alloc_below _ _)) (by omega) ((HA2.out.below (alloc_below _ _)).below (alloc_below _ _)) ((HB2'.out.below (alloc_below _ _)).below (alloc_below _ _)) HAP.out hown3 hgrow3), Lib.hid ((bn (bn (bn HB.out HB2.out) (alloc_below _ _)) (alloc_below _ _)).trans (below_of_grown hgrow3 (by simp; omega) (fun g hg => (World.ownsRow.lt hr2.out g hg).1)))⟩
          case measure => simp [RowKit.intOf]; omega
        | false =>
          rw [hI, hK, if_neg (by decide)] at he
          rw [hI] at emp
          have HF := Lib.hid he
          clear he hn hI
          go_wp2_with fail
          refine HC.out.mono ?_
          rintro x w2 ⟨d, A, B, E', rfl, hd, hA2, hB2, hap, b2⟩
          obtain ⟨rfl, rfl⟩ := hd e E rfl
          obtain ⟨adA, capA, rfl, _⟩ := hA2.nl.form
          obtain ⟨adB, capB, rfl, _⟩ := hB2.nl.form
          have HO2 := Lib.hid ((HO.out.below b2).below (alloc_below _ (.cells #[.int .i64 d.k, .slice adA d.v.length capA, .slice adB d.w.length capB, .int .i64 d.r.o, .int .i64 d.r.s, .int .i64 d.r.w, .int .i64 d.r.c, .string d.r.t] 43)))
          have HB2 := Lib.hid (bn (bn HB.out b2) (alloc_below _ (.cells #[.int .i64 d.k, .slice adA d.v.length capA, .slice adB d.w.length capB, .int .i64 d.r.o, .int .i64 d.r.s, .int .i64 d.r.w, .int .i64 d.r.c, .string d.r.t] 43)))
          clear hA2 hB2 b2 hap hd
          go_wp2
          go_ret2
          refine ⟨_, xs, by rw [← HF.out]; rfl, by rw [← HF.out]; simp, HO2.out, HB2.out⟩
      | false =>
        cases hK : (e.k == 1) with
        | true =>
          rw [hI, hK, if_neg (by decide)] at he
          rw [hI] at emp
          have HF := Lib.hid he
          clear he hn hI
          go_wp2_with fail
          refine HC.out.mono ?_
          rintro x w2 ⟨d, A, B, E', rfl, hd, hA2, hB2, hap, b2⟩
          obtain ⟨rfl, rfl⟩ := hd e E rfl
          obtain ⟨adA, capA, rfl, _⟩ := hA2.nl.form
          obtain ⟨adB, capB, rfl, _⟩ := hB2.nl.form
          have HO2 := Lib.hid ((HO.out.below b2).below (alloc_below _ (.cells #[.int .i64 d.k, .slice adA d.v.length capA, .slice adB d.w.length capB, .int .i64 d.r.o, .int .i64 d.r.s, .int .i64 d.r.w, .int .i64 d.r.c, .string d.r.t] 43)))
          have HB2 := Lib.hid (bn (bn HB.out b2) (alloc_below _ (.cells #[.int .i64 d.k, .slice adA d.v.length capA, .slice adB d.w.length capB, .int .i64 d.r.o, .int .i64 d.r.s, .int .i64 d.r.w, .int .i64 d.r.c, .string d.r.t] 43)))
          clear hA2 hB2 b2 hap hd
          go_wp2
          go_ret2
          refine ⟨_, xs, by rw [← HF.out]; rfl, by rw [← HF.out]; simp, HO2.out, HB2.out⟩
        | false =>
          rw [hI, hK, if_pos rfl] at he
          rw [hI] at emp
          have HF := Lib.hid he
          obtain ⟨F, rfl⟩ := Int.eq_ofNat_of_zero_le (show 0 ≤ E by omega)
          clear he hn hI
          go_wp2_with fail
          refine HC.out.mono ?_
          rintro x w2 ⟨d, A, B, E', rfl, hd, hA2, hB2, hap, b2⟩
          obtain ⟨rfl, rfl⟩ := hd e (F : Int) rfl
          have HA2 := Lib.hid hA2
          have HB2' := Lib.hid hB2
          have HAP := Lib.hid hap
          obtain ⟨adA, capA, rfl, _⟩ := hA2.nl.form
          obtain ⟨adB, capB, rfl, _⟩ := hB2.nl.form
          have HB2 := Lib.hid b2
          have hz2 := b2.size
          have hr2 := Lib.hid (World.ownsRow.alloc (World.ownsRow.alloc (HO.out.below b2).row (.cells #[.int .i64 d.k, .slice adA d.v.length capA, .slice adB d.w.length capB, .int .i64 d.r.o, .int .i64 d.r.s, .int .i64 d.r.w, .int .i64 d.r.c, .string d.r.t] 43)) (.cells #[.int .i64 d.k, .slice adA d.v.length capA, .slice adB d.w.length capB, .int .i64 d.r.o, .int .i64 d.r.s, .int .i64 d.r.w, .int .i64 d.r.c, .string d.r.t] 43))
          clear hA2 hB2 b2 hap hd
          go_wp2_with (at_builtin; refine wpList_append_own _ rfl _ _ 22 rfl w.heap.size 43 i0 _ 8 104 Tryz.underlying22 HI.out HZ0.out HZ1.out HZ2.out rfl (by decide) _ _ _ rfl hr2.out ⟨w2.heap.size + 1, 0, none⟩ 1 1 (cs8 [⟨d, .slice adA d.v.length capA, .slice adB d.w.length capB⟩]) rfl rfl (by exact cells_one_new _ _ (by simp) ⟨d, .slice adA d.v.length capA, .slice adB d.w.length capB⟩ _) (cs8_slices _ _ _ _ _ _ _) (by unfold maxLen; omega) (by omega) (by simp; omega) ?_; intro v' w3 hown3 hgrow3 hnil3)
          go_roundw
          case rel => exact ⟨F, f, xs ++ [⟨d, .slice adA d.v.length capA, .slice adB d.w.length capB⟩], rfl, by omega, by omega, by simp; omega, Lib.hid (by
              rw [← HF.out, isE_push]
              simp), Lib.hid (EOwn.push HO.out ⟨d, _, _⟩ (bn (bn HB2.out (alloc_below _ _)) (alloc_below _ _)) (by omega) ((HA2.out.below (alloc_below _ _)).below (alloc_below _ _)) ((HB2'.out.below (alloc_below _ _)).below (alloc_below _ _)) HAP.out hown3 hgrow3), Lib.hid ((bn (bn (bn HB.out HB2.out) (alloc_below _ _)) (alloc_below _ _)).trans (below_of_grown hgrow3 (by simp; omega) (fun g hg => (World.ownsRow.lt hr2.out g hg).1)))⟩
          case measure => simp [RowKit.intOf]; omega
end Go.Proofs.YtjmkphnppegegaaGreatDoor
/-
  Chapter 8's own entry, by contract.
-/
namespace Go.Proofs.YtjmkphnppegegaaGreatDoor
open Go.RowKit Go.Lib
set_option maxRecDepth 100000

/-- The entry that a frame holds, if it may be for n. -/
def refE (kind : Int) (l : List Int) (n : Int) : Option En :=
  match unE kind l with
  | none => none
  | some e => if mayE e n = true then some e else none
def entT (kind : Int) (l : List Int) (n : Int) (w : World) (x : Ending) (w' : World) : Prop :=
  ∃ d a b, x = .returned (.tuple #[.agg #[.int .i64 d.k, a, b, .int .i64 d.r.o, .int .i64 d.r.s, .int .i64 d.r.w, .int .i64 d.r.c, .string d.r.t], .bool (refE kind l n).isSome]) ∧ (∀ e, refE kind l n = some e → d = e) ∧ Row w' w.heap.size a d.v ∧ Row w' w.heap.size b d.w ∧ apart a b ∧ Below w.heap.size w w'
theorem entT_of {kind : Int} {l : List Int} {n : Int} {w w' : World} (d : En) (a b : Value) (S : Bool) (hS : (refE kind l n).isSome = S) (hd : ∀ e, refE kind l n = some e → d = e) (ha : Row w' w.heap.size a d.v) (hb : Row w' w.heap.size b d.w) (hp : apart a b) (hB : Below w.heap.size w w') :
    entT kind l n w (.returned (.tuple #[.agg #[.int .i64 d.k, a, b, .int .i64 d.r.o, .int .i64 d.r.s, .int .i64 d.r.w, .int .i64 d.r.c, .string d.r.t], .bool S])) w' := by
  subst hS
  exact ⟨d, a, b, rfl, hd, ha, hb, hp, hB⟩


theorem tvT_rest {l x r : List Int} (h : tvT l = some (x, r)) : r = l.drop (1 + 2 * x.length) ∧ 1 + 2 * x.length ≤ l.length := by
  cases l with
  | nil => cases h
  | cons c t =>
    by_cases hp : 2 * c.toNat ≤ t.length
    · rw [tvT_cons c t hp] at h
      simp only [Option.some.injEq, Prod.mk.injEq] at h
      obtain ⟨rfl, rfl⟩ := h
      rw [unV_len, Nat.add_comm 1, List.drop_succ_cons]
      exact ⟨rfl, by simp; omega⟩
    · rw [tvT_short c t hp] at h
      cases h
theorem rtT_some {l : List Int} {a : Nat} {n : Int} {x : List Int} {p : Nat} (h : rtT l a n = some (x, p)) : ∃ r, tvT (l.drop a) = some (x, r) ∧ (x.length : Int) = n ∧ p = a + 1 + 2 * x.length ∧ r = l.drop p ∧ p ≤ l.length := by
  unfold rtT at h
  split at h
  · rename_i y r hy
    split at h
    · rename_i hn
      simp only [Option.some.injEq, Prod.mk.injEq] at h
      obtain ⟨rfl, rfl⟩ := h
      obtain ⟨e1, e2⟩ := tvT_rest hy
      rw [List.length_drop] at e2
      refine ⟨r, hy, hn, rfl, ?_, by omega⟩
      rw [e1, List.drop_drop, Nat.add_assoc]
    · cases h
  · cases h
theorem rtT_none {l : List Int} {a : Nat} {n : Int} (h : rtT l a n = none) : ∀ x r, tvT (l.drop a) = some (x, r) → ¬ (x.length : Int) = n := by
  intro x r hx hn
  unfold rtT at h
  rw [hx] at h
  simp only [if_pos hn] at h
  cases h
theorem mayB_no {l : List Int} {n : Int} (h : ¬ (l.length : Int) = n) : mayB l n = false := by
  unfold mayB
  rw [decide_eq_false h]
  simp
theorem refE_one_no {kind : Int} {l : List Int} {n : Int} (k : kind = 1) (h : rtT l 0 n = none) : refE kind l n = none := by
  have h1 := rtT_none h
  rw [List.drop_zero] at h1
  unfold refE unE
  rw [if_pos k]
  cases ht : tvT l with
  | none => rfl
  | some p =>
    obtain ⟨v, r⟩ := p
    have h2 := mayB_no (h1 v r ht)
    simp only
    cases ht2 : tvT r with
    | none => rfl
    | some q =>
      obtain ⟨w, t⟩ := q
      simp only
      by_cases h3 : (t.length : Int) = 0
      · simp only [if_pos h3]
        rw [if_neg]
        unfold mayE
        rw [if_pos k, h2]
        simp
      · simp only [if_neg h3]
theorem refE_one_no2 {kind : Int} {l : List Int} {n : Int} {v : List Int} {p : Nat} (k : kind = 1) (h : rtT l 0 n = some (v, p)) (h' : rtT l p n = none) : refE kind l n = none := by
  obtain ⟨r, h1, h2, h3, h4, h5⟩ := rtT_some h
  have h6 := rtT_none h'
  rw [List.drop_zero] at h1
  rw [← h4] at h6
  unfold refE unE
  rw [if_pos k, h1]
  simp only
  cases ht2 : tvT r with
  | none => rfl
  | some q =>
    obtain ⟨w, t⟩ := q
    have h7 := mayB_no (h6 w t ht2)
    simp only
    by_cases h3 : (t.length : Int) = 0
    · simp only [if_pos h3]
      rw [if_neg]
      unfold mayE
      rw [if_pos k, h7]
      simp
    · simp only [if_neg h3]
theorem refE_one_yes {kind : Int} {l : List Int} {n : Int} {v w : List Int} {p q : Nat} (k : kind = 1) (h : rtT l 0 n = some (v, p)) (h' : rtT l p n = some (w, q)) : refE kind l n = if (q : Int) = (l.length : Int) then (if mayE ⟨kind, v, w, zeroR⟩ n = true then some ⟨kind, v, w, zeroR⟩ else none) else none := by
  obtain ⟨r, h1, h2, h3, h4, h5⟩ := rtT_some h
  obtain ⟨t, g1, g2, g3, g4, g5⟩ := rtT_some h'
  rw [List.drop_zero] at h1
  rw [← h4] at g1
  unfold refE unE
  rw [if_pos k, h1]
  simp only [g1]
  have e : ((t.length : Int) = 0) ↔ ((q : Int) = (l.length : Int)) := by
    rw [g4, List.length_drop]
    omega
  by_cases hq : (q : Int) = (l.length : Int)
  · simp only [if_pos hq, if_pos (e.2 hq)]
  · simp only [if_neg hq, if_neg (fun h => hq (e.1 h))]
theorem refE_three_no {kind : Int} {l : List Int} {n : Int} (k : kind = 3) (h : rtT l 0 n = none) : refE kind l n = none := by
  have h1 := rtT_none h
  rw [List.drop_zero] at h1
  unfold refE unE
  rw [if_neg (by omega), if_neg (by omega), if_pos k]
  cases ht : tvT l with
  | none => rfl
  | some p =>
    obtain ⟨v, t⟩ := p
    have h2 := mayB_no (h1 v t ht)
    simp only
    by_cases h3 : (t.length : Int) = 0
    · simp only [if_pos h3]
      rw [if_neg]
      unfold mayE
      rw [if_neg (show ¬ kind = 1 by omega), if_neg (show ¬ kind = 2 by omega), if_pos (show kind = 3 from k), h2]
      simp
    · simp only [if_neg h3]
theorem refE_three_yes {kind : Int} {l : List Int} {n : Int} {v : List Int} {p : Nat} (k : kind = 3) (h : rtT l 0 n = some (v, p)) : refE kind l n = if (p : Int) = (l.length : Int) then (if mayE ⟨kind, [], v, zeroR⟩ n = true then some ⟨kind, [], v, zeroR⟩ else none) else none := by
  obtain ⟨r, h1, h2, h3, h4, h5⟩ := rtT_some h
  rw [List.drop_zero] at h1
  unfold refE unE
  rw [if_neg (by omega), if_neg (by omega), if_pos k, h1]
  have e : ((r.length : Int) = 0) ↔ ((p : Int) = (l.length : Int)) := by
    rw [h4, List.length_drop]
    omega
  by_cases hq : (p : Int) = (l.length : Int)
  · simp only [if_pos hq, if_pos (e.2 hq)]
  · simp only [if_neg hq, if_neg (fun h => hq (e.1 h))]

theorem if_some_eq {M : Bool} {d e : En} (h : (if M = true then some d else none) = some e) : d = e := by
  cases M
  · cases h
  · simpa using h
theorem Bx.drew {T : TypeId} {w : World} {g : Nat} {cs : Array Value} (h : Bx T w g cs) : Bx T w.drew g cs := h
theorem Row.drew {w : World} {B : Nat} {v : Value} {l : List Int} (h : Row w B v l) : Row w.drew B v l := h
theorem Row.cellFar {w : World} {B g k : Nat} {v : Value} {l : List Int} (h : Row w B v l) (hg : g < B) (u : Value) : Row (w.setCell ⟨g, k, none⟩ u) B v l := by
  have hb := (Below.refl (g + 1) w)
  refine h.far (r := some g) ⟨rfl, rfl, rfl, by simp, fun i _ hne => Below.heap_setCell w _ u i (by intro e; exact hne (by rw [e]))⟩ ?_
  rintro g' hg' g'' hg'' rfl
  cases hg'
  exact h.off hg hg''
end Go.Proofs.YtjmkphnppegegaaGreatDoor
/-
  Plain facts: what was laid is read again.
-/
namespace Go.Proofs.YtjmkphnppegegaaGreatDoor
open Go.RowKit Go.Lib
set_option maxRecDepth 100000

theorem okN_all : ∀ {l : List Int}, okN l = true → ∀ x ∈ l, 0 ≤ x ∧ x ≤ 1023
  | [], _, x, hx => by cases hx
  | y :: t, h, x, hx => by
    rw [okN] at h
    simp only [Bool.and_eq_true, decide_eq_true_eq] at h
    rcases List.mem_cons.1 hx with rfl | hx
    · exact ⟨h.1, h.2.1⟩
    · exact okN_all h.2.2 x hx
theorem mayB_nums {l : List Int} {n : Int} (h : mayB l n = true) : ∀ x ∈ l, 0 ≤ x ∧ x ≤ 1023 := by
  unfold mayB at h
  simp only [Bool.and_eq_true] at h
  exact okN_all h.2.2
theorem unV_vnum : ∀ (l t : List Int), (∀ x ∈ l, 0 ≤ x ∧ x ≤ 1023) → unV (vnum l ++ t) l.length = l
  | [], _, _ => rfl
  | x :: l, t, h => by
    have hx := h x (List.mem_cons_self ..)
    rw [List.length_cons, unV, vnum, List.append_assoc]
    have e1 : (numB x 2 ++ (vnum l ++ t)).take 2 = numB x 2 := by rw [List.take_append_of_le_length (by simp [numB_len]), List.take_of_length_le (by simp [numB_len])]
    have e2 : (numB x 2 ++ (vnum l ++ t)).drop 2 = vnum l ++ t := by rw [List.drop_append_of_le_length (by simp [numB_len]), List.drop_of_length_le (by simp [numB_len]), List.nil_append]
    rw [e1, e2, un_num x 2 hx.1 (by omega), unV_vnum l t (fun y hy => h y (List.mem_cons_of_mem _ hy))]
theorem tvT_vec (l t : List Int) (h8 : l.length ≤ 8) (h : ∀ x ∈ l, 0 ≤ x ∧ x ≤ 1023) : tvT (vecB l ++ t) = some (l, t) := by
  unfold vecB
  rw [numB_one (by omega) (by omega), List.append_assoc, List.singleton_append, tvT_cons _ _ (by simp [vnum_len]), Int.toNat_natCast, unV_vnum l t h]
  rw [List.drop_append_of_le_length (by rw [vnum_len]; omega), List.drop_of_length_le (by rw [vnum_len]; omega), List.nil_append]
theorem vnum_ok : ∀ l, OkB (vnum l)
  | [] => fun x hx => by cases hx
  | x :: t => (numB_ok _ _).append (vnum_ok t)
theorem vecB_ok (l : List Int) : OkB (vecB l) := (numB_ok _ _).append (vnum_ok l)
theorem bodyE_ok (e : En) : OkB (bodyE e) := by
  unfold bodyE
  split
  · exact (vecB_ok _).append (vecB_ok _)
  · split
    · exact layL_ok _
    · exact vecB_ok _
theorem layE_ok (e : En) : OkB (layE e) := layF_ok (bodyE_ok e)
theorem blankR_eq {r : Rc} (h : blankR r = true) : r = zeroR := (sameR_iff r zeroR).1 h
theorem unE_body {e : En} (h : someE e = true) : unE e.k (bodyE e) = some e := by
  obtain ⟨n, h⟩ := someE_may h
  obtain ⟨_, ⟨k, h1, h2, _, h4⟩ | ⟨k, h1, _, h3, h4⟩ | ⟨k, h1, h2, h3⟩⟩ := mayE_cases h
  · obtain ⟨ek, ev, ew, er⟩ := e
    simp only at k h1 h2 h4
    subst k
    obtain rfl := blankR_eq h4
    unfold unE bodyE
    simp only [if_pos]
    rw [tvT_vec ev _ (mayB_len h1).1 (mayB_nums h1)]
    simp only
    have := tvT_vec ew [] (mayB_len h2).1 (mayB_nums h2)
    rw [List.append_nil] at this
    rw [this]
    simp
  · obtain ⟨ek, ev, ew, er⟩ := e
    simp only at k h1 h3 h4
    subst k h3 h4
    rw [show bodyE (⟨2, [], [], er⟩ : En) = layL er from by simp [bodyE]]
    unfold unE
    rw [if_neg (show ¬ (2 : Int) = 1 by decide), if_pos (show (2 : Int) = 2 from rfl)]
    have hl := lay_read er [] h1
    have ha := lay_at er [] [] h1
    simp only [List.append_nil, List.nil_append] at hl ha
    obtain ⟨a1, a2, a3⟩ := ha
    rw [if_pos ⟨a1, by rw [hl.2.1, layL_len]; omega⟩, hl.1]
  · obtain ⟨ek, ev, ew, er⟩ := e
    simp only at k h1 h2 h3
    subst k h2
    obtain rfl := blankR_eq h3
    rw [show bodyE (⟨3, [], ew, zeroR⟩ : En) = vecB ew from by simp [bodyE]]
    unfold unE
    rw [if_neg (show ¬ (3 : Int) = 1 by decide), if_neg (show ¬ (3 : Int) = 2 by decide), if_pos (show (3 : Int) = 3 from rfl)]
    have := tvT_vec ew [] (mayB_len h1).1 (mayB_nums h1)
    rw [List.append_nil] at this
    rw [this]
    simp
theorem fromE_of {e : En} {n : Int} (h : mayE e n = true) : ∀ j : Nat, 1 ≤ n → n ≤ 8 → 9 - (j : Int) ≤ n → fromE e j = true
  | 0, _, h8, hj => by omega
  | j + 1, h1, h8, hj => by
    rw [fromE, Bool.or_eq_true]
    by_cases he : 9 - ((j + 1 : Nat) : Int) = n
    · rw [he]; exact .inl h
    · exact .inr (fromE_of h j h1 h8 (by omega))
theorem mayE_some {e : En} {n : Int} (h : mayE e n = true) : someE e = true := by
  obtain ⟨⟨h1, h8⟩, _⟩ := mayE_cases h
  exact fromE_of h 8 h1 h8 (by omega)
theorem layE_len (e : En) : (layE e).length = (bodyE e).length + 12 := layF_len _ _
/-- What stands at a place where an entry was laid. -/
theorem nextE_lay {e : En} (h : someE e = true) (p t : List Int) (n : Int) : nextE (p ++ (layE e ++ t)) (p.length : Int) n = if mayE e n = true then some (e, (p.length : Int) + ((layE e).length : Int)) else none := by
  obtain ⟨h1, h2⟩ := lay_next (a := p) (t := t) (bodyE_okF h)
  unfold nextE
  unfold layE
  rw [h1]
  simp only
  rw [h2, unE_body h]
  simp only
  rw [layF_len]
  rfl

/-- Entries laid one behind the other. -/
def rowsE : List En → List Int
  | [] => []
  | e :: t => layE e ++ rowsE t
theorem rowsE_app : ∀ a b : List En, rowsE (a ++ b) = rowsE a ++ rowsE b
  | [], _ => rfl
  | x :: t, b => by simp [rowsE, rowsE_app t b]
theorem rowsE_ok : ∀ l : List En, OkB (rowsE l)
  | [] => fun x hx => by cases hx
  | e :: t => (layE_ok e).append (rowsE_ok t)
/-- Nothing goes on there. -/
def stopE (l : List Int) (n : Int) (a : Nat) (c : Bool) : Prop := ∀ e E, nextE l (a : Int) n = some (e, E) → c ≠ (e.k == 1)
def goodE (n : Int) : Bool → List En → Prop
  | _, [] => True
  | c, e :: t => mayE e n = true ∧ c = (e.k == 1) ∧ goodE n false t
theorem rdE_stop {l : List Int} {n : Int} {a : Nat} {c : Bool} (h : stopE l n a c) : ∀ f, rdE l n f a c = ([], a)
  | 0 => rfl
  | f + 1 => by
    rw [rdE]
    split
    · rfl
    · rename_i e E he
      rw [if_neg (h e E he)]
theorem rdE_rows (n : Int) (t : List Int) : ∀ (es : List En) (p : List Int) (c : Bool) (f : Nat), goodE n c es → es.length < f → stopE (p ++ (rowsE es ++ t)) n (p.length + (rowsE es).length) (if es.isEmpty then c else false) →
    rdE (p ++ (rowsE es ++ t)) n f p.length c = (es, p.length + (rowsE es).length)
  | [], p, c, f, _, _, hs => by
    rw [rowsE, List.length_nil, Nat.add_zero] at hs ⊢
    exact rdE_stop hs f
  | e :: es, p, c, f, hg, hf, hs => by
    obtain ⟨h1, h2, h3⟩ := hg
    cases f with
    | zero => simp at hf
    | succ f =>
      have hsm := mayE_some h1
      have hn := nextE_lay hsm p (rowsE es ++ t) n
      rw [if_pos h1] at hn
      have el : p ++ (rowsE (e :: es) ++ t) = p ++ (layE e ++ (rowsE es ++ t)) := by rw [rowsE, List.append_assoc]
      have el2 : p ++ (layE e ++ (rowsE es ++ t)) = (p ++ layE e) ++ (rowsE es ++ t) := by rw [List.append_assoc]
      rw [el] at hs ⊢
      rw [rdE, hn]
      simp only [if_pos h2]
      have et : ((p.length : Int) + ((layE e).length : Int)).toNat = (p ++ layE e).length := by rw [List.length_append]; omega
      rw [et, el2]
      rw [el2] at hs
      have hl : p.length + (rowsE (e :: es)).length = (p ++ layE e).length + (rowsE es).length := by rw [rowsE, List.length_append, List.length_append]; omega
      rw [hl] at hs ⊢
      have ih := rdE_rows n t es (p ++ layE e) false f h3 (by simpa using hf) (by
        have e3 : (if (e :: es).isEmpty = true then c else false) = false := rfl
        rw [e3] at hs
        cases es <;> exact hs)
      rw [ih]
theorem rowsE_length : ∀ es : List En, es.length ≤ (rowsE es).length
  | [] => Nat.zero_le _
  | e :: es => by rw [rowsE, List.length_append, layE_len, List.length_cons]; have := rowsE_length es; omega
theorem readE_rows (n : Int) (es : List En) (t : List Int) (hg : goodE n true es) (hs : stopE (rowsE es ++ t) n (rowsE es).length es.isEmpty) : readE (rowsE es ++ t) n = (es, (rowsE es).length) := by
  have h := rdE_rows n t es [] true ((rowsE es ++ t).length + 1) hg (by have := rowsE_length es; rw [List.length_append]; omega) (by
    have e : (if es.isEmpty = true then true else false) = es.isEmpty := by cases es.isEmpty <;> rfl
    rw [e]
    simpa using hs)
  simpa [readE] using h
theorem stopE_none {l : List Int} {n : Int} {a : Nat} {c : Bool} (h : nxT l (a : Int) = none) : stopE l n a c := fun e E he => by
  unfold nextE at he
  rw [h] at he
  cases he
theorem nxT_end (l : List Int) : nxT l (l.length : Int) = none := by
  unfold nxT
  rw [if_pos ⟨by omega, by omega⟩, Int.toNat_natCast, List.drop_eq_nil_of_le (Nat.le_refl _)]
  rfl

theorem en_ext {d e : En} (h1 : d.k = e.k) (h2 : d.v = e.v) (h3 : d.w = e.w) (h4 : d.r = e.r) : d = e := by
  cases d
  cases e
  simp only at h1 h2 h3 h4
  subst h1 h2 h3 h4
  rfl
theorem sameE_iff (d e : En) : sameE d e = true ↔ d = e := by
  unfold sameE
  simp only [Bool.and_eq_true, beq_iff_eq]
  rw [sameB_iff, sameB_iff, sameR_iff]
  exact ⟨fun ⟨a, b, c, d⟩ => en_ext a b c d, fun h => by subst h; exact ⟨rfl, rfl, rfl, rfl⟩⟩
theorem layE_inj {d e : En} (hd : someE d = true) (he : someE e = true) : sameB (layE d) (layE e) = sameE d e := by
  unfold layE
  rw [lay_inj (bodyE_okF hd) (bodyE_okF he)]
  apply Bool.eq_iff_iff.2
  rw [sameE_iff, Bool.and_eq_true, beq_iff_eq, sameB_iff]
  constructor
  · rintro ⟨h1, h2⟩
    have h3 := unE_body hd
    rw [h1, h2, unE_body he] at h3
    exact (Option.some.inj h3).symm
  · rintro rfl
    exact ⟨rfl, rfl⟩
end Go.Proofs.YtjmkphnppegegaaGreatDoor
