/-
  unpack, by contract: the entry that a frame holds.
-/
import Derived.Test.YtcnpckdchjjeoaaDoorSegRefTake
import Derived.Test.YtcnpckdchjjeoaaDoorSegLay
import Derived.Test.YtcnpckdchjjeoaaDoorMRecRefRead
import Derived.Test.YtcnpckdchjjeoaaDoorMRecMath
namespace Go.Proofs.YtcnpckdchjjeoaaDoor
open Go.RowKit Go.Lib
set_option maxRecDepth 100000

theorem Bc.blc {w : World} {v : Value} {l : List Int} (h : Bc w v l) : BlC w v l := by
  obtain ⟨h1, ad, cap, rfl, hc⟩ := h
  refine ⟨ad, cap, rfl, hc, fun h0 => ?_⟩
  obtain ⟨ad', cap', e, h2⟩ := h1.form
  simp only [Value.slice.injEq] at e
  obtain ⟨rfl, _, rfl⟩ := e
  exact h2 h0
/-- No block is both's. -/
def apart (a b : Value) : Prop := ∀ g, a.ownBlock = some g → b.ownBlock ≠ some g
theorem apart_of_rows {w w1 w2 : World} {B B' : Nat} {a b : Value} {l m : List Int} (h1 : Row w B a l) (h2 : Row w2 w1.heap.size b m) (hb : w.heap.size ≤ w1.heap.size) (_ : B' ≤ B) : apart a b := fun g hg hg' => by
  have e1 := (World.ownsRow.lt h1 g hg).2
  have e2 := (World.ownsRow.lt h2 g hg').1
  omega
theorem apart_nil (b : Value) : apart (.slice none 0 0) b := fun g hg => by cases hg
theorem apart_nil' (a : Value) : apart a (.slice none 0 0) := fun g _ hg => by cases hg

theorem res_e2 {fn : Func} {p q : Tmp} (h : fn.results = #[.cell p 30, .tmp q]) (tmps : Array Value) (g : Nat) (hp : tmps.getD p undef = .pointer (some ⟨g, 0, none⟩)) (a b c d e f i j : Value) (w : World) (hx : Bx 30 w g #[a, b, c, d, e, f, i, j]) :
    (results fn tmps).run Tryd.prog w = .ok (.tuple #[.agg #[a, b, c, d, e, f, i, j], tmps.getD q undef]) w := by
  have aR := Tryd.isAgg30
  have zR := Tryd.sizeOf30
  obtain ⟨c0, c1, c2, c3, c4, c5, c6, c7⟩ := hx.eight
  rw [Array.getD_eq_getD_getElem?] at hp
  simp [results, h, hp, go_sem, aR, zR, c0, c1, c2, c3, c4, c5, c6, c7]
theorem res_e3 {fn : Func} {p q r : Tmp} (h : fn.results = #[.cell p 30, .tmp q, .tmp r]) (tmps : Array Value) (g : Nat) (hp : tmps.getD p undef = .pointer (some ⟨g, 0, none⟩)) (a b c d e f i j : Value) (w : World) (hx : Bx 30 w g #[a, b, c, d, e, f, i, j]) :
    (results fn tmps).run Tryd.prog w = .ok (.tuple #[.agg #[a, b, c, d, e, f, i, j], tmps.getD q undef, tmps.getD r undef]) w := by
  have aR := Tryd.isAgg30
  have zR := Tryd.sizeOf30
  obtain ⟨c0, c1, c2, c3, c4, c5, c6, c7⟩ := hx.eight
  rw [Array.getD_eq_getD_getElem?] at hp
  simp [results, h, hp, go_sem, aR, zR, c0, c1, c2, c3, c4, c5, c6, c7]
/-- Eight cells stored, one by one. -/
def set8 (w : World) (g o : Nat) (a b c d e f i j : Value) : World := (((((((w.setCell ⟨g, o, none⟩ a).setCell ⟨g, o + 1, none⟩ b).setCell ⟨g, o + 2, none⟩ c).setCell ⟨g, o + 3, none⟩ d).setCell ⟨g, o + 4, none⟩ e).setCell ⟨g, o + 5, none⟩ f).setCell ⟨g, o + 6, none⟩ i).setCell ⟨g, o + 7, none⟩ j
theorem Bx.set8 {w : World} {g : Nat} {a' b' c' d' e' f' i' j' : Value} (h : Bx 30 w g #[a', b', c', d', e', f', i', j']) (a b c d e f i j : Value) : Bx 30 (set8 w g 0 a b c d e f i j) g #[a, b, c, d, e, f, i, j] := by
  have h0 : Bx _ _ _ #[a, b', c', d', e', f', i', j'] := h.set 0 a
  have h1 : Bx _ _ _ #[a, b, c', d', e', f', i', j'] := h0.set 1 b
  have h2 : Bx _ _ _ #[a, b, c, d', e', f', i', j'] := h1.set 2 c
  have h3 : Bx _ _ _ #[a, b, c, d, e', f', i', j'] := h2.set 3 d
  have h4 : Bx _ _ _ #[a, b, c, d, e, f', i', j'] := h3.set 4 e
  have h5 : Bx _ _ _ #[a, b, c, d, e, f, i', j'] := h4.set 5 f
  have h6 : Bx _ _ _ #[a, b, c, d, e, f, i, j'] := h5.set 6 i
  exact h6.set 7 j
theorem below_set8 {W w : World} {B g : Nat} (h : Below B W w) (hg : B ≤ g) (o : Nat) (a b c d e f i j : Value) : Below B W (set8 w g o a b c d e f i j) :=
  (((((((h.setCell hg _).setCell hg _).setCell hg _).setCell hg _).setCell hg _).setCell hg _).setCell hg _).setCell hg _
theorem heap_set8 (w : World) (g o : Nat) (a b c d e f i j : Value) (p : Nat) (hp : p ≠ g) : (set8 w g o a b c d e f i j).heap[p]? = w.heap[p]? := by
  unfold set8
  simp only [Below.heap_setCell _ _ _ p (show p ≠ (⟨g, _, none⟩ : Addr).block from hp)]
theorem grown_set8 (w : World) (g o : Nat) (a b c d e f i j : Value) : w.grownBy (set8 w g o a b c d e f i j) (some g) := by
  have h := below_set8 (Below.refl 0 w) (Nat.zero_le g) o a b c d e f i j
  exact ⟨h.os, h.tape, h.output, h.size, fun p _ hne => heap_set8 w g o a b c d e f i j p (by intro e; exact hne (by rw [e]))⟩

/-- The entry that a frame of that kind holds. -/
def unE (kind : Int) (l : List Int) : Option En :=
  if kind = 1 then
    match tvT l with
    | none => none
    | some (v, r) => match tvT r with
      | none => none
      | some (w, q) => if (q.length : Int) = 0 then some ⟨kind, v, w, zeroR⟩ else none
  else if kind = 2 then (if atOk l 0 = true ∧ 12 + hdN l = (l.length : Int) then some ⟨kind, [], [], rdR l⟩ else none)
  else if kind = 3 then
    match tvT l with
    | none => none
    | some (w, q) => if (q.length : Int) = 0 then some ⟨kind, [], w, zeroR⟩ else none
  else none
def unpT (kind : Int) (l : List Int) (w : World) (x : Ending) (w' : World) : Prop :=
  ∃ d a b, x = .returned (.tuple #[.agg #[.int .i64 d.k, a, b, .int .i64 d.r.o, .int .i64 d.r.s, .int .i64 d.r.w, .int .i64 d.r.c, .string d.r.t], .bool (unE kind l).isSome]) ∧ (∀ e, unE kind l = some e → d = e) ∧ Row w' w.heap.size a d.v ∧ Row w' w.heap.size b d.w ∧ apart a b ∧ Below w.heap.size w w'
theorem unpT_of {kind : Int} {l : List Int} {w w' : World} (d : En) (a b : Value) (S : Bool) (hS : (unE kind l).isSome = S) (hd : ∀ e, unE kind l = some e → d = e) (ha : Row w' w.heap.size a d.v) (hb : Row w' w.heap.size b d.w) (hp : apart a b) (hB : Below w.heap.size w w') :
    unpT kind l w (.returned (.tuple #[.agg #[.int .i64 d.k, a, b, .int .i64 d.r.o, .int .i64 d.r.s, .int .i64 d.r.w, .int .i64 d.r.c, .string d.r.t], .bool S])) w' := by
  subst hS
  exact ⟨d, a, b, rfl, hd, ha, hb, hp, hB⟩

theorem row_set8 {w : World} {B g o : Nat} {v : Value} {l : List Int} (h : Row w B v l) (hg : v.ownBlock ≠ some g) (a b c d e f i j : Value) : Row (set8 w g o a b c d e f i j) B v l :=
  h.far (grown_set8 w g o a b c d e f i j) (by rintro g' hg' g'' hg'' rfl; cases hg'; exact hg hg'')

theorem tvT_cons (c : Int) (r : List Int) (h : 2 * c.toNat ≤ r.length) : tvT (c :: r) = some (unV r c.toNat, r.drop (2 * c.toNat)) := if_pos h
theorem tvT_short (c : Int) (r : List Int) (h : ¬ 2 * c.toNat ≤ r.length) : tvT (c :: r) = none := if_neg h
theorem tvR_ok {l : List Int} (h : OkB l) : OkB (tvR (tvT l)) ∧ (tvR (tvT l)).length ≤ l.length := by
  cases l with
  | nil => exact ⟨(fun x hx => by cases hx), Nat.le_refl _⟩
  | cons c r =>
    by_cases hp : 2 * c.toNat ≤ r.length
    · rw [tvT_cons c r hp]
      exact ⟨fun x hx => h x (List.mem_cons_of_mem _ (List.mem_of_mem_drop hx)), by simp [tvR]; omega⟩
    · rw [tvT_short c r hp]
      exact ⟨(fun x hx => by cases hx), Nat.zero_le _⟩
theorem unE_one {kind : Int} {l : List Int} (k : kind = 1) : (unE kind l).isSome = ((tvT l).isSome && ((tvT (tvR (tvT l))).isSome && (((tvR (tvT (tvR (tvT l)))).length : Int) == 0))) ∧ ∀ e, unE kind l = some e → (⟨kind, tvV (tvT l), tvV (tvT (tvR (tvT l))), zeroR⟩ : En) = e := by
  unfold unE
  rw [if_pos k]
  cases h1 : tvT l with
  | none => exact ⟨rfl, fun e h => by cases h⟩
  | some p =>
    obtain ⟨v, r⟩ := p
    simp only [tvR, tvV]
    cases h2 : tvT r with
    | none => exact ⟨rfl, fun e h => by cases h⟩
    | some q =>
      obtain ⟨w, t⟩ := q
      simp only
      by_cases h3 : (t.length : Int) = 0
      · rw [if_pos h3]
        refine ⟨by simp [h3], fun e h => by simpa using h⟩
      · rw [if_neg h3]
        refine ⟨?_, fun e h => by cases h⟩
        have : ((t.length : Int) == 0) = false := by simpa using h3
        simp [this]
theorem unE_three {kind : Int} {l : List Int} (k1 : ¬ kind = 1) (k2 : ¬ kind = 2) (k : kind = 3) : (unE kind l).isSome = ((tvT l).isSome && (((tvR (tvT l)).length : Int) == 0)) ∧ ∀ e, unE kind l = some e → (⟨kind, [], tvV (tvT l), zeroR⟩ : En) = e := by
  unfold unE
  rw [if_neg k1, if_neg k2, if_pos k]
  cases h1 : tvT l with
  | none => exact ⟨rfl, fun e h => by cases h⟩
  | some p =>
    obtain ⟨v, t⟩ := p
    simp only [tvR, tvV]
    by_cases h3 : (t.length : Int) = 0
    · rw [if_pos h3]
      refine ⟨by simp [h3], fun e h => by simpa using h⟩
    · rw [if_neg h3]
      refine ⟨?_, fun e h => by cases h⟩
      have : ((t.length : Int) == 0) = false := by simpa using h3
      simp [this]
/-- Bytes' room: how many there are. -/
theorem Bc.len {w : World} {A : Option Addr} {N C : Nat} {l : List Int} (h : Bc w (.slice A N C) l) : N = l.length := by
  obtain ⟨_, ad, cap, e, _⟩ := h
  simp only [Value.slice.injEq] at e
  exact e.2.1
theorem Row.off {w : World} {B g : Nat} {v : Value} {l : List Int} (h : Row w B v l) (hg : g < B) : v.ownBlock ≠ some g := fun e => by
  have := (World.ownsRow.lt h g e).1
  omega

set_option maxHeartbeats 8000000 in
theorem unpack_c (kind : Int) (l : List Int) (v : Value) (w : World) (h : Bc w v l) (ho : OkB l) (hl : l.length ≤ 1000000) (hT : Tabs w) :
    Calls Tryd.prog 64 #[.int .i64 kind, v] w (unpT kind l w) := by
  have HX := Lib.hid (Bx.new 30 w #[.int .i64 0, .slice none 0 0, .slice none 0 0, .int .i64 0, .int .i64 0, .int .i64 0, .int .i64 0, .string ⟨#[]⟩])
  have hA := Lib.hid (alloc_below w (.cells #[.int .i64 0, .slice none 0 0, .slice none 0 0, .int .i64 0, .int .i64 0, .int .i64 0, .int .i64 0, .string ⟨#[]⟩] 30))
  obtain ⟨W1, hW1⟩ : ∃ W1, W1 = w.alloc (.cells #[.int .i64 0, .slice none 0 0, .slice none 0 0, .int .i64 0, .int .i64 0, .int .i64 0, .int .i64 0, .string ⟨#[]⟩] 30) := ⟨_, rfl⟩
  rw [← hW1] at HX hA
  have hz : W1.heap.size = w.heap.size + 1 := by rw [hW1]; simp
  have CT := Lib.hid (takevec_c l v W1 (h.below hA.out) ho hl)
  have CR := Lib.hid (read_c l v 0 W1 (h.below hA.out).blc ho hl (by decide) (hT.below hA.out))
  obtain ⟨ad, cap, rfl, hcap⟩ := h.2
  by_cases k1 : kind = 1
  · have f1 : (kind == 1) = true := by simpa using k1
    obtain ⟨u1, u2⟩ := unE_one (l := l) k1
    obtain ⟨o2, l2⟩ := tvR_ok ho
    have HU2 := Lib.hid u2
    have HO2 := Lib.hid o2
    have hl2 : (tvR (tvT l)).length ≤ 1000000 := by omega
    unfold tvecT at CT
    clear k1 h ho hT CR u2 o2 l2 hl hcap
    generalize tvT l = t1 at CT u1 HU2 HO2 hl2
    generalize hS1 : t1.isSome = S1 at CT u1
    clear hS1
    go_enter Tryd.func64, Tryd.ntmps64
    go_wp2_with fail
    rw [← hW1]
    refine CT.out.mono ?_
    rintro x w2 ⟨V2, A2, N2, C2, rfl, h2, r2, b2⟩
    have CT2 := Lib.hid (takevec_c (tvR t1) _ w2 r2 HO2.out hl2)
    unfold tvecT at CT2
    generalize tvT (tvR t1) = t2 at CT2 u1 HU2
    generalize hS2 : t2.isSome = S2 at CT2 u1
    have HV2 := Lib.hid h2
    obtain ⟨adv, capv, rfl, _⟩ := h2.nl.form
    have hx2 := Lib.hid (HX.out.below b2)
    have HB2 := Lib.hid (bn hA.out b2)
    have hz2 := b2.size
    clear h2 b2 CT hS2
    go_wp2_with fail
    refine CT2.out.mono ?_
    rintro x w3 ⟨V3, A3, N3, C3, rfl, h3, r3, b3⟩
    have HV3 := Lib.hid h3
    obtain ⟨adw, capw, rfl, _⟩ := h3.nl.form
    have hx3 := Lib.hid (hx2.out.below b3)
    have HB3 := Lib.hid (bn HB2.out b3)
    have HV2' := Lib.hid (HV2.out.below b3)
    have hap := Lib.hid (apart_of_rows (B' := 0) HV2.out h3 (Nat.le_refl _) (Nat.zero_le _))
    obtain rfl := r3.len
    generalize hQ : (((tvR t2).length : Int) == 0) = Q at u1
    clear h3 b3 CT2
    have hl3 := hx3.out.lt
    obtain ⟨c0, c1, c2, c3, c4, c5, c6, c7⟩ := hx3.out.eight
    have s0 := hx3.out.soft 0
    have s1 := hx3.out.soft 1
    have s2 := hx3.out.soft 2
    have s3 := hx3.out.soft 3
    have s4 := hx3.out.soft 4
    have s5 := hx3.out.soft 5
    have s6 := hx3.out.soft 6
    have s7 := hx3.out.soft 7
    have HU1 := Lib.hid u1
    clear u1 r3 r2
    have fin : Hid (∀ S, (S1 && (S2 && Q)) = S → unpT kind l w (.returned (.tuple #[.agg #[.int .i64 kind, .slice adv (tvV t1).length capv, .slice adw (tvV t2).length capw, .int .i64 0, .int .i64 0, .int .i64 0, .int .i64 0, .string ⟨#[]⟩], .bool S])) (set8 w3 w.heap.size 0 (.int .i64 kind) (.slice adv (tvV t1).length capv) (.slice adw (tvV t2).length capw) (.int .i64 0) (.int .i64 0) (.int .i64 0) (.int .i64 0) (.string ⟨#[]⟩))) := Lib.hid (fun S hS =>
      unpT_of ⟨kind, tvV t1, tvV t2, zeroR⟩ _ _ S (HU1.out.trans hS) HU2.out
        (row_set8 (HV2'.out.mono (by omega)) (HV2'.out.off (by omega)) _ _ _ _ _ _ _ _)
        (row_set8 (HV3.out.mono (by omega)) (HV3.out.off (by omega)) _ _ _ _ _ _ _ _) hap.out (below_set8 HB3.out (Nat.le_refl _) _ _ _ _ _ _ _ _ _))
    cases S1
    · go_wp2
      exact bodyPost_ret (res_e2 Tryd.results64 _ w.heap.size rfl _ _ _ _ _ _ _ _ _ (hx3.out.set8 _ _ _ _ _ _ _ _)) rfl (fin.out _ rfl)
    · cases S2
      · go_wp2
        exact bodyPost_ret (res_e2 Tryd.results64 _ w.heap.size rfl _ _ _ _ _ _ _ _ _ (hx3.out.set8 _ _ _ _ _ _ _ _)) rfl (fin.out _ rfl)
      · go_wp2
        exact bodyPost_ret (res_e2 Tryd.results64 _ w.heap.size rfl _ _ _ _ _ _ _ _ _ (hx3.out.set8 _ _ _ _ _ _ _ _)) rfl (fin.out _ (by simp))
  · have f1 : (kind == 1) = false := by simpa using k1
    by_cases k2 : kind = 2
    · have f2 : (kind == 2) = true := by simpa using k2
      have CR2 : Hid (Calls Tryd.prog 76 #[.slice ad l.length cap, .int .i64 0] W1 fun x w' => ∃ (r : Rc) (n : Int) (S : Bool), x = .returned (.tuple #[.agg #[.int .i64 r.o, .int .i64 r.s, .int .i64 r.w, .int .i64 r.c, .string r.t], .int .i64 n, .bool S]) ∧ Hid ((unE kind l).isSome = (S && (n == (l.length : Int))) ∧ ∀ e, unE kind l = some e → (⟨kind, [], [], r⟩ : En) = e) ∧ Hid (Below W1.heap.size W1 w')) := Lib.hid (CR.out.mono (by
        intro x w' hx
        unfold readT at hx
        rw [show (0 : Int).toNat = 0 from rfl, List.drop_zero] at hx
        unfold unE
        rw [if_neg k1, if_pos k2]
        cases hk : atOk l 0 with
        | false =>
          rw [hk] at hx
          obtain ⟨rfl, hb⟩ := hx
          exact ⟨zeroR, 0, false, rfl, Lib.hid ⟨rfl, fun e he => by simp at he⟩, Lib.hid hb⟩
        | true =>
          rw [hk] at hx
          obtain ⟨rfl, hb⟩ := hx
          refine ⟨rdR l, _, true, rfl, Lib.hid ?_, Lib.hid hb⟩
          rw [show (0 : Int) + 12 + hdN l = 12 + hdN l from by omega]
          by_cases hq : 12 + hdN l = (l.length : Int)
          · rw [if_pos ⟨rfl, hq⟩]
            exact ⟨by simp [hq], fun e he => by simpa using he⟩
          · rw [if_neg (fun hh => hq hh.2)]
            refine ⟨?_, fun e he => by cases he⟩
            have : (12 + hdN l == (l.length : Int)) = false := by simpa using hq
            simp [this]))
      clear CT CR k1 k2 h ho hT
      go_enter Tryd.func64, Tryd.ntmps64
      go_wp2_with fail
      rw [← hW1]
      refine CR2.out.mono ?_
      rintro x w2 ⟨r, n, S, rfl, HU, b2⟩
      have hx2 := HX.out.below b2.out
      have HX2 := Lib.hid hx2
      have HB2 := Lib.hid (bn hA.out b2.out)
      have hl2 := hx2.lt
      clear b2 CR2 HX
      obtain ⟨c0, c1, c2, c3, c4, c5, c6, c7⟩ := hx2.eight
      have s0 := hx2.soft 0
      have s1 := hx2.soft 1
      have s2 := hx2.soft 2
      have s3 := hx2.soft 3
      have s4 := hx2.soft 4
      have s5 := hx2.soft 5
      have s6 := hx2.soft 6
      have s7 := hx2.soft 7
      clear hx2
      generalize hQ : (n == (l.length : Int)) = Q at HU
      have fin : Hid (∀ T, (S && Q) = T → unpT kind l w (.returned (.tuple #[.agg #[.int .i64 kind, .slice none 0 0, .slice none 0 0, .int .i64 r.o, .int .i64 r.s, .int .i64 r.w, .int .i64 r.c, .string r.t], .bool T])) ((set8 w2 w.heap.size 0 (.int .i64 kind) (.slice none 0 0) (.slice none 0 0) (.int .i64 r.o) (.int .i64 r.s) (.int .i64 r.w) (.int .i64 r.c) (.string r.t)).alloc (.cells #[.int .i64 r.o, .int .i64 r.s, .int .i64 r.w, .int .i64 r.c, .string r.t] 28))) := Lib.hid (fun T hS =>
        unpT_of ⟨kind, [], [], r⟩ _ _ T (HU.out.1.trans hS) HU.out.2 (Row.nil _ _) (Row.nil _ _) (apart_nil _) ((below_set8 HB2.out (Nat.le_refl _) _ _ _ _ _ _ _ _ _).alloc (below_set8 HB2.out (Nat.le_refl _) _ _ _ _ _ _ _ _ _).size _))
      cases S
      · go_wp2
        exact bodyPost_ret (res_e2 Tryd.results64 _ w.heap.size rfl _ _ _ _ _ _ _ _ _ ((HX2.out.set8 _ _ _ _ _ _ _ _).alloc _)) rfl (fin.out _ rfl)
      · go_wp2
        exact bodyPost_ret (res_e2 Tryd.results64 _ w.heap.size rfl _ _ _ _ _ _ _ _ _ ((HX2.out.set8 _ _ _ _ _ _ _ _).alloc _)) rfl (fin.out _ (by simp))
    · have f2 : (kind == 2) = false := by simpa using k2
      by_cases k3 : kind = 3
      · have f3 : (kind == 3) = true := by simpa using k3
        obtain ⟨u1, u2⟩ := unE_three (l := l) k1 k2 k3
        have HU2 := Lib.hid u2
        unfold tvecT at CT
        clear k1 k2 k3 h ho hT CR u2 hl hcap
        generalize tvT l = t1 at CT u1 HU2
        generalize hS1 : t1.isSome = S1 at CT u1
        clear hS1
        go_enter Tryd.func64, Tryd.ntmps64
        go_wp2_with fail
        rw [← hW1]
        refine CT.out.mono ?_
        rintro x w3 ⟨V3, A3, N3, C3, rfl, h3, r3, b3⟩
        have HV3 := Lib.hid h3
        obtain ⟨adw, capw, rfl, _⟩ := h3.nl.form
        have hx3 := Lib.hid (HX.out.below b3)
        have HB3 := Lib.hid (bn hA.out b3)
        obtain rfl := r3.len
        generalize hQ : (((tvR t1).length : Int) == 0) = Q at u1
        clear h3 b3 CT
        have hl3 := hx3.out.lt
        obtain ⟨c0, c1, c2, c3, c4, c5, c6, c7⟩ := hx3.out.eight
        have s0 := hx3.out.soft 0
        have s1 := hx3.out.soft 1
        have s2 := hx3.out.soft 2
        have s3 := hx3.out.soft 3
        have s4 := hx3.out.soft 4
        have s5 := hx3.out.soft 5
        have s6 := hx3.out.soft 6
        have s7 := hx3.out.soft 7
        have HU1 := Lib.hid u1
        clear u1 r3
        have fin : Hid (∀ S, (S1 && Q) = S → unpT kind l w (.returned (.tuple #[.agg #[.int .i64 kind, .slice none 0 0, .slice adw (tvV t1).length capw, .int .i64 0, .int .i64 0, .int .i64 0, .int .i64 0, .string ⟨#[]⟩], .bool S])) (set8 w3 w.heap.size 0 (.int .i64 kind) (.slice none 0 0) (.slice adw (tvV t1).length capw) (.int .i64 0) (.int .i64 0) (.int .i64 0) (.int .i64 0) (.string ⟨#[]⟩))) := Lib.hid (fun S hS =>
          unpT_of ⟨kind, [], tvV t1, zeroR⟩ _ _ S (HU1.out.trans hS) HU2.out (Row.nil _ _)
            (row_set8 (HV3.out.mono (by omega)) (HV3.out.off (by omega)) _ _ _ _ _ _ _ _) (apart_nil _) (below_set8 HB3.out (Nat.le_refl _) _ _ _ _ _ _ _ _ _))
        cases S1
        · go_wp2
          exact bodyPost_ret (res_e2 Tryd.results64 _ w.heap.size rfl _ _ _ _ _ _ _ _ _ (hx3.out.set8 _ _ _ _ _ _ _ _)) rfl (fin.out _ rfl)
        · go_wp2
          exact bodyPost_ret (res_e2 Tryd.results64 _ w.heap.size rfl _ _ _ _ _ _ _ _ _ (hx3.out.set8 _ _ _ _ _ _ _ _)) rfl (fin.out _ (by simp))
      · have f3 : (kind == 3) = false := by simpa using k3
        have HU : Hid (unE kind l = none) := Lib.hid (by unfold unE; rw [if_neg k1, if_neg k2, if_neg k3])
        clear k1 k2 k3 h ho hT CR CT
        go_enter Tryd.func64, Tryd.ntmps64
        go_wp2
        refine bodyPost_ret (v := .tuple #[.agg #[.int .i64 0, .slice none 0 0, .slice none 0 0, .int .i64 0, .int .i64 0, .int .i64 0, .int .i64 0, .string ⟨#[]⟩], .bool false]) (by simp [results, Tryd.results64, go_sem]) rfl ?_
        exact unpT_of ⟨0, [], [], zeroR⟩ _ _ false (by rw [HU.out]; rfl) (fun e he => by rw [HU.out] at he; cases he) (Row.nil _ _) (Row.nil _ _) (apart_nil _) (by rw [← hW1]; exact hA.out)
end Go.Proofs.YtcnpckdchjjeoaaDoor
