/-
  Read, by contract.
-/
import Derived.Test.YtchkadifjbmmpaaDoorWRecHead
namespace Go.Proofs.YtchkadifjbmmpaaDoor.R
open Go.RowKit Go.Lib
set_option maxRecDepth 100000

/-- The record whose bytes h begins with. -/
def rdR (h : List Int) : Rc := ⟨hdO h, hdS h, hdW h, hdC h, strOfNums ((h.drop 12).take (hdN h).toNat)⟩
def rdOk (h : List Int) : Bool := decide (12 ≤ h.length) && (decide (hdN h ≤ (h.length : Int) - 12) && mayR (rdR h))
/-- Is there one at place at? -/
def atOk (l : List Int) (at_ : Int) : Bool := decide (0 ≤ at_) && (decide (at_ ≤ (l.length : Int)) && rdOk (l.drop at_.toNat))

def noT (w : World) (e : Ending) (w' : World) : Prop :=
  e = .returned (.tuple #[.agg #[.int .i64 0, .int .i64 0, .int .i64 0, .int .i64 0, .string ⟨#[]⟩], .int .i64 0, .bool false]) ∧ Below w.heap.size w w'
def yesT (r : Rc) (n : Int) (w : World) (e : Ending) (w' : World) : Prop :=
  e = .returned (.tuple #[.agg #[.int .i64 r.o, .int .i64 r.s, .int .i64 r.w, .int .i64 r.c, .string r.t], .int .i64 n, .bool true]) ∧ Below w.heap.size w w'
def readT (l : List Int) (at_ : Int) (w : World) (e : Ending) (w' : World) : Prop :=
  if atOk l at_ then yesT (rdR (l.drop at_.toNat)) (at_ + 12 + hdN (l.drop at_.toNat)) w e w' else noT w e w'

theorem take_take12 (h : List Int) : hdO (h.take 12) = hdO h ∧ hdS (h.take 12) = hdS h ∧ hdW (h.take 12) = hdW h ∧ hdC (h.take 12) = hdC h ∧ hdN (h.take 12) = hdN h := by
  simp [hdO, hdS, hdW, hdC, hdN, List.drop_take, List.take_take]
theorem hdN_bound (h : List Int) (ho : OkB h) : 0 ≤ hdN h ∧ hdN h < 256 := by
  have h1 := unB_bound ((h.drop 11).take 1) 0 ((ho.drop 11).take 1) (by omega)
  refine ⟨h1.1, Int.lt_of_lt_of_le h1.2 ?_⟩
  have h2 : (256 : Nat) ^ ((h.drop 11).take 1).length ≤ 256 ^ 1 := Nat.pow_le_pow_right (by decide) (by rw [List.length_take]; omega)
  have h3 : ((256 ^ ((h.drop 11).take 1).length : Nat) : Int) ≤ ((256 ^ 1 : Nat) : Int) := Int.ofNat_le.2 h2
  simpa using h3

set_option maxHeartbeats 4000000 in
theorem read_neg (v : Value) (at_ : Int) (w : World) (h : at_ < 0) : Calls Tryd.prog 56 #[v, .int .i64 at_] w (noT w) := by
  have e0 : decide (at_ < 0) = true := by simpa using h
  go_enter Tryd.func56, Tryd.ntmps56
  go_wp2
  exact bodyPost_ret (v := .tuple #[.agg #[.int .i64 0, .int .i64 0, .int .i64 0, .int .i64 0, .string ⟨#[]⟩], .int .i64 0, .bool false]) (by simp [results, Tryd.results56, go_sem]) rfl ⟨rfl, alloc_below _ _⟩

set_option maxHeartbeats 4000000 in
theorem read_short (l : List Int) (ad : Option Addr) (cap : Nat) (at_ : Int) (w : World) (h0 : 0 ≤ at_) (hl : l.length ≤ 1000000) (h1 : (l.length : Int) - at_ < 12) (hm : at_ ≤ 9223372036854775807) :
    Calls Tryd.prog 56 #[.slice ad l.length cap, .int .i64 at_] w (noT w) := by
  have e0 : decide (at_ < 0) = false := by simpa using h0
  have e1 : decide ((l.length : Int) - at_ < 12) = true := by simpa using h1
  go_enter Tryd.func56, Tryd.ntmps56
  go_wp2
  exact bodyPost_ret (v := .tuple #[.agg #[.int .i64 0, .int .i64 0, .int .i64 0, .int .i64 0, .string ⟨#[]⟩], .int .i64 0, .bool false]) (by simp [results, Tryd.results56, go_sem]) rfl ⟨rfl, alloc_below _ _⟩

/-- What a function answers whose first result lies in a block of its own. -/
theorem res3 {fn : Func} (h : fn.results = #[.cell 4 36, .tmp 5, .tmp 6]) (tmps : Array Value) (g : Nat) (hp : tmps.getD 4 undef = .pointer (some ⟨g, 0, none⟩)) (a b c d e : Value) (w : World) (hx : Bx 36 w g #[a, b, c, d, e]) :
    (results fn tmps).run Tryd.prog w = .ok (.tuple #[.agg #[a, b, c, d, e], tmps.getD 5 undef, tmps.getD 6 undef]) w := by
  have aR := Tryd.isAgg36
  have zR := Tryd.sizeOf36
  obtain ⟨c0, c1, c2, c3, c4⟩ := hx.five
  rw [Array.getD_eq_getD_getElem?] at hp
  simp [results, h, hp, go_sem, aR, zR, c0, c1, c2, c3, c4]
theorem zero_five {w : World} {g : Nat} {a' b' c' d' e' : Value} (h : Bx 36 w g #[a', b', c', d', e']) (a b c d e : Value) : Bx 36 (((((w.setCell ⟨g, 0, none⟩ a).setCell ⟨g, 1, none⟩ b).setCell ⟨g, 2, none⟩ c).setCell ⟨g, 3, none⟩ d).setCell ⟨g, 4, none⟩ e) g #[a, b, c, d, e] := by
  have h0 : Bx 36 (w.setCell ⟨g, 0, none⟩ a) g #[a, b', c', d', e'] := h.set 0 a
  have h1 : Bx 36 ((w.setCell ⟨g, 0, none⟩ a).setCell ⟨g, 1, none⟩ b) g #[a, b, c', d', e'] := h0.set 1 b
  have h2 : Bx 36 (((w.setCell ⟨g, 0, none⟩ a).setCell ⟨g, 1, none⟩ b).setCell ⟨g, 2, none⟩ c) g #[a, b, c, d', e'] := h1.set 2 c
  have h3 : Bx 36 ((((w.setCell ⟨g, 0, none⟩ a).setCell ⟨g, 1, none⟩ b).setCell ⟨g, 2, none⟩ c).setCell ⟨g, 3, none⟩ d) g #[a, b, c, d, e'] := h2.set 3 d
  exact h3.set 4 e
theorem below_five {W w : World} {g : Nat} (h : Below W.heap.size W w) (hg : W.heap.size ≤ g) (a b c d e : Value) : Below W.heap.size W (((((w.setCell ⟨g, 0, none⟩ a).setCell ⟨g, 1, none⟩ b).setCell ⟨g, 2, none⟩ c).setCell ⟨g, 3, none⟩ d).setCell ⟨g, 4, none⟩ e) :=
  ((((h.setCell hg _).setCell hg _).setCell hg _).setCell hg _).setCell hg _

set_option maxHeartbeats 8000000 in
theorem read_over_m (ln b o cap a : Nat) (O S W1 C : Int) (w : World) (hl : ln ≤ 1000000) (hcl : ln ≤ cap) (h12 : a + 12 ≤ ln) (hcap : ¬ cap = a + 12) (N : Int) (HRH : Hid (∀ W, Below w.heap.size w W → Calls Tryd.prog 74 #[.slice (some ⟨b, o + a, none⟩) 12 (cap - a)] W fun e w' => e = .returned (.agg #[.int .i64 O, .int .i64 S, .int .i64 W1, .int .i64 C, .int .i64 N]) ∧ Below W.heap.size W w')) (hn : ((ln - (a + 12) : Nat) : Int) < N) :
    Calls Tryd.prog 56 #[.slice (some ⟨b, o, none⟩) ln cap, .int .i64 (a : Int)] w (noT w) := by
  have ea : decide ((a : Int) < 0) = false := by simp
  have eb : decide ((ln : Int) - (a : Int) < 12) = false := by simp; omega
  have hca : ¬ cap = a := by omega
  have hlt : a + 12 ≤ cap := by omega
  have e2 : decide (((ln - (a + 12) : Nat) : Int) < N) = true := by simpa using hn
  have HBX := Lib.hid (Bx.new 36 w #[.int .i64 0, .int .i64 0, .int .i64 0, .int .i64 0, .string ⟨#[]⟩])
  go_enter Tryd.func56, Tryd.ntmps56
  go_wp2_with fail
  refine (HRH.out _ (alloc_below _ _)).mono ?_
  rintro e w1 ⟨rfl, b1⟩
  have HB1 : Hid (Below w.heap.size w w1) := Lib.hid (bn (alloc_below _ _) b1)
  have HX1 := Lib.hid (HBX.out.below b1)
  have hlx := HX1.out.lt
  clear HRH b1 HBX
  obtain ⟨c0, c1, c2, c3, c4⟩ := HX1.out.five
  have f0 := HX1.out.soft 0
  have f1 := HX1.out.soft 1
  have f2 := HX1.out.soft 2
  have f3 := HX1.out.soft 3
  have f4 := HX1.out.soft 4
  go_wp2
  exact bodyPost_ret (res3 Tryd.results56 _ w.heap.size rfl _ _ _ _ _ _ ((zero_five HX1.out _ _ _ _ _).alloc _)) rfl ⟨rfl, (below_five HB1.out (Nat.le_refl _) _ _ _ _ _).alloc (by have := (below_five HB1.out (Nat.le_refl _) (.int .i64 0) (.int .i64 0) (.int .i64 0) (.int .i64 0) (.string ⟨#[]⟩)).size; exact this) _⟩

set_option maxHeartbeats 8000000 in
theorem read_over_e (b o a : Nat) (O S W1 C : Int) (w : World) (ha : a ≤ 1000000) (N : Int) (HRH : Hid (∀ W, Below w.heap.size w W → Calls Tryd.prog 74 #[.slice (some ⟨b, o + a, none⟩) 12 12] W fun e w' => e = .returned (.agg #[.int .i64 O, .int .i64 S, .int .i64 W1, .int .i64 C, .int .i64 N]) ∧ Below W.heap.size W w')) (hn : ((0 : Nat) : Int) < N) :
    Calls Tryd.prog 56 #[.slice (some ⟨b, o, none⟩) (a + 12 : Nat) (a + 12), .int .i64 (a : Int)] w (noT w) := by
  have ea : decide ((a : Int) < 0) = false := by simp
  have e2 : decide (((0 : Nat) : Int) < N) = true := by simpa using hn
  have HBX := Lib.hid (Bx.new 36 w #[.int .i64 0, .int .i64 0, .int .i64 0, .int .i64 0, .string ⟨#[]⟩])
  go_enter Tryd.func56, Tryd.ntmps56
  go_wp2_with fail
  refine (HRH.out _ (alloc_below _ _)).mono ?_
  rintro e w1 ⟨rfl, b1⟩
  have HB1 : Hid (Below w.heap.size w w1) := Lib.hid (bn (alloc_below _ _) b1)
  have HX1 := Lib.hid (HBX.out.below b1)
  have hlx := HX1.out.lt
  clear HRH b1 HBX
  obtain ⟨c0, c1, c2, c3, c4⟩ := HX1.out.five
  have f0 := HX1.out.soft 0
  have f1 := HX1.out.soft 1
  have f2 := HX1.out.soft 2
  have f3 := HX1.out.soft 3
  have f4 := HX1.out.soft 4
  go_wp2
  exact bodyPost_ret (res3 Tryd.results56 _ w.heap.size rfl _ _ _ _ _ _ ((zero_five HX1.out _ _ _ _ _).alloc _)) rfl ⟨rfl, (below_five HB1.out (Nat.le_refl _) _ _ _ _ _).alloc (by have := (below_five HB1.out (Nat.le_refl _) (.int .i64 0) (.int .i64 0) (.int .i64 0) (.int .i64 0) (.string ⟨#[]⟩)).size; exact this) _⟩

set_option maxHeartbeats 8000000 in
theorem read_no_m (ln b o cap a n : Nat) (O S W1 C : Int) (T : ByteArray) (w : World) (hl : ln ≤ 1000000) (hcl : ln ≤ cap) (h12 : a + 12 ≤ ln) (hcap : ¬ cap = a + 12) (hn : n ≤ ln - (a + 12)) (HRH : Hid (∀ W, Below w.heap.size w W → Calls Tryd.prog 74 #[.slice (some ⟨b, o + a, none⟩) 12 (cap - a)] W fun e w' => e = .returned (.agg #[.int .i64 O, .int .i64 S, .int .i64 W1, .int .i64 C, .int .i64 (n : Int)]) ∧ Below W.heap.size W w')) (HCV : Hid (∀ W, Below w.heap.size w W → (convert 55 9 (.slice (some ⟨b, o + (a + 12), none⟩) n (cap - (a + 12)))).run Tryd.prog W = .ok (.string T) W))
    (HM : Hid (∀ W, Below w.heap.size w W → Calls Tryd.prog 64 #[.agg #[.int .i64 O, .int .i64 S, .int .i64 W1, .int .i64 C, .string T]] W fun e w' => e = .returned (.bool false) ∧ Below W.heap.size W w')) :
    Calls Tryd.prog 56 #[.slice (some ⟨b, o, none⟩) ln cap, .int .i64 (a : Int)] w (noT w) := by
  have ea : decide ((a : Int) < 0) = false := by simp
  have eb : decide ((ln : Int) - (a : Int) < 12) = false := by simp; omega
  have hca : ¬ cap = a := by omega
  have hlt : a + 12 ≤ cap := by omega
  have e2 : decide (((ln - (a + 12) : Nat) : Int) < (n : Int)) = false := by simp; omega
  have hnc : n ≤ cap - (a + 12) := by omega
  have hc2 : ¬ cap - (a + 12) = 0 := by omega
  have HBX := Lib.hid (Bx.new 36 w #[.int .i64 0, .int .i64 0, .int .i64 0, .int .i64 0, .string ⟨#[]⟩])
  go_enter Tryd.func56, Tryd.ntmps56
  go_wp2_with fail
  refine (HRH.out _ (alloc_below _ _)).mono ?_
  rintro e w1 ⟨rfl, b1⟩
  have HB1 : Hid (Below w.heap.size w w1) := Lib.hid (bn (alloc_below _ _) b1)
  have HX1 := Lib.hid (HBX.out.below b1)
  have hlx := HX1.out.lt
  clear HRH b1 HBX
  go_wp2_with fail
  obtain ⟨W0, hW0⟩ : ∃ W0, W0 = w1.alloc (.cells #[.int .i64 O, .int .i64 S, .int .i64 W1, .int .i64 C, .int .i64 (n : Int)] 116) := ⟨_, rfl⟩
  have HD0 : Hid (Bx 116 W0 w1.heap.size #[.int .i64 O, .int .i64 S, .int .i64 W1, .int .i64 C, .int .i64 (n : Int)]) := Lib.hid (by rw [hW0]; exact Bx.new _ _ _)
  have HB0 : Hid (Below w.heap.size w W0) := Lib.hid (by rw [hW0]; exact HB1.out.alloc HB1.out.size _)
  have HX0 : Hid (Bx 36 W0 w.heap.size #[.int .i64 0, .int .i64 0, .int .i64 0, .int .i64 0, .string ⟨#[]⟩]) := Lib.hid (by rw [hW0]; exact HX1.out.alloc _)
  have hlx0 := HX0.out.lt
  have hld0 := HD0.out.lt
  obtain ⟨d0, d1, d2, d3, d4⟩ := HD0.out.five
  have v1 := HCV.out W0 HB0.out
  have v2 := HCV.out W0.drew HB0.out.drew
  have v3 := HCV.out (W0.alloc (.cells #[.int .i64 0, .int .i64 0, .int .i64 0, .int .i64 0, .string ⟨#[]⟩] 36)).drew (HB0.out.alloc HB0.out.size _).drew
  rw [← hW0]
  clear hW0 HX1 HB1 HCV
  go_region
  all_goals (
    obtain ⟨W2, hW2⟩ : ∃ W2, W2 = (W0.alloc (.cells #[.int .i64 O, .int .i64 S, .int .i64 W1, .int .i64 C, .string T] 36)).drew := ⟨_, rfl⟩
    have HR2 : Hid (Bx 36 W2 W0.heap.size #[.int .i64 O, .int .i64 S, .int .i64 W1, .int .i64 C, .string T]) := Lib.hid (by rw [hW2]; exact Bx.new _ _ _)
    have HX2 : Hid (Bx 36 W2 w.heap.size #[.int .i64 0, .int .i64 0, .int .i64 0, .int .i64 0, .string ⟨#[]⟩]) := Lib.hid (by rw [hW2]; exact HX0.out.alloc _)
    have HD2 : Hid (Bx 116 W2 w1.heap.size #[.int .i64 O, .int .i64 S, .int .i64 W1, .int .i64 C, .int .i64 (n : Int)]) := Lib.hid (by rw [hW2]; exact HD0.out.alloc _)
    have HB2 : Hid (Below w.heap.size w W2) := Lib.hid (by rw [hW2]; exact (HB0.out.alloc HB0.out.size _).drew)
    rw [← hW2]
    clear hW2 HD0 HB0 HX0 d0 d1 d2 d3 d4 v1 v2 v3
    obtain ⟨r0, r1, r2, r3, r4⟩ := HR2.out.five
    have hlr := HR2.out.lt
    go_wp2_with fail
    refine (HM.out _ HB2.out).mono ?_
    rintro e w3 ⟨rfl, b3⟩
    have HR3 := Lib.hid (HR2.out.below b3)
    have HX3 := Lib.hid (HX2.out.below b3)
    have HD3 := Lib.hid (HD2.out.below b3)
    have HB3 : Hid (Below w.heap.size w w3) := Lib.hid (bn HB2.out b3)
    clear r0 r1 r2 r3 r4 hlr HR2 HX2 HD2 HB2 b3 HM
    obtain ⟨c0, c1, c2, c3, c4⟩ := HX3.out.five
    have f0 := HX3.out.soft 0
    have f1 := HX3.out.soft 1
    have f2 := HX3.out.soft 2
    have f3 := HX3.out.soft 3
    have f4 := HX3.out.soft 4
    have hlx3 := HX3.out.lt
    go_wp2
    exact bodyPost_ret (res3 Tryd.results56 _ w.heap.size rfl _ _ _ _ _ _ (zero_five HX3.out _ _ _ _ _)) rfl ⟨rfl, below_five HB3.out (Nat.le_refl _) _ _ _ _ _⟩)

set_option maxHeartbeats 8000000 in
theorem read_yes_m (ln b o cap a n : Nat) (O S W1 C : Int) (T : ByteArray) (w : World) (hl : ln ≤ 1000000) (hcl : ln ≤ cap) (h12 : a + 12 ≤ ln) (hcap : ¬ cap = a + 12) (hn : n ≤ ln - (a + 12)) (HRH : Hid (∀ W, Below w.heap.size w W → Calls Tryd.prog 74 #[.slice (some ⟨b, o + a, none⟩) 12 (cap - a)] W fun e w' => e = .returned (.agg #[.int .i64 O, .int .i64 S, .int .i64 W1, .int .i64 C, .int .i64 (n : Int)]) ∧ Below W.heap.size W w')) (HCV : Hid (∀ W, Below w.heap.size w W → (convert 55 9 (.slice (some ⟨b, o + (a + 12), none⟩) n (cap - (a + 12)))).run Tryd.prog W = .ok (.string T) W))
    (HM : Hid (∀ W, Below w.heap.size w W → Calls Tryd.prog 64 #[.agg #[.int .i64 O, .int .i64 S, .int .i64 W1, .int .i64 C, .string T]] W fun e w' => e = .returned (.bool true) ∧ Below W.heap.size W w')) :
    Calls Tryd.prog 56 #[.slice (some ⟨b, o, none⟩) ln cap, .int .i64 (a : Int)] w (yesT ⟨O, S, W1, C, T⟩ ((a : Int) + 12 + (n : Int)) w) := by
  have ea : decide ((a : Int) < 0) = false := by simp
  have eb : decide ((ln : Int) - (a : Int) < 12) = false := by simp; omega
  have hca : ¬ cap = a := by omega
  have hlt : a + 12 ≤ cap := by omega
  have e2 : decide (((ln - (a + 12) : Nat) : Int) < (n : Int)) = false := by simp; omega
  have hnc : n ≤ cap - (a + 12) := by omega
  have hc2 : ¬ cap - (a + 12) = 0 := by omega
  have HBX := Lib.hid (Bx.new 36 w #[.int .i64 0, .int .i64 0, .int .i64 0, .int .i64 0, .string ⟨#[]⟩])
  go_enter Tryd.func56, Tryd.ntmps56
  go_wp2_with fail
  refine (HRH.out _ (alloc_below _ _)).mono ?_
  rintro e w1 ⟨rfl, b1⟩
  have HB1 : Hid (Below w.heap.size w w1) := Lib.hid (bn (alloc_below _ _) b1)
  have HX1 := Lib.hid (HBX.out.below b1)
  have hlx := HX1.out.lt
  clear HRH b1 HBX
  go_wp2_with fail
  obtain ⟨W0, hW0⟩ : ∃ W0, W0 = w1.alloc (.cells #[.int .i64 O, .int .i64 S, .int .i64 W1, .int .i64 C, .int .i64 (n : Int)] 116) := ⟨_, rfl⟩
  have HD0 : Hid (Bx 116 W0 w1.heap.size #[.int .i64 O, .int .i64 S, .int .i64 W1, .int .i64 C, .int .i64 (n : Int)]) := Lib.hid (by rw [hW0]; exact Bx.new _ _ _)
  have HB0 : Hid (Below w.heap.size w W0) := Lib.hid (by rw [hW0]; exact HB1.out.alloc HB1.out.size _)
  have HX0 : Hid (Bx 36 W0 w.heap.size #[.int .i64 0, .int .i64 0, .int .i64 0, .int .i64 0, .string ⟨#[]⟩]) := Lib.hid (by rw [hW0]; exact HX1.out.alloc _)
  have hlx0 := HX0.out.lt
  have hld0 := HD0.out.lt
  obtain ⟨d0, d1, d2, d3, d4⟩ := HD0.out.five
  have v1 := HCV.out W0 HB0.out
  have v2 := HCV.out W0.drew HB0.out.drew
  have v3 := HCV.out (W0.alloc (.cells #[.int .i64 0, .int .i64 0, .int .i64 0, .int .i64 0, .string ⟨#[]⟩] 36)).drew (HB0.out.alloc HB0.out.size _).drew
  rw [← hW0]
  clear hW0 HX1 HB1 HCV
  go_region
  all_goals (
    obtain ⟨W2, hW2⟩ : ∃ W2, W2 = (W0.alloc (.cells #[.int .i64 O, .int .i64 S, .int .i64 W1, .int .i64 C, .string T] 36)).drew := ⟨_, rfl⟩
    have HR2 : Hid (Bx 36 W2 W0.heap.size #[.int .i64 O, .int .i64 S, .int .i64 W1, .int .i64 C, .string T]) := Lib.hid (by rw [hW2]; exact Bx.new _ _ _)
    have HX2 : Hid (Bx 36 W2 w.heap.size #[.int .i64 0, .int .i64 0, .int .i64 0, .int .i64 0, .string ⟨#[]⟩]) := Lib.hid (by rw [hW2]; exact HX0.out.alloc _)
    have HD2 : Hid (Bx 116 W2 w1.heap.size #[.int .i64 O, .int .i64 S, .int .i64 W1, .int .i64 C, .int .i64 (n : Int)]) := Lib.hid (by rw [hW2]; exact HD0.out.alloc _)
    have HB2 : Hid (Below w.heap.size w W2) := Lib.hid (by rw [hW2]; exact (HB0.out.alloc HB0.out.size _).drew)
    rw [← hW2]
    clear hW2 HD0 HB0 HX0 d0 d1 d2 d3 d4 v1 v2 v3
    obtain ⟨r0, r1, r2, r3, r4⟩ := HR2.out.five
    have hlr := HR2.out.lt
    go_wp2_with fail
    refine (HM.out _ HB2.out).mono ?_
    rintro e w3 ⟨rfl, b3⟩
    have HR3 := Lib.hid (HR2.out.below b3)
    have HX3 := Lib.hid (HX2.out.below b3)
    have HD3 := Lib.hid (HD2.out.below b3)
    have HB3 : Hid (Below w.heap.size w w3) := Lib.hid (bn HB2.out b3)
    clear r0 r1 r2 r3 r4 hlr HR2 HX2 HD2 HB2 b3 HM
    obtain ⟨c0, c1, c2, c3, c4⟩ := HX3.out.five
    have f0 := HX3.out.soft 0
    have f1 := HX3.out.soft 1
    have f2 := HX3.out.soft 2
    have f3 := HX3.out.soft 3
    have f4 := HX3.out.soft 4
    have hlx3 := HX3.out.lt
    obtain ⟨r0, r1, r2, r3, r4⟩ := HR3.out.five
    have hlr := HR3.out.lt
    have d4 := HD3.out.cell 4
    simp only [List.getElem?_toArray, List.getElem?_cons_zero, List.getElem?_cons_succ] at d4
    have hld := HD3.out.lt
    go_wp2_with fail
    go_region
    all_goals go_wp2
    all_goals exact bodyPost_ret (res3 Tryd.results56 _ w.heap.size rfl _ _ _ _ _ _ (zero_five HX3.out _ _ _ _ _)) rfl ⟨rfl, (below_five HB3.out (Nat.le_refl _) _ _ _ _ _).drew⟩)

set_option maxHeartbeats 8000000 in
theorem read_no_e (b o a : Nat) (O S W1 C : Int) (T : ByteArray) (w : World) (ha : a ≤ 1000000) (HRH : Hid (∀ W, Below w.heap.size w W → Calls Tryd.prog 74 #[.slice (some ⟨b, o + a, none⟩) 12 12] W fun e w' => e = .returned (.agg #[.int .i64 O, .int .i64 S, .int .i64 W1, .int .i64 C, .int .i64 0]) ∧ Below W.heap.size W w')) (HCV : Hid (∀ W, Below w.heap.size w W → (convert 55 9 (.slice (some ⟨b, o, none⟩) 0 0)).run Tryd.prog W = .ok (.string T) W))
    (HM : Hid (∀ W, Below w.heap.size w W → Calls Tryd.prog 64 #[.agg #[.int .i64 O, .int .i64 S, .int .i64 W1, .int .i64 C, .string T]] W fun e w' => e = .returned (.bool false) ∧ Below W.heap.size W w')) :
    Calls Tryd.prog 56 #[.slice (some ⟨b, o, none⟩) (a + 12 : Nat) (a + 12), .int .i64 (a : Int)] w (noT w) := by
  have ea : decide ((a : Int) < 0) = false := by simp
  have HBX := Lib.hid (Bx.new 36 w #[.int .i64 0, .int .i64 0, .int .i64 0, .int .i64 0, .string ⟨#[]⟩])
  go_enter Tryd.func56, Tryd.ntmps56
  go_wp2_with fail
  refine (HRH.out _ (alloc_below _ _)).mono ?_
  rintro e w1 ⟨rfl, b1⟩
  have HB1 : Hid (Below w.heap.size w w1) := Lib.hid (bn (alloc_below _ _) b1)
  have HX1 := Lib.hid (HBX.out.below b1)
  have hlx := HX1.out.lt
  clear HRH b1 HBX
  go_wp2_with fail
  obtain ⟨W0, hW0⟩ : ∃ W0, W0 = w1.alloc (.cells #[.int .i64 O, .int .i64 S, .int .i64 W1, .int .i64 C, .int .i64 0] 116) := ⟨_, rfl⟩
  have HD0 : Hid (Bx 116 W0 w1.heap.size #[.int .i64 O, .int .i64 S, .int .i64 W1, .int .i64 C, .int .i64 0]) := Lib.hid (by rw [hW0]; exact Bx.new _ _ _)
  have HB0 : Hid (Below w.heap.size w W0) := Lib.hid (by rw [hW0]; exact HB1.out.alloc HB1.out.size _)
  have HX0 : Hid (Bx 36 W0 w.heap.size #[.int .i64 0, .int .i64 0, .int .i64 0, .int .i64 0, .string ⟨#[]⟩]) := Lib.hid (by rw [hW0]; exact HX1.out.alloc _)
  have hlx0 := HX0.out.lt
  have hld0 := HD0.out.lt
  obtain ⟨d0, d1, d2, d3, d4⟩ := HD0.out.five
  have v1 := HCV.out W0 HB0.out
  have v2 := HCV.out W0.drew HB0.out.drew
  have v3 := HCV.out (W0.alloc (.cells #[.int .i64 0, .int .i64 0, .int .i64 0, .int .i64 0, .string ⟨#[]⟩] 36)).drew (HB0.out.alloc HB0.out.size _).drew
  rw [← hW0]
  clear hW0 HX1 HB1 HCV
  go_region
  all_goals (
    obtain ⟨W2, hW2⟩ : ∃ W2, W2 = (W0.alloc (.cells #[.int .i64 O, .int .i64 S, .int .i64 W1, .int .i64 C, .string T] 36)).drew := ⟨_, rfl⟩
    have HR2 : Hid (Bx 36 W2 W0.heap.size #[.int .i64 O, .int .i64 S, .int .i64 W1, .int .i64 C, .string T]) := Lib.hid (by rw [hW2]; exact Bx.new _ _ _)
    have HX2 : Hid (Bx 36 W2 w.heap.size #[.int .i64 0, .int .i64 0, .int .i64 0, .int .i64 0, .string ⟨#[]⟩]) := Lib.hid (by rw [hW2]; exact HX0.out.alloc _)
    have HD2 : Hid (Bx 116 W2 w1.heap.size #[.int .i64 O, .int .i64 S, .int .i64 W1, .int .i64 C, .int .i64 0]) := Lib.hid (by rw [hW2]; exact HD0.out.alloc _)
    have HB2 : Hid (Below w.heap.size w W2) := Lib.hid (by rw [hW2]; exact (HB0.out.alloc HB0.out.size _).drew)
    rw [← hW2]
    clear hW2 HD0 HB0 HX0 d0 d1 d2 d3 d4 v1 v2 v3
    obtain ⟨r0, r1, r2, r3, r4⟩ := HR2.out.five
    have hlr := HR2.out.lt
    go_wp2_with fail
    refine (HM.out _ HB2.out).mono ?_
    rintro e w3 ⟨rfl, b3⟩
    have HR3 := Lib.hid (HR2.out.below b3)
    have HX3 := Lib.hid (HX2.out.below b3)
    have HD3 := Lib.hid (HD2.out.below b3)
    have HB3 : Hid (Below w.heap.size w w3) := Lib.hid (bn HB2.out b3)
    clear r0 r1 r2 r3 r4 hlr HR2 HX2 HD2 HB2 b3 HM
    obtain ⟨c0, c1, c2, c3, c4⟩ := HX3.out.five
    have f0 := HX3.out.soft 0
    have f1 := HX3.out.soft 1
    have f2 := HX3.out.soft 2
    have f3 := HX3.out.soft 3
    have f4 := HX3.out.soft 4
    have hlx3 := HX3.out.lt
    go_wp2
    exact bodyPost_ret (res3 Tryd.results56 _ w.heap.size rfl _ _ _ _ _ _ (zero_five HX3.out _ _ _ _ _)) rfl ⟨rfl, below_five HB3.out (Nat.le_refl _) _ _ _ _ _⟩)

set_option maxHeartbeats 8000000 in
theorem read_yes_e (b o a : Nat) (O S W1 C : Int) (T : ByteArray) (w : World) (ha : a ≤ 1000000) (HRH : Hid (∀ W, Below w.heap.size w W → Calls Tryd.prog 74 #[.slice (some ⟨b, o + a, none⟩) 12 12] W fun e w' => e = .returned (.agg #[.int .i64 O, .int .i64 S, .int .i64 W1, .int .i64 C, .int .i64 0]) ∧ Below W.heap.size W w')) (HCV : Hid (∀ W, Below w.heap.size w W → (convert 55 9 (.slice (some ⟨b, o, none⟩) 0 0)).run Tryd.prog W = .ok (.string T) W))
    (HM : Hid (∀ W, Below w.heap.size w W → Calls Tryd.prog 64 #[.agg #[.int .i64 O, .int .i64 S, .int .i64 W1, .int .i64 C, .string T]] W fun e w' => e = .returned (.bool true) ∧ Below W.heap.size W w')) :
    Calls Tryd.prog 56 #[.slice (some ⟨b, o, none⟩) (a + 12 : Nat) (a + 12), .int .i64 (a : Int)] w (yesT ⟨O, S, W1, C, T⟩ ((a : Int) + 12) w) := by
  have ea : decide ((a : Int) < 0) = false := by simp
  have HBX := Lib.hid (Bx.new 36 w #[.int .i64 0, .int .i64 0, .int .i64 0, .int .i64 0, .string ⟨#[]⟩])
  go_enter Tryd.func56, Tryd.ntmps56
  go_wp2_with fail
  refine (HRH.out _ (alloc_below _ _)).mono ?_
  rintro e w1 ⟨rfl, b1⟩
  have HB1 : Hid (Below w.heap.size w w1) := Lib.hid (bn (alloc_below _ _) b1)
  have HX1 := Lib.hid (HBX.out.below b1)
  have hlx := HX1.out.lt
  clear HRH b1 HBX
  go_wp2_with fail
  obtain ⟨W0, hW0⟩ : ∃ W0, W0 = w1.alloc (.cells #[.int .i64 O, .int .i64 S, .int .i64 W1, .int .i64 C, .int .i64 0] 116) := ⟨_, rfl⟩
  have HD0 : Hid (Bx 116 W0 w1.heap.size #[.int .i64 O, .int .i64 S, .int .i64 W1, .int .i64 C, .int .i64 0]) := Lib.hid (by rw [hW0]; exact Bx.new _ _ _)
  have HB0 : Hid (Below w.heap.size w W0) := Lib.hid (by rw [hW0]; exact HB1.out.alloc HB1.out.size _)
  have HX0 : Hid (Bx 36 W0 w.heap.size #[.int .i64 0, .int .i64 0, .int .i64 0, .int .i64 0, .string ⟨#[]⟩]) := Lib.hid (by rw [hW0]; exact HX1.out.alloc _)
  have hlx0 := HX0.out.lt
  have hld0 := HD0.out.lt
  obtain ⟨d0, d1, d2, d3, d4⟩ := HD0.out.five
  have v1 := HCV.out W0 HB0.out
  have v2 := HCV.out W0.drew HB0.out.drew
  have v3 := HCV.out (W0.alloc (.cells #[.int .i64 0, .int .i64 0, .int .i64 0, .int .i64 0, .string ⟨#[]⟩] 36)).drew (HB0.out.alloc HB0.out.size _).drew
  rw [← hW0]
  clear hW0 HX1 HB1 HCV
  go_region
  all_goals (
    obtain ⟨W2, hW2⟩ : ∃ W2, W2 = (W0.alloc (.cells #[.int .i64 O, .int .i64 S, .int .i64 W1, .int .i64 C, .string T] 36)).drew := ⟨_, rfl⟩
    have HR2 : Hid (Bx 36 W2 W0.heap.size #[.int .i64 O, .int .i64 S, .int .i64 W1, .int .i64 C, .string T]) := Lib.hid (by rw [hW2]; exact Bx.new _ _ _)
    have HX2 : Hid (Bx 36 W2 w.heap.size #[.int .i64 0, .int .i64 0, .int .i64 0, .int .i64 0, .string ⟨#[]⟩]) := Lib.hid (by rw [hW2]; exact HX0.out.alloc _)
    have HD2 : Hid (Bx 116 W2 w1.heap.size #[.int .i64 O, .int .i64 S, .int .i64 W1, .int .i64 C, .int .i64 0]) := Lib.hid (by rw [hW2]; exact HD0.out.alloc _)
    have HB2 : Hid (Below w.heap.size w W2) := Lib.hid (by rw [hW2]; exact (HB0.out.alloc HB0.out.size _).drew)
    rw [← hW2]
    clear hW2 HD0 HB0 HX0 d0 d1 d2 d3 d4 v1 v2 v3
    obtain ⟨r0, r1, r2, r3, r4⟩ := HR2.out.five
    have hlr := HR2.out.lt
    go_wp2_with fail
    refine (HM.out _ HB2.out).mono ?_
    rintro e w3 ⟨rfl, b3⟩
    have HR3 := Lib.hid (HR2.out.below b3)
    have HX3 := Lib.hid (HX2.out.below b3)
    have HD3 := Lib.hid (HD2.out.below b3)
    have HB3 : Hid (Below w.heap.size w w3) := Lib.hid (bn HB2.out b3)
    clear r0 r1 r2 r3 r4 hlr HR2 HX2 HD2 HB2 b3 HM
    obtain ⟨c0, c1, c2, c3, c4⟩ := HX3.out.five
    have f0 := HX3.out.soft 0
    have f1 := HX3.out.soft 1
    have f2 := HX3.out.soft 2
    have f3 := HX3.out.soft 3
    have f4 := HX3.out.soft 4
    have hlx3 := HX3.out.lt
    obtain ⟨r0, r1, r2, r3, r4⟩ := HR3.out.five
    have hlr := HR3.out.lt
    have d4 := HD3.out.cell 4
    simp only [List.getElem?_toArray, List.getElem?_cons_zero, List.getElem?_cons_succ] at d4
    have hld := HD3.out.lt
    go_wp2_with fail
    go_region
    all_goals go_wp2
    all_goals exact bodyPost_ret (res3 Tryd.results56 _ w.heap.size rfl _ _ _ _ _ _ (zero_five HX3.out _ _ _ _ _)) rfl ⟨rfl, (below_five HB3.out (Nat.le_refl _) _ _ _ _ _).drew⟩)
end Go.Proofs.YtchkadifjbmmpaaDoor.R
