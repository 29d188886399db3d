/-
  Chapter 8's own entry, by contract.
-/
import Derived.Test.YtcnpckdchjjeoaaDoorSegNext
namespace Go.Proofs.YtcnpckdchjjeoaaDoor
open Go.RowKit Go.Lib
set_option maxRecDepth 100000

/-- The entry that a frame holds, if it may be for n. -/
def refE (kind : Int) (l : List Int) (n : Int) : Option En :=
  match unE kind l with
  | none => none
  | some e => if mayE e n = true then some e else none
def entT (kind : Int) (l : List Int) (n : Int) (w : World) (x : Ending) (w' : World) : Prop :=
  ∃ d a b, x = .returned (.tuple #[.agg #[.int .i64 d.k, a, b, .int .i64 d.r.o, .int .i64 d.r.s, .int .i64 d.r.w, .int .i64 d.r.c, .string d.r.t], .bool (refE kind l n).isSome]) ∧ (∀ e, refE kind l n = some e → d = e) ∧ Row w' w.heap.size a d.v ∧ Row w' w.heap.size b d.w ∧ apart a b ∧ Below w.heap.size w w'
theorem entT_of {kind : Int} {l : List Int} {n : Int} {w w' : World} (d : En) (a b : Value) (S : Bool) (hS : (refE kind l n).isSome = S) (hd : ∀ e, refE kind l n = some e → d = e) (ha : Row w' w.heap.size a d.v) (hb : Row w' w.heap.size b d.w) (hp : apart a b) (hB : Below w.heap.size w w') :
    entT kind l n w (.returned (.tuple #[.agg #[.int .i64 d.k, a, b, .int .i64 d.r.o, .int .i64 d.r.s, .int .i64 d.r.w, .int .i64 d.r.c, .string d.r.t], .bool S])) w' := by
  subst hS
  exact ⟨d, a, b, rfl, hd, ha, hb, hp, hB⟩


theorem tvT_rest {l x r : List Int} (h : tvT l = some (x, r)) : r = l.drop (1 + 2 * x.length) ∧ 1 + 2 * x.length ≤ l.length := by
  cases l with
  | nil => cases h
  | cons c t =>
    by_cases hp : 2 * c.toNat ≤ t.length
    · rw [tvT_cons c t hp] at h
      simp only [Option.some.injEq, Prod.mk.injEq] at h
      obtain ⟨rfl, rfl⟩ := h
      rw [unV_len, Nat.add_comm 1, List.drop_succ_cons]
      exact ⟨rfl, by simp; omega⟩
    · rw [tvT_short c t hp] at h
      cases h
theorem rtT_some {l : List Int} {a : Nat} {n : Int} {x : List Int} {p : Nat} (h : rtT l a n = some (x, p)) : ∃ r, tvT (l.drop a) = some (x, r) ∧ (x.length : Int) = n ∧ p = a + 1 + 2 * x.length ∧ r = l.drop p ∧ p ≤ l.length := by
  unfold rtT at h
  split at h
  · rename_i y r hy
    split at h
    · rename_i hn
      simp only [Option.some.injEq, Prod.mk.injEq] at h
      obtain ⟨rfl, rfl⟩ := h
      obtain ⟨e1, e2⟩ := tvT_rest hy
      rw [List.length_drop] at e2
      refine ⟨r, hy, hn, rfl, ?_, by omega⟩
      rw [e1, List.drop_drop, Nat.add_assoc]
    · cases h
  · cases h
theorem rtT_none {l : List Int} {a : Nat} {n : Int} (h : rtT l a n = none) : ∀ x r, tvT (l.drop a) = some (x, r) → ¬ (x.length : Int) = n := by
  intro x r hx hn
  unfold rtT at h
  rw [hx] at h
  simp only [if_pos hn] at h
  cases h
theorem mayB_no {l : List Int} {n : Int} (h : ¬ (l.length : Int) = n) : mayB l n = false := by
  unfold mayB
  rw [decide_eq_false h]
  simp
theorem refE_one_no {kind : Int} {l : List Int} {n : Int} (k : kind = 1) (h : rtT l 0 n = none) : refE kind l n = none := by
  have h1 := rtT_none h
  rw [List.drop_zero] at h1
  unfold refE unE
  rw [if_pos k]
  cases ht : tvT l with
  | none => rfl
  | some p =>
    obtain ⟨v, r⟩ := p
    have h2 := mayB_no (h1 v r ht)
    simp only
    cases ht2 : tvT r with
    | none => rfl
    | some q =>
      obtain ⟨w, t⟩ := q
      simp only
      by_cases h3 : (t.length : Int) = 0
      · simp only [if_pos h3]
        rw [if_neg]
        unfold mayE
        rw [if_pos k, h2]
        simp
      · simp only [if_neg h3]
theorem refE_one_no2 {kind : Int} {l : List Int} {n : Int} {v : List Int} {p : Nat} (k : kind = 1) (h : rtT l 0 n = some (v, p)) (h' : rtT l p n = none) : refE kind l n = none := by
  obtain ⟨r, h1, h2, h3, h4, h5⟩ := rtT_some h
  have h6 := rtT_none h'
  rw [List.drop_zero] at h1
  rw [← h4] at h6
  unfold refE unE
  rw [if_pos k, h1]
  simp only
  cases ht2 : tvT r with
  | none => rfl
  | some q =>
    obtain ⟨w, t⟩ := q
    have h7 := mayB_no (h6 w t ht2)
    simp only
    by_cases h3 : (t.length : Int) = 0
    · simp only [if_pos h3]
      rw [if_neg]
      unfold mayE
      rw [if_pos k, h7]
      simp
    · simp only [if_neg h3]
theorem refE_one_yes {kind : Int} {l : List Int} {n : Int} {v w : List Int} {p q : Nat} (k : kind = 1) (h : rtT l 0 n = some (v, p)) (h' : rtT l p n = some (w, q)) : refE kind l n = if (q : Int) = (l.length : Int) then (if mayE ⟨kind, v, w, zeroR⟩ n = true then some ⟨kind, v, w, zeroR⟩ else none) else none := by
  obtain ⟨r, h1, h2, h3, h4, h5⟩ := rtT_some h
  obtain ⟨t, g1, g2, g3, g4, g5⟩ := rtT_some h'
  rw [List.drop_zero] at h1
  rw [← h4] at g1
  unfold refE unE
  rw [if_pos k, h1]
  simp only [g1]
  have e : ((t.length : Int) = 0) ↔ ((q : Int) = (l.length : Int)) := by
    rw [g4, List.length_drop]
    omega
  by_cases hq : (q : Int) = (l.length : Int)
  · simp only [if_pos hq, if_pos (e.2 hq)]
  · simp only [if_neg hq, if_neg (fun h => hq (e.1 h))]
theorem refE_three_no {kind : Int} {l : List Int} {n : Int} (k : kind = 3) (h : rtT l 0 n = none) : refE kind l n = none := by
  have h1 := rtT_none h
  rw [List.drop_zero] at h1
  unfold refE unE
  rw [if_neg (by omega), if_neg (by omega), if_pos k]
  cases ht : tvT l with
  | none => rfl
  | some p =>
    obtain ⟨v, t⟩ := p
    have h2 := mayB_no (h1 v t ht)
    simp only
    by_cases h3 : (t.length : Int) = 0
    · simp only [if_pos h3]
      rw [if_neg]
      unfold mayE
      rw [if_neg (show ¬ kind = 1 by omega), if_neg (show ¬ kind = 2 by omega), if_pos (show kind = 3 from k), h2]
      simp
    · simp only [if_neg h3]
theorem refE_three_yes {kind : Int} {l : List Int} {n : Int} {v : List Int} {p : Nat} (k : kind = 3) (h : rtT l 0 n = some (v, p)) : refE kind l n = if (p : Int) = (l.length : Int) then (if mayE ⟨kind, [], v, zeroR⟩ n = true then some ⟨kind, [], v, zeroR⟩ else none) else none := by
  obtain ⟨r, h1, h2, h3, h4, h5⟩ := rtT_some h
  rw [List.drop_zero] at h1
  unfold refE unE
  rw [if_neg (by omega), if_neg (by omega), if_pos k, h1]
  have e : ((r.length : Int) = 0) ↔ ((p : Int) = (l.length : Int)) := by
    rw [h4, List.length_drop]
    omega
  by_cases hq : (p : Int) = (l.length : Int)
  · simp only [if_pos hq, if_pos (e.2 hq)]
  · simp only [if_neg hq, if_neg (fun h => hq (e.1 h))]

theorem if_some_eq {M : Bool} {d e : En} (h : (if M = true then some d else none) = some e) : d = e := by
  cases M
  · cases h
  · simpa using h
theorem Bx.drew {T : TypeId} {w : World} {g : Nat} {cs : Array Value} (h : Bx T w g cs) : Bx T w.drew g cs := h
theorem Row.drew {w : World} {B : Nat} {v : Value} {l : List Int} (h : Row w B v l) : Row w.drew B v l := h
theorem Row.cellFar {w : World} {B g k : Nat} {v : Value} {l : List Int} (h : Row w B v l) (hg : g < B) (u : Value) : Row (w.setCell ⟨g, k, none⟩ u) B v l := by
  have hb := (Below.refl (g + 1) w)
  refine h.far (r := some g) ⟨rfl, rfl, rfl, by simp, fun i _ hne => Below.heap_setCell w _ u i (by intro e; exact hne (by rw [e]))⟩ ?_
  rintro g' hg' g'' hg'' rfl
  cases hg'
  exact h.off hg hg''

set_option maxHeartbeats 1000000 in
theorem ent_else (kind : Int) (l : List Int) (ad : Option Addr) (cap : Nat) (n : Int) (w : World) (k1 : ¬ kind = 1) (k2 : ¬ kind = 2) (k3 : ¬ kind = 3) :
    Calls Tryd.prog 46 #[.int .i64 kind, .slice ad l.length cap, .int .i64 n] w (entT kind l n w) := by
  have f1 : (kind == 1) = false := by simpa using k1
  have f2 : (kind == 2) = false := by simpa using k2
  have f3 : (kind == 3) = false := by simpa using k3
  have HU : Hid (refE kind l n = none) := Lib.hid (by unfold refE unE; rw [if_neg k1, if_neg k2, if_neg k3])
  clear k1 k2 k3
  go_enter Tryd.func46, Tryd.ntmps46
  go_wp2
  go_region
  all_goals go_wp2
  all_goals exact bodyPost_ret (res_e2 Tryd.results46 _ w.heap.size rfl _ _ _ _ _ _ _ _ _ ((Bx.new 30 w #[.int .i64 kind, .slice none 0 0, .slice none 0 0, .int .i64 0, .int .i64 0, .int .i64 0, .int .i64 0, .string ⟨#[]⟩]).alloc _)) rfl (entT_of ⟨kind, [], [], zeroR⟩ _ _ false (by rw [HU.out]; rfl) (fun e he => by rw [HU.out] at he; cases he) (Row.nil _ _) (Row.nil _ _) (apart_nil _) (below_two _ _ _).drew)

set_option maxHeartbeats 4000000 in
theorem ent_one (kind : Int) (l : List Int) (v : Value) (n : Int) (w : World) (k1 : kind = 1) (h : Bc w v l) (ho : OkB l) (hl : l.length ≤ 1000000) (hT : Tabs w) :
    Calls Tryd.prog 46 #[.int .i64 kind, v, .int .i64 n] w (entT kind l n w) := by
  have f1 : (kind == 1) = true := by simpa using k1
  have CT : Hid (∀ W (a : Nat), a ≤ l.length → Below w.heap.size w W → Calls Tryd.prog 65 #[v, .int .i64 (a : Int), .int .i64 n] W (rtakeT l a n W)) := Lib.hid (fun W a ha hW => rtake_c l v a n W (h.below hW) ho ha hl)
  obtain ⟨ad, cap, rfl, hcap⟩ := h.2
  obtain ⟨W2, hW2⟩ : ∃ W2, W2 = (w.alloc (.cells #[.int .i64 0, .slice none 0 0, .slice none 0 0, .int .i64 0, .int .i64 0, .int .i64 0, .int .i64 0, .string ⟨#[]⟩] 30)).alloc (.cells #[.int .i64 kind, .slice none 0 0, .slice none 0 0, .int .i64 0, .int .i64 0, .int .i64 0, .int .i64 0, .string ⟨#[]⟩] 30) := ⟨_, rfl⟩
  have HB2 : Hid (Below w.heap.size w W2) := Lib.hid (by rw [hW2]; exact below_two _ _ _)
  have HX2 : Hid (Bx 30 W2 w.heap.size #[.int .i64 0, .slice none 0 0, .slice none 0 0, .int .i64 0, .int .i64 0, .int .i64 0, .int .i64 0, .string ⟨#[]⟩]) := Lib.hid (by rw [hW2]; exact (Bx.new _ _ _).alloc _)
  have HY2 : Hid (Bx 30 W2 (w.heap.size + 1) #[.int .i64 kind, .slice none 0 0, .slice none 0 0, .int .i64 0, .int .i64 0, .int .i64 0, .int .i64 0, .string ⟨#[]⟩]) := Lib.hid (by rw [hW2]; have := Bx.new 30 (w.alloc (.cells #[.int .i64 0, .slice none 0 0, .slice none 0 0, .int .i64 0, .int .i64 0, .int .i64 0, .int .i64 0, .string ⟨#[]⟩] 30)) #[.int .i64 kind, .slice none 0 0, .slice none 0 0, .int .i64 0, .int .i64 0, .int .i64 0, .int .i64 0, .string ⟨#[]⟩]; simpa using this)
  have hz2 : W2.heap.size = w.heap.size + 2 := by rw [hW2]; simp
  have HT := Lib.hid hT
  clear h ho hT
  have C1 := Lib.hid (CT.out W2 0 (Nat.zero_le _) HB2.out)
  unfold rtakeT at C1
  cases ht1 : rtT l 0 n with
  | none =>
    rw [ht1] at C1
    have HU := Lib.hid (refE_one_no k1 ht1)
    clear ht1 k1 CT
    go_enter Tryd.func46, Tryd.ntmps46
    go_wp2_with fail
    rw [← hW2]
    refine C1.out.mono ?_
    rintro x w3 ⟨V3, rfl, h3, b3⟩
    have HV3 := Lib.hid h3
    obtain ⟨ad3, cap3, rfl, _⟩ := h3.nl.form
    have hx3 := HX2.out.below b3
    have hy3 := HY2.out.below b3
    have HB3 := Lib.hid (bn HB2.out b3)
    have HX3 := Lib.hid hx3
    have hlx := hx3.lt
    have hly := hy3.lt
    clear h3 b3
    obtain ⟨c0, c1, c2, c3, c4, c5, c6, c7⟩ := hx3.eight
    have s0 := hx3.soft 0
    have s1 := hx3.soft 1
    have s2 := hx3.soft 2
    have s3 := hx3.soft 3
    have s4 := hx3.soft 4
    have s5 := hx3.soft 5
    have s6 := hx3.soft 6
    have s7 := hx3.soft 7
    obtain ⟨d0, d1, d2, d3, d4, d5, d6, d7⟩ := hy3.eight
    have t0 := hy3.soft 0
    have t1 := hy3.soft 1
    have t2 := hy3.soft 2
    have t3 := hy3.soft 3
    have t4 := hy3.soft 4
    have t5 := hy3.soft 5
    have t6 := hy3.soft 6
    have t7 := hy3.soft 7
    have XF : Hid (Bx 30 (set8 (w3.setCell ⟨w.heap.size + 1, 1, none⟩ (.slice ad3 (rtV none).length cap3)) w.heap.size 0 (.int .i64 kind) (.slice ad3 (rtV none).length cap3) (.slice none 0 0) (.int .i64 0) (.int .i64 0) (.int .i64 0) (.int .i64 0) (.string ⟨#[]⟩)).drew w.heap.size #[.int .i64 kind, .slice ad3 (rtV none).length cap3, .slice none 0 0, .int .i64 0, .int .i64 0, .int .i64 0, .int .i64 0, .string ⟨#[]⟩]) := Lib.hid (((HX3.out.setFar (by simp) _).set8 _ _ _ _ _ _ _ _).drew)
    have fin : Hid (entT kind l n w (.returned (.tuple #[.agg #[.int .i64 kind, .slice ad3 (rtV none).length cap3, .slice none 0 0, .int .i64 0, .int .i64 0, .int .i64 0, .int .i64 0, .string ⟨#[]⟩], .bool false])) (set8 (w3.setCell ⟨w.heap.size + 1, 1, none⟩ (.slice ad3 (rtV none).length cap3)) w.heap.size 0 (.int .i64 kind) (.slice ad3 (rtV none).length cap3) (.slice none 0 0) (.int .i64 0) (.int .i64 0) (.int .i64 0) (.int .i64 0) (.string ⟨#[]⟩)).drew) := Lib.hid (entT_of ⟨kind, [], [], zeroR⟩ _ _ false (by rw [HU.out]; rfl) (fun e he => by rw [HU.out] at he; cases he) ((row_set8 ((HV3.out.cellFar (by omega) _).mono (by omega)) (HV3.out.off (by omega)) _ _ _ _ _ _ _ _).drew) (Row.nil _ _) (apart_nil' _) (below_set8 (HB3.out.setCell (by exact Nat.le_succ _) _) (Nat.le_refl _) _ _ _ _ _ _ _ _ _).drew)
    go_wp2
    go_region
    all_goals go_wp2
    all_goals exact bodyPost_ret (res_e2 Tryd.results46 _ w.heap.size rfl _ _ _ _ _ _ _ _ _ XF.out) rfl fin.out
  | some pr =>
    obtain ⟨x1, p⟩ := pr
    rw [ht1] at C1
    have hp : p ≤ l.length := by
      obtain ⟨_, _, _, _, _, h⟩ := rtT_some ht1
      exact h
    simp only [rtE, rtV, Option.isSome] at C1
    have HT1 := Lib.hid ht1
    have HK1 := Lib.hid k1
    clear ht1 k1
    go_enter Tryd.func46, Tryd.ntmps46
    go_wp2_with fail
    rw [← hW2]
    refine C1.out.mono ?_
    rintro x w3 ⟨V3, rfl, h3, b3⟩
    have HV3 := Lib.hid h3
    obtain ⟨ad3, cap3, rfl, _⟩ := h3.nl.form
    have hx3 := HX2.out.below b3
    have hy3 := HY2.out.below b3
    have HB3 := Lib.hid (bn HB2.out b3)
    have hz3 := b3.size
    have hlx := hx3.lt
    have hly := hy3.lt
    clear h3 b3
    obtain ⟨W4, hW4⟩ : ∃ W4, W4 = w3.setCell ⟨w.heap.size + 1, 1, none⟩ (.slice ad3 x1.length cap3) := ⟨_, rfl⟩
    have HX4 : Hid (Bx 30 W4 w.heap.size #[.int .i64 0, .slice none 0 0, .slice none 0 0, .int .i64 0, .int .i64 0, .int .i64 0, .int .i64 0, .string ⟨#[]⟩]) := Lib.hid (by rw [hW4]; exact hx3.setFar (by simp) _)
    have HY4 : Hid (Bx 30 W4 (w.heap.size + 1) #[.int .i64 kind, .slice ad3 x1.length cap3, .slice none 0 0, .int .i64 0, .int .i64 0, .int .i64 0, .int .i64 0, .string ⟨#[]⟩]) := Lib.hid (by rw [hW4]; exact hy3.set 1 _)
    have HB4 : Hid (Below w.heap.size w W4) := Lib.hid (by rw [hW4]; exact HB3.out.setCell (by exact Nat.le_succ _) _)
    have HV4 : Hid (Row W4 W2.heap.size (.slice ad3 x1.length cap3) x1) := Lib.hid (by rw [hW4]; exact HV3.out.cellFar (by omega) _)
    have hz4 : W4.heap.size = w3.heap.size := by rw [hW4]; simp
    have C2 := Lib.hid (CT.out W4 p hp HB4.out)
    unfold rtakeT at C2
    obtain ⟨c0, c1, c2, c3, c4, c5, c6, c7⟩ := hx3.eight
    have s0 := hx3.soft 0
    have s1 := hx3.soft 1
    have s2 := hx3.soft 2
    have s3 := hx3.soft 3
    have s4 := hx3.soft 4
    have s5 := hx3.soft 5
    have s6 := hx3.soft 6
    have s7 := hx3.soft 7
    obtain ⟨d0, d1, d2, d3, d4, d5, d6, d7⟩ := hy3.eight
    have t0 := hy3.soft 0
    have t1 := hy3.soft 1
    have t2 := hy3.soft 2
    have t3 := hy3.soft 3
    have t4 := hy3.soft 4
    have t5 := hy3.soft 5
    have t6 := hy3.soft 6
    have t7 := hy3.soft 7
    cases ht2 : rtT l p n with
    | none =>
      rw [ht2] at C2
      have HU := Lib.hid (refE_one_no2 HK1.out HT1.out ht2)
      clear ht2
      go_wp2_with fail
      rw [← hW4]
      refine C2.out.mono ?_
      rintro x w5 ⟨V5, rfl, h5, b5⟩
      have HV5 := Lib.hid h5
      have hz5 := b5.size
      obtain ⟨ad5, cap5, rfl, _⟩ := h5.nl.form
      have hx5 := HX4.out.below b5
      have hy5 := HY4.out.below b5
      have HB5 := Lib.hid (bn HB4.out b5)
      have HX5 := Lib.hid hx5
      have hlx5 := hx5.lt
      have hly5 := hy5.lt
      have HV4' := Lib.hid (HV4.out.below b5)
      have hap := Lib.hid (apart_of_rows (B' := 0) HV4.out h5 (Nat.le_refl _) (Nat.zero_le _))
      clear h5 b5 hx3 hy3
      clear c0 s0 d0 t0 c1 s1 d1 t1 c2 s2 d2 t2 c3 s3 d3 t3 c4 s4 d4 t4 c5 s5 d5 t5 c6 s6 d6 t6 c7 s7 d7 t7
      obtain ⟨c0, c1, c2, c3, c4, c5, c6, c7⟩ := hx5.eight
      have s0 := hx5.soft 0
      have s1 := hx5.soft 1
      have s2 := hx5.soft 2
      have s3 := hx5.soft 3
      have s4 := hx5.soft 4
      have s5 := hx5.soft 5
      have s6 := hx5.soft 6
      have s7 := hx5.soft 7
      obtain ⟨d0, d1, d2, d3, d4, d5, d6, d7⟩ := hy5.eight
      have t0 := hy5.soft 0
      have t1 := hy5.soft 1
      have t2 := hy5.soft 2
      have t3 := hy5.soft 3
      have t4 := hy5.soft 4
      have t5 := hy5.soft 5
      have t6 := hy5.soft 6
      have t7 := hy5.soft 7
      have XF : Hid (Bx 30 (set8 (w5.setCell ⟨w.heap.size + 1, 2, none⟩ (.slice ad5 (rtV none).length cap5)) w.heap.size 0 (.int .i64 kind) (.slice ad3 x1.length cap3) (.slice ad5 (rtV none).length cap5) (.int .i64 0) (.int .i64 0) (.int .i64 0) (.int .i64 0) (.string ⟨#[]⟩)).drew w.heap.size #[.int .i64 kind, .slice ad3 x1.length cap3, .slice ad5 (rtV none).length cap5, .int .i64 0, .int .i64 0, .int .i64 0, .int .i64 0, .string ⟨#[]⟩]) := Lib.hid (((HX5.out.setFar (by simp) _).set8 _ _ _ _ _ _ _ _).drew)
      have fin : Hid (entT kind l n w (.returned (.tuple #[.agg #[.int .i64 kind, .slice ad3 x1.length cap3, .slice ad5 (rtV none).length cap5, .int .i64 0, .int .i64 0, .int .i64 0, .int .i64 0, .string ⟨#[]⟩], .bool false])) (set8 (w5.setCell ⟨w.heap.size + 1, 2, none⟩ (.slice ad5 (rtV none).length cap5)) w.heap.size 0 (.int .i64 kind) (.slice ad3 x1.length cap3) (.slice ad5 (rtV none).length cap5) (.int .i64 0) (.int .i64 0) (.int .i64 0) (.int .i64 0) (.string ⟨#[]⟩)).drew) := Lib.hid (entT_of ⟨kind, x1, [], zeroR⟩ _ _ false (by rw [HU.out]; rfl) (fun e he => by rw [HU.out] at he; cases he) ((row_set8 ((HV4'.out.cellFar (by omega) _).mono (by omega)) (HV4'.out.off (by omega)) _ _ _ _ _ _ _ _).drew) ((row_set8 ((HV5.out.cellFar (by omega) _).mono (by omega)) (HV5.out.off (by omega)) _ _ _ _ _ _ _ _).drew) (hap.out) (below_set8 (HB5.out.setCell (by exact Nat.le_succ _) _) (Nat.le_refl _) _ _ _ _ _ _ _ _ _).drew)
      go_wp2
      go_region
      all_goals go_wp2
      all_goals exact bodyPost_ret (res_e2 Tryd.results46 _ w.heap.size rfl _ _ _ _ _ _ _ _ _ XF.out) rfl fin.out
    | some qr =>
      obtain ⟨x2, q⟩ := qr
      rw [ht2] at C2
      have hU := refE_one_yes HK1.out HT1.out ht2
      have hx1l : x1.length ≤ 1000000 := by
        obtain ⟨r, h1, _⟩ := rtT_some HT1.out
        have := (tvT_rest h1).2
        rw [List.length_drop] at this
        omega
      have hx2l : x2.length ≤ 1000000 := by
        obtain ⟨r, h1, _⟩ := rtT_some ht2
        have := (tvT_rest h1).2
        rw [List.length_drop] at this
        omega
      simp only [rtE, rtV, Option.isSome] at C2
      clear ht2
      go_wp2_with fail
      rw [← hW4]
      refine C2.out.mono ?_
      rintro x w5 ⟨V5, rfl, h5, b5⟩
      have HV5 := Lib.hid h5
      obtain ⟨ad5, cap5, rfl, _⟩ := h5.nl.form
      have hx5 := HX4.out.below b5
      have hy5 := HY4.out.below b5
      have HB5 := Lib.hid (bn HB4.out b5)
      have HX5 := Lib.hid hx5
      have HY5 := Lib.hid hy5
      have hlx5 := hx5.lt
      have hly5 := hy5.lt
      have HV4' := Lib.hid (HV4.out.below b5)
      have hz5 := b5.size
      have hap := Lib.hid (apart_of_rows (B' := 0) HV4.out h5 (Nat.le_refl _) (Nat.zero_le _))
      clear h5 b5 hx3 hy3
      clear c0 s0 d0 t0 c1 s1 d1 t1 c2 s2 d2 t2 c3 s3 d3 t3 c4 s4 d4 t4 c5 s5 d5 t5 c6 s6 d6 t6 c7 s7 d7 t7
      obtain ⟨c0, c1, c2, c3, c4, c5, c6, c7⟩ := hx5.eight
      have s0 := hx5.soft 0
      have s1 := hx5.soft 1
      have s2 := hx5.soft 2
      have s3 := hx5.soft 3
      have s4 := hx5.soft 4
      have s5 := hx5.soft 5
      have s6 := hx5.soft 6
      have s7 := hx5.soft 7
      obtain ⟨d0, d1, d2, d3, d4, d5, d6, d7⟩ := hy5.eight
      have t0 := hy5.soft 0
      have t1 := hy5.soft 1
      have t2 := hy5.soft 2
      have t3 := hy5.soft 3
      have t4 := hy5.soft 4
      have t5 := hy5.soft 5
      have t6 := hy5.soft 6
      have t7 := hy5.soft 7
      by_cases hq : (q : Int) = (l.length : Int)
      · rw [if_pos hq] at hU
        have eq1 : ((q : Int) == (l.length : Int)) = true := by simpa using hq
        have HU := Lib.hid hU
        clear hU hq
        obtain ⟨W6, hW6⟩ : ∃ W6, W6 = w5.setCell ⟨w.heap.size + 1, 2, none⟩ (.slice ad5 x2.length cap5) := ⟨_, rfl⟩
        have HX6 : Hid (Bx 30 W6 w.heap.size #[.int .i64 0, .slice none 0 0, .slice none 0 0, .int .i64 0, .int .i64 0, .int .i64 0, .int .i64 0, .string ⟨#[]⟩]) := Lib.hid (by rw [hW6]; exact HX5.out.setFar (by simp) _)
        have HY6 : Hid (Bx 30 W6 (w.heap.size + 1) #[.int .i64 kind, .slice ad3 x1.length cap3, .slice ad5 x2.length cap5, .int .i64 0, .int .i64 0, .int .i64 0, .int .i64 0, .string ⟨#[]⟩]) := Lib.hid (by rw [hW6]; exact HY5.out.set 2 _)
        have HB6 : Hid (Below w.heap.size w W6) := Lib.hid (by rw [hW6]; exact HB5.out.setCell (by exact Nat.le_succ _) _)
        have HA6 : Hid (Row W6 W2.heap.size (.slice ad3 x1.length cap3) x1) := Lib.hid (by rw [hW6]; exact HV4'.out.cellFar (by omega) _)
        have HC6 : Hid (Row W6 W4.heap.size (.slice ad5 x2.length cap5) x2) := Lib.hid (by rw [hW6]; exact HV5.out.cellFar (by omega) _)
        have CM : Hid (∀ W, Below W6.heap.size W6 W → Calls Tryd.prog 15 #[.agg #[.int .i64 kind, .slice ad3 x1.length cap3, .slice ad5 x2.length cap5, .int .i64 0, .int .i64 0, .int .i64 0, .int .i64 0, .string ⟨#[]⟩], .int .i64 n] W fun x w' => x = .returned (.bool (mayE ⟨kind, x1, x2, zeroR⟩ n)) ∧ Below W.heap.size W w') := Lib.hid (fun W hW => refmaye_c ⟨kind, x1, x2, zeroR⟩ _ _ n W (HA6.out.nl.below hW) (HC6.out.nl.below hW) hx1l hx2l (show (0 : Nat) ≤ _ by decide) (HT.out.below (bn HB6.out hW)))
        generalize mayE ⟨kind, x1, x2, zeroR⟩ n = M at CM HU
        have hlx6 := HX6.out.lt
        have hly6 := HY6.out.lt
        go_wp2
        rw [← hW6]
        clear hW6 c0 s0 d0 t0 c1 s1 d1 t1 c2 s2 d2 t2 c3 s3 d3 t3 c4 s4 d4 t4 c5 s5 d5 t5 c6 s6 d6 t6 c7 s7 d7 t7 hx5 hy5
        have HS : Hid (∀ w' : World, Below W6.heap.size W6 w' → w'.cell? ⟨w.heap.size + 1, 0, none⟩ = some (.int .i64 kind) ∧ w'.cell? ⟨w.heap.size + 1, 1, none⟩ = some (.slice ad3 x1.length cap3) ∧ w'.cell? ⟨w.heap.size + 1, 2, none⟩ = some (.slice ad5 x2.length cap5) ∧ w'.cell? ⟨w.heap.size + 1, 3, none⟩ = some (.int .i64 0) ∧ w'.cell? ⟨w.heap.size + 1, 4, none⟩ = some (.int .i64 0) ∧ w'.cell? ⟨w.heap.size + 1, 5, none⟩ = some (.int .i64 0) ∧ w'.cell? ⟨w.heap.size + 1, 6, none⟩ = some (.int .i64 0) ∧ w'.cell? ⟨w.heap.size + 1, 7, none⟩ = some (.string ⟨#[]⟩)) := Lib.hid (fun w' h' => (HY6.out.below h').eight)
        have HSF : Hid (∀ w' : World, Below W6.heap.size W6 w' → ((((((((w'.setCell ⟨w.heap.size, 0, none⟩ (.int .i64 kind)).setCell ⟨w.heap.size, 1, none⟩ (.slice ad3 x1.length cap3)).setCell ⟨w.heap.size, 2, none⟩ (.slice ad5 x2.length cap5)).setCell ⟨w.heap.size, 3, none⟩ (.int .i64 0)).setCell ⟨w.heap.size, 4, none⟩ (.int .i64 0)).setCell ⟨w.heap.size, 5, none⟩ (.int .i64 0)).setCell ⟨w.heap.size, 6, none⟩ (.int .i64 0)).setCell ⟨w.heap.size, 7, none⟩ (.string ⟨#[]⟩)).cell? ⟨w.heap.size + 1, 0, none⟩ = some (.int .i64 kind) ∧ ((((((((w'.setCell ⟨w.heap.size, 0, none⟩ (.int .i64 kind)).setCell ⟨w.heap.size, 1, none⟩ (.slice ad3 x1.length cap3)).setCell ⟨w.heap.size, 2, none⟩ (.slice ad5 x2.length cap5)).setCell ⟨w.heap.size, 3, none⟩ (.int .i64 0)).setCell ⟨w.heap.size, 4, none⟩ (.int .i64 0)).setCell ⟨w.heap.size, 5, none⟩ (.int .i64 0)).setCell ⟨w.heap.size, 6, none⟩ (.int .i64 0)).setCell ⟨w.heap.size, 7, none⟩ (.string ⟨#[]⟩)).cell? ⟨w.heap.size + 1, 1, none⟩ = some (.slice ad3 x1.length cap3) ∧ ((((((((w'.setCell ⟨w.heap.size, 0, none⟩ (.int .i64 kind)).setCell ⟨w.heap.size, 1, none⟩ (.slice ad3 x1.length cap3)).setCell ⟨w.heap.size, 2, none⟩ (.slice ad5 x2.length cap5)).setCell ⟨w.heap.size, 3, none⟩ (.int .i64 0)).setCell ⟨w.heap.size, 4, none⟩ (.int .i64 0)).setCell ⟨w.heap.size, 5, none⟩ (.int .i64 0)).setCell ⟨w.heap.size, 6, none⟩ (.int .i64 0)).setCell ⟨w.heap.size, 7, none⟩ (.string ⟨#[]⟩)).cell? ⟨w.heap.size + 1, 2, none⟩ = some (.slice ad5 x2.length cap5) ∧ ((((((((w'.setCell ⟨w.heap.size, 0, none⟩ (.int .i64 kind)).setCell ⟨w.heap.size, 1, none⟩ (.slice ad3 x1.length cap3)).setCell ⟨w.heap.size, 2, none⟩ (.slice ad5 x2.length cap5)).setCell ⟨w.heap.size, 3, none⟩ (.int .i64 0)).setCell ⟨w.heap.size, 4, none⟩ (.int .i64 0)).setCell ⟨w.heap.size, 5, none⟩ (.int .i64 0)).setCell ⟨w.heap.size, 6, none⟩ (.int .i64 0)).setCell ⟨w.heap.size, 7, none⟩ (.string ⟨#[]⟩)).cell? ⟨w.heap.size + 1, 3, none⟩ = some (.int .i64 0) ∧ ((((((((w'.setCell ⟨w.heap.size, 0, none⟩ (.int .i64 kind)).setCell ⟨w.heap.size, 1, none⟩ (.slice ad3 x1.length cap3)).setCell ⟨w.heap.size, 2, none⟩ (.slice ad5 x2.length cap5)).setCell ⟨w.heap.size, 3, none⟩ (.int .i64 0)).setCell ⟨w.heap.size, 4, none⟩ (.int .i64 0)).setCell ⟨w.heap.size, 5, none⟩ (.int .i64 0)).setCell ⟨w.heap.size, 6, none⟩ (.int .i64 0)).setCell ⟨w.heap.size, 7, none⟩ (.string ⟨#[]⟩)).cell? ⟨w.heap.size + 1, 4, none⟩ = some (.int .i64 0) ∧ ((((((((w'.setCell ⟨w.heap.size, 0, none⟩ (.int .i64 kind)).setCell ⟨w.heap.size, 1, none⟩ (.slice ad3 x1.length cap3)).setCell ⟨w.heap.size, 2, none⟩ (.slice ad5 x2.length cap5)).setCell ⟨w.heap.size, 3, none⟩ (.int .i64 0)).setCell ⟨w.heap.size, 4, none⟩ (.int .i64 0)).setCell ⟨w.heap.size, 5, none⟩ (.int .i64 0)).setCell ⟨w.heap.size, 6, none⟩ (.int .i64 0)).setCell ⟨w.heap.size, 7, none⟩ (.string ⟨#[]⟩)).cell? ⟨w.heap.size + 1, 5, none⟩ = some (.int .i64 0) ∧ ((((((((w'.setCell ⟨w.heap.size, 0, none⟩ (.int .i64 kind)).setCell ⟨w.heap.size, 1, none⟩ (.slice ad3 x1.length cap3)).setCell ⟨w.heap.size, 2, none⟩ (.slice ad5 x2.length cap5)).setCell ⟨w.heap.size, 3, none⟩ (.int .i64 0)).setCell ⟨w.heap.size, 4, none⟩ (.int .i64 0)).setCell ⟨w.heap.size, 5, none⟩ (.int .i64 0)).setCell ⟨w.heap.size, 6, none⟩ (.int .i64 0)).setCell ⟨w.heap.size, 7, none⟩ (.string ⟨#[]⟩)).cell? ⟨w.heap.size + 1, 6, none⟩ = some (.int .i64 0) ∧ ((((((((w'.setCell ⟨w.heap.size, 0, none⟩ (.int .i64 kind)).setCell ⟨w.heap.size, 1, none⟩ (.slice ad3 x1.length cap3)).setCell ⟨w.heap.size, 2, none⟩ (.slice ad5 x2.length cap5)).setCell ⟨w.heap.size, 3, none⟩ (.int .i64 0)).setCell ⟨w.heap.size, 4, none⟩ (.int .i64 0)).setCell ⟨w.heap.size, 5, none⟩ (.int .i64 0)).setCell ⟨w.heap.size, 6, none⟩ (.int .i64 0)).setCell ⟨w.heap.size, 7, none⟩ (.string ⟨#[]⟩)).cell? ⟨w.heap.size + 1, 7, none⟩ = some (.string ⟨#[]⟩)) := Lib.hid (fun w' h' => ((((((((((HY6.out.below h').setFar (by simp) _).setFar (by simp) _).setFar (by simp) _).setFar (by simp) _).setFar (by simp) _).setFar (by simp) _).setFar (by simp) _).setFar (by simp) _)).eight)
        go_region_held3 (fun w' => w'.cell? ⟨w.heap.size + 1, 0, none⟩ = some (.int .i64 kind) ∧ w'.cell? ⟨w.heap.size + 1, 1, none⟩ = some (.slice ad3 x1.length cap3) ∧ w'.cell? ⟨w.heap.size + 1, 2, none⟩ = some (.slice ad5 x2.length cap5) ∧ w'.cell? ⟨w.heap.size + 1, 3, none⟩ = some (.int .i64 0) ∧ w'.cell? ⟨w.heap.size + 1, 4, none⟩ = some (.int .i64 0) ∧ w'.cell? ⟨w.heap.size + 1, 5, none⟩ = some (.int .i64 0) ∧ w'.cell? ⟨w.heap.size + 1, 6, none⟩ = some (.int .i64 0) ∧ w'.cell? ⟨w.heap.size + 1, 7, none⟩ = some (.string ⟨#[]⟩)) (first | with_reducible exact HS.out _ b7' | with_reducible exact HSF.out _ b7' | exact HS.out _ (by first | exact (Below.refl _ _).drew | exact Below.refl _ _))
          (first
          | (go_at_call 15; refine (CM.out _ (by first | exact (Below.refl _ _).drew | exact Below.refl _ _)).mono ?_; rintro x w7 ⟨rfl, b7⟩; have b7' : Below W6.heap.size W6 w7 := bn (by first | exact (Below.refl _ _).drew | exact Below.refl _ _) b7; clear b7; have hx7 := HX6.out.below b7'; have hl7 := hx7.lt; obtain ⟨c0, c1, c2, c3, c4, c5, c6, c7⟩ := hx7.eight; have s0 := hx7.soft 0; have s1 := hx7.soft 1; have s2 := hx7.soft 2; have s3 := hx7.soft 3; have s4 := hx7.soft 4; have s5 := hx7.soft 5; have s6 := hx7.soft 6; have s7 := hx7.soft 7)
          | fail)
        have XF : Hid (Bx 30 (set8 w7 w.heap.size 0 (.int .i64 kind) (.slice ad3 x1.length cap3) (.slice ad5 x2.length cap5) (.int .i64 0) (.int .i64 0) (.int .i64 0) (.int .i64 0) (.string ⟨#[]⟩)) w.heap.size #[.int .i64 kind, .slice ad3 x1.length cap3, .slice ad5 x2.length cap5, .int .i64 0, .int .i64 0, .int .i64 0, .int .i64 0, .string ⟨#[]⟩]) := Lib.hid (hx7.set8 _ _ _ _ _ _ _ _)
        have fin : Hid (entT kind l n w (.returned (.tuple #[.agg #[.int .i64 kind, .slice ad3 x1.length cap3, .slice ad5 x2.length cap5, .int .i64 0, .int .i64 0, .int .i64 0, .int .i64 0, .string ⟨#[]⟩], .bool M])) (set8 w7 w.heap.size 0 (.int .i64 kind) (.slice ad3 x1.length cap3) (.slice ad5 x2.length cap5) (.int .i64 0) (.int .i64 0) (.int .i64 0) (.int .i64 0) (.string ⟨#[]⟩))) := Lib.hid (entT_of ⟨kind, x1, x2, zeroR⟩ _ _ M (by rw [HU.out]; cases M <;> rfl) (fun e he => by rw [HU.out] at he; exact if_some_eq he) (row_set8 ((HA6.out.below b7').mono (by omega)) ((HA6.out.below b7').off (by omega)) _ _ _ _ _ _ _ _) (row_set8 ((HC6.out.below b7').mono (by omega)) ((HC6.out.below b7').off (by omega)) _ _ _ _ _ _ _ _) (hap.out) (below_set8 (bn HB6.out b7') (Nat.le_refl _) _ _ _ _ _ _ _ _ _))
        go_wp2
        exact bodyPost_ret (res_e2 Tryd.results46 _ w.heap.size rfl _ _ _ _ _ _ _ _ _ XF.out) rfl fin.out
      · rw [if_neg hq] at hU
        have eq1 : ((q : Int) == (l.length : Int)) = false := by simpa using hq
        have HU := Lib.hid hU
        clear hU hq
        have XF : Hid (Bx 30 (set8 (w5.setCell ⟨w.heap.size + 1, 2, none⟩ (.slice ad5 x2.length cap5)) w.heap.size 0 (.int .i64 kind) (.slice ad3 x1.length cap3) (.slice ad5 x2.length cap5) (.int .i64 0) (.int .i64 0) (.int .i64 0) (.int .i64 0) (.string ⟨#[]⟩)).drew w.heap.size #[.int .i64 kind, .slice ad3 x1.length cap3, .slice ad5 x2.length cap5, .int .i64 0, .int .i64 0, .int .i64 0, .int .i64 0, .string ⟨#[]⟩]) := Lib.hid (((HX5.out.setFar (by simp) _).set8 _ _ _ _ _ _ _ _).drew)
        have fin : Hid (entT kind l n w (.returned (.tuple #[.agg #[.int .i64 kind, .slice ad3 x1.length cap3, .slice ad5 x2.length cap5, .int .i64 0, .int .i64 0, .int .i64 0, .int .i64 0, .string ⟨#[]⟩], .bool false])) (set8 (w5.setCell ⟨w.heap.size + 1, 2, none⟩ (.slice ad5 x2.length cap5)) w.heap.size 0 (.int .i64 kind) (.slice ad3 x1.length cap3) (.slice ad5 x2.length cap5) (.int .i64 0) (.int .i64 0) (.int .i64 0) (.int .i64 0) (.string ⟨#[]⟩)).drew) := Lib.hid (entT_of ⟨kind, x1, x2, zeroR⟩ _ _ false (by rw [HU.out]; rfl) (fun e he => by rw [HU.out] at he; cases he) ((row_set8 ((HV4'.out.cellFar (by omega) _).mono (by omega)) (HV4'.out.off (by omega)) _ _ _ _ _ _ _ _).drew) ((row_set8 ((HV5.out.cellFar (by omega) _).mono (by omega)) (HV5.out.off (by omega)) _ _ _ _ _ _ _ _).drew) (hap.out) (below_set8 (HB5.out.setCell (by exact Nat.le_succ _) _) (Nat.le_refl _) _ _ _ _ _ _ _ _ _).drew)
        go_wp2
        go_region
        all_goals go_wp2
        all_goals exact bodyPost_ret (res_e2 Tryd.results46 _ w.heap.size rfl _ _ _ _ _ _ _ _ _ XF.out) rfl fin.out
end Go.Proofs.YtcnpckdchjjeoaaDoor
