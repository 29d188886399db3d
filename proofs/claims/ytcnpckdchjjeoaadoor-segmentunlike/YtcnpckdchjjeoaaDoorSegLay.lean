/-
  What the frame of an entry holds (body), Lay, and chapter 8's own Lay, by contract.
-/
import Derived.Test.YtcnpckdchjjeoaaDoorSegMay2
import Derived.Test.YtcnpckdchjjeoaaDoorMRecLay
import Derived.Test.YtcnpckdchjjeoaaDoorMFrmRefLay
import Derived.Test.YtcnpckdchjjeoaaDoorMFrmMath
namespace Go.Proofs.YtcnpckdchjjeoaaDoor
open Go.RowKit Go.Lib
set_option maxRecDepth 100000

def bodyE (e : En) : List Int := if e.k = 1 then vecB e.v ++ vecB e.w else if e.k = 2 then layL e.r else vecB e.w
def layE (e : En) : List Int := layF e.k (bodyE e)
theorem fromE_may {e : En} : ∀ {j : Nat}, fromE e j = true → ∃ n, mayE e n = true
  | 0, h => by cases h
  | j + 1, h => by
    rw [fromE, Bool.or_eq_true] at h
    rcases h with h | h
    · exact ⟨_, h⟩
    · exact fromE_may h
theorem someE_may {e : En} (h : someE e = true) : ∃ n, mayE e n = true := fromE_may h
theorem manyB_le {n : Int} (h : manyB n = true) : 1 ≤ n ∧ n ≤ 8 := by simpa [manyB] using h
theorem mayB_len {l : List Int} {n : Int} (h : mayB l n = true) : l.length ≤ 8 ∧ (l.length : Int) = n := by
  unfold mayB at h
  simp only [Bool.and_eq_true, decide_eq_true_eq] at h
  have := manyB_le h.1
  omega
theorem nilB_eq {l : List Int} (h : nilB l = true) : l = [] := by
  unfold nilB at h
  simp only [decide_eq_true_eq] at h
  exact List.eq_nil_of_length_eq_zero (by omega)
/-- The three kinds. -/
theorem mayE_cases {e : En} {n : Int} (h : mayE e n = true) :
    (1 ≤ n ∧ n ≤ 8) ∧ ((e.k = 1 ∧ mayB e.v n = true ∧ mayB e.w n = true ∧ leB e.w e.v = true ∧ blankR e.r = true) ∨ (e.k = 2 ∧ mayR e.r = true ∧ e.r.o < n ∧ e.v = [] ∧ e.w = []) ∨ (e.k = 3 ∧ mayB e.w n = true ∧ e.v = [] ∧ blankR e.r = true)) := by
  unfold mayE at h
  split at h
  · rename_i k1
    simp only [Bool.and_eq_true] at h
    obtain ⟨h1, h2, h3, h4⟩ := h
    have h5 := h1
    unfold mayB at h5
    simp only [Bool.and_eq_true] at h5
    exact ⟨manyB_le h5.1, .inl ⟨k1, h1, h2, h3, h4⟩⟩
  · split at h
    · rename_i k2
      simp only [Bool.and_eq_true, decide_eq_true_eq] at h
      obtain ⟨h1, h2, h3, h4, h5⟩ := h
      exact ⟨manyB_le h1, .inr (.inl ⟨k2, h2, h3, nilB_eq h4, nilB_eq h5⟩)⟩
    · split at h
      · rename_i k3
        simp only [Bool.and_eq_true] at h
        obtain ⟨h1, h2, h3⟩ := h
        have h5 := h1
        unfold mayB at h5
        simp only [Bool.and_eq_true] at h5
        exact ⟨manyB_le h5.1, .inr (.inr ⟨k3, h1, nilB_eq h2, h3⟩)⟩
      · cases h
theorem someE_len {e : En} (h : someE e = true) : e.v.length ≤ 8 ∧ e.w.length ≤ 8 ∧ (e.k = 2 → mayR e.r = true) ∧ 1 ≤ e.k ∧ e.k ≤ 3 := by
  obtain ⟨n, h⟩ := someE_may h
  obtain ⟨_, ⟨k, h1, h2, _⟩ | ⟨k, h1, _, h3, h4⟩ | ⟨k, h1, h2, _⟩⟩ := mayE_cases h
  · exact ⟨(mayB_len h1).1, (mayB_len h2).1, fun h => by omega, by omega, by omega⟩
  · exact ⟨by rw [h3]; simp, by rw [h4]; simp, fun _ => h1, by omega, by omega⟩
  · exact ⟨by rw [h2]; simp, (mayB_len h1).1, fun h => by omega, by omega, by omega⟩
theorem bodyE_len {e : En} (h : someE e = true) : (bodyE e).length ≤ 300 := by
  obtain ⟨h1, h2, h3, _, _⟩ := someE_len h
  unfold bodyE
  split
  · rw [List.length_append, vecB_len, vecB_len]; omega
  · split
    · rename_i k2
      rw [layL_len]
      have := mayR_size (h3 k2)
      omega
    · rw [vecB_len]; omega
theorem bodyE_okF {e : En} (h : someE e = true) : okF e.k (bodyE e) = true := by
  obtain ⟨_, _, _, h4, h5⟩ := someE_len h
  exact okF_of h4 (by omega) (by have := bodyE_len h; omega)

set_option maxHeartbeats 4000000 in
theorem body_c (e : En) (a b : Value) (w : World) (ha : Nl w a e.v) (hb : Nl w b e.w) (hs : e.r.t.size ≤ 9223372036854775807) (hT : Tabs w) (h : someE e = true) :
    Calls Tryd.prog 29 #[.agg #[.int .i64 e.k, a, b, .int .i64 e.r.o, .int .i64 e.r.s, .int .i64 e.r.w, .int .i64 e.r.c, .string e.r.t]] w (rowB w.heap.size (bodyE e) w) := by
  obtain ⟨l1, l2, l3, _, _⟩ := someE_len h
  obtain ⟨ad1, cap1, rfl, _⟩ := ha.form
  obtain ⟨ad2, cap2, rfl, _⟩ := hb.form
  have HX := Lib.hid (Bx.new 30 w #[.int .i64 e.k, .slice ad1 e.v.length cap1, .slice ad2 e.w.length cap2, .int .i64 e.r.o, .int .i64 e.r.s, .int .i64 e.r.w, .int .i64 e.r.c, .string e.r.t])
  have hA := Lib.hid (alloc_below w (.cells #[.int .i64 e.k, .slice ad1 e.v.length cap1, .slice ad2 e.w.length cap2, .int .i64 e.r.o, .int .i64 e.r.s, .int .i64 e.r.w, .int .i64 e.r.c, .string e.r.t] 30))
  obtain ⟨W1, hW1⟩ : ∃ W1, W1 = w.alloc (.cells #[.int .i64 e.k, .slice ad1 e.v.length cap1, .slice ad2 e.w.length cap2, .int .i64 e.r.o, .int .i64 e.r.s, .int .i64 e.r.w, .int .i64 e.r.c, .string e.r.t] 30) := ⟨_, rfl⟩
  rw [← hW1] at HX hA
  have hz : W1.heap.size = w.heap.size + 1 := by rw [hW1]; simp
  have CW : Hid (∀ W, Below W1.heap.size W1 W → Calls Tryd.prog 54 #[.slice none 0 0, .slice ad2 e.w.length cap2] W (rowB W.heap.size ([] ++ vecB e.w) W)) := Lib.hid (fun W hW =>
    putvec_c [] e.w _ ad2 cap2 W W.heap.size (BRow.nil _ _) (fun w' h' => hb.below (bn (bn hA.out hW) h')) (by omega) (by simp) (Nat.le_refl _))
  unfold bodyE
  by_cases k1 : e.k = 1
  · rw [if_pos k1]
    have f1 : (e.k == 1) = true := by simpa using k1
    have CV : Hid (∀ W, Below W1.heap.size W1 W → Calls Tryd.prog 54 #[.slice none 0 0, .slice ad1 e.v.length cap1] W (rowB W1.heap.size ([] ++ vecB e.v) W)) := Lib.hid (fun W hW =>
      putvec_c [] e.v _ ad1 cap1 W W1.heap.size (BRow.nil _ _) (fun w' h' => ha.below (hA.out.trans ((hW.trans h').mono (by omega)))) (by omega) (by simp) hW.size)
    have CV2 : Hid (∀ W v, Below W1.heap.size W1 W → BRow W W1.heap.size v (vecB e.v) → Calls Tryd.prog 54 #[v, .slice ad2 e.w.length cap2] W (rowB W1.heap.size (vecB e.v ++ vecB e.w) W)) := Lib.hid (fun W v hW hv =>
      putvec_c (vecB e.v) e.w _ ad2 cap2 W W1.heap.size hv (fun w' h' => hb.below (hA.out.trans ((hW.trans h').mono (by omega)))) (by omega) (by rw [vecB_len]; omega) hW.size)
    have HS : Hid (∀ w' : World, Below W1.heap.size W1 w' → w'.cell? ⟨w.heap.size, 1, none⟩ = some (.slice ad1 e.v.length cap1) ∧ w'.cell? ⟨w.heap.size, 2, none⟩ = some (.slice ad2 e.w.length cap2)) := Lib.hid (fun w' h' => by
      obtain ⟨c0, c1, c2, _⟩ := (HX.out.below h').eight
      exact ⟨c1, c2⟩)
    clear ha hb hs hT h l3 k1 CW HX
    go_enter Tryd.func29, Tryd.ntmps29
    go_wp2_with fail
    rw [← hW1]
    clear hW1
    go_region_held3 (fun w' => w'.cell? ⟨w.heap.size, 1, none⟩ = some (.slice ad1 e.v.length cap1) ∧ w'.cell? ⟨w.heap.size, 2, none⟩ = some (.slice ad2 e.w.length cap2)) (exact HS.out _ (by first | assumption | exact (Below.refl _ _).drew | exact Below.refl _ _))
      (first
      | (go_at_call 54; refine (CV2.out _ _ (by first | assumption | exact (Below.refl _ _).drew | exact Below.refl _ _) h1row).mono ?_; rintro x w3 ⟨v3, rfl, h3row, b3⟩; have b3' : Below W1.heap.size W1 w3 := Below.trans (by first | assumption | exact (Below.refl _ _).drew | exact Below.refl _ _) b3; clear b3)
      | (go_at_call 54; refine (CV.out _ (by first | assumption | exact (Below.refl _ _).drew | exact Below.refl _ _)).mono ?_; rintro x w2 ⟨v2, rfl, h1row, b2⟩; have b2' : Below W1.heap.size W1 w2 := Below.trans (by first | assumption | exact (Below.refl _ _).drew | exact Below.refl _ _) b2; clear b2)
      | fail)
    go_wp2
    go_ret
    exact ⟨_, rfl, h3row.mono (by omega), hA.out.trans (b3'.mono (by omega))⟩
  · rw [if_neg k1]
    have f1 : (e.k == 1) = false := by simpa using k1
    by_cases k2 : e.k = 2
    · rw [if_pos k2]
      have f2 : (e.k == 2) = true := by simpa using k2
      have hm := l3 k2
      have HC : Hid (Calls Tryd.prog 55 #[.agg #[.int .i64 e.r.o, .int .i64 e.r.s, .int .i64 e.r.w, .int .i64 e.r.c, .string e.r.t]] W1 (rclayT e.r W1)) := Lib.hid (rclay_c e.r W1 hs (hT.below hA.out))
      unfold rclayT at HC
      rw [hm] at HC
      clear ha hb hs hT h l3 k1 k2 CW HX
      go_enter Tryd.func29, Tryd.ntmps29
      go_wp2_with fail
      rw [← hW1]
      refine HC.out.mono ?_
      rintro x w2 ⟨v2, rfl, h2, b2⟩
      go_wp2
      go_ret
      exact ⟨_, rfl, BRow.mono h2 (by omega), bn hA.out b2⟩
    · rw [if_neg k2]
      have f2 : (e.k == 2) = false := by simpa using k2
      have HC := Lib.hid (CW.out W1 (Below.refl _ _))
      clear ha hb hs hT h l3 k1 k2 CW HX
      go_enter Tryd.func29, Tryd.ntmps29
      go_wp2_with fail
      rw [← hW1]
      refine HC.out.mono ?_
      rintro x w2 ⟨v2, rfl, h2, b2⟩
      go_wp2
      go_ret
      exact ⟨_, rfl, BRow.mono h2 (by omega), bn hA.out b2⟩

/-- What Lay answers. -/
def layeT (e : En) (w : World) (x : Ending) (w' : World) : Prop :=
  ∃ v, x = .returned (.tuple #[v, .int .i64 (if someE e then 0 else 2)]) ∧ BRow w' w.heap.size v (if someE e then layE e else []) ∧ Below w.heap.size w w'

set_option maxHeartbeats 4000000 in
theorem laye_c (e : En) (a b : Value) (w : World) (ha : Nl w a e.v) (hb : Nl w b e.w) (hv : e.v.length ≤ 1000000) (hw : e.w.length ≤ 1000000) (hs : e.r.t.size ≤ 9223372036854775807) (hT : Tabs w) :
    Calls Tryd.prog 9 #[.agg #[.int .i64 e.k, a, b, .int .i64 e.r.o, .int .i64 e.r.s, .int .i64 e.r.w, .int .i64 e.r.c, .string e.r.t]] w (layeT e w) := by
  have HX := Lib.hid (Bx.new 30 w #[.int .i64 e.k, a, b, .int .i64 e.r.o, .int .i64 e.r.s, .int .i64 e.r.w, .int .i64 e.r.c, .string e.r.t])
  have hA := Lib.hid (alloc_below w (.cells #[.int .i64 e.k, a, b, .int .i64 e.r.o, .int .i64 e.r.s, .int .i64 e.r.w, .int .i64 e.r.c, .string e.r.t] 30))
  obtain ⟨W1, hW1⟩ : ∃ W1, W1 = w.alloc (.cells #[.int .i64 e.k, a, b, .int .i64 e.r.o, .int .i64 e.r.s, .int .i64 e.r.w, .int .i64 e.r.c, .string e.r.t] 30) := ⟨_, rfl⟩
  rw [← hW1] at HX hA
  have hz : W1.heap.size = w.heap.size + 1 := by rw [hW1]; simp
  have HC := Lib.hid (some_c e a b W1 (ha.below hA.out) (hb.below hA.out) hv hw hs (hT.below hA.out))
  obtain ⟨ad1, cap1, rfl, _⟩ := ha.form
  obtain ⟨ad2, cap2, rfl, _⟩ := hb.form
  unfold layeT
  cases hm : someE e
  · rw [hm] at HC
    clear ha hb hv hw hs hT hm
    go_enter Tryd.func9, Tryd.ntmps9
    go_wp2_with fail
    rw [← hW1]
    refine HC.out.mono ?_
    rintro x w1 ⟨rfl, b1⟩
    go_wp2
    go_ret2
    exact ⟨_, rfl, BRow.nil _ _, bn hA.out b1⟩
  · rw [hm] at HC
    have hok := bodyE_okF hm
    have hlen := bodyE_len hm
    have CB : Hid (∀ W, Below w.heap.size w W → Calls Tryd.prog 29 #[.agg #[.int .i64 e.k, .slice ad1 e.v.length cap1, .slice ad2 e.w.length cap2, .int .i64 e.r.o, .int .i64 e.r.s, .int .i64 e.r.w, .int .i64 e.r.c, .string e.r.t]] W (rowB W.heap.size (bodyE e) W)) := Lib.hid (fun W h => body_c e _ _ W (ha.below h) (hb.below h) hs (hT.below h) hm)
    have CL : Hid (∀ W u, Bl W u (bodyE e) → Calls Tryd.prog 28 #[.int .i64 e.k, u] W fun x w' => ∃ A N C, x = .returned (.tuple #[.slice A N C, .int .i64 0]) ∧ Hid (BRow w' W.heap.size (.slice A N C) (layE e)) ∧ Hid (Below W.heap.size W w')) := Lib.hid (fun W u hu => (lay_c e.k (bodyE e) u W hu (by unfold maxLen; omega)).mono (by
      rintro x w' ⟨A, N, C, h1, h2, h3⟩
      rw [if_pos hok] at h1 h2
      exact ⟨A, N, C, h1, Lib.hid h2, Lib.hid h3⟩))
    clear ha hb hv hw hs hT hm hok
    go_enter Tryd.func9, Tryd.ntmps9
    go_wp2_with fail
    rw [← hW1]
    refine HC.out.mono ?_
    rintro x w1 ⟨rfl, b1⟩
    have HX1 := Lib.hid (HX.out.below b1)
    have HB1 := Lib.hid (bn hA.out b1)
    clear b1 HX HC
    have hl := HX1.out.lt
    obtain ⟨c0, c1, c2, c3, c4, c5, c6, c7⟩ := HX1.out.eight
    go_wp2_with fail
    clear c0 c1 c2 c3 c4 c5 c6 c7
    have HS : Hid (∀ w' : World, Below w1.heap.size w1 w' → w'.cell? ⟨w.heap.size, 0, none⟩ = some (.int .i64 e.k) ∧ w'.cell? ⟨w.heap.size, 1, none⟩ = some (.slice ad1 e.v.length cap1) ∧ w'.cell? ⟨w.heap.size, 2, none⟩ = some (.slice ad2 e.w.length cap2) ∧ w'.cell? ⟨w.heap.size, 3, none⟩ = some (.int .i64 e.r.o) ∧ w'.cell? ⟨w.heap.size, 4, none⟩ = some (.int .i64 e.r.s) ∧ w'.cell? ⟨w.heap.size, 5, none⟩ = some (.int .i64 e.r.w) ∧ w'.cell? ⟨w.heap.size, 6, none⟩ = some (.int .i64 e.r.c) ∧ w'.cell? ⟨w.heap.size, 7, none⟩ = some (.string e.r.t)) := Lib.hid (fun w' h' => (HX1.out.below h').eight)
    go_region_held3 (fun w' => w'.cell? ⟨w.heap.size, 0, none⟩ = some (.int .i64 e.k) ∧ w'.cell? ⟨w.heap.size, 1, none⟩ = some (.slice ad1 e.v.length cap1) ∧ w'.cell? ⟨w.heap.size, 2, none⟩ = some (.slice ad2 e.w.length cap2) ∧ w'.cell? ⟨w.heap.size, 3, none⟩ = some (.int .i64 e.r.o) ∧ w'.cell? ⟨w.heap.size, 4, none⟩ = some (.int .i64 e.r.s) ∧ w'.cell? ⟨w.heap.size, 5, none⟩ = some (.int .i64 e.r.w) ∧ w'.cell? ⟨w.heap.size, 6, none⟩ = some (.int .i64 e.r.c) ∧ w'.cell? ⟨w.heap.size, 7, none⟩ = some (.string e.r.t)) (exact HS.out _ (by first | assumption | exact (Below.refl _ _).drew | exact Below.refl _ _))
      (first
      | (go_at_call 28; refine (CL.out _ _ h1row.nl).mono ?_; rintro x w3 ⟨A3, N3, C3, rfl, h3row, b3⟩; have b3' : Below w1.heap.size w1 w3 := bn (by first | assumption | exact (Below.refl _ _).drew | exact Below.refl _ _) b3.out; have h3row' : BRow w3 w1.heap.size (.slice A3 N3 C3) (layE e) := h3row.out.mono b2'.size; clear b3 h3row)
      | (go_at_call 29; refine (CB.out _ (bn HB1.out (by first | assumption | exact (Below.refl _ _).drew | exact Below.refl _ _))).mono ?_; rintro x w2 ⟨v2, rfl, h1row, b2⟩; have b2' : Below w1.heap.size w1 w2 := bn (by first | assumption | exact (Below.refl _ _).drew | exact Below.refl _ _) b2; clear b2)
      | fail)
    go_wp2
    go_ret2
    exact ⟨_, rfl, h3row'.mono HB1.out.size, bn HB1.out b3'⟩
end Go.Proofs.YtcnpckdchjjeoaaDoor
