/-
  Chapter 8's own entry, of a record and of a mark.
-/
import Derived.Test.YtcnpckdchjjeoaaDoorSegRefEntry
namespace Go.Proofs.YtcnpckdchjjeoaaDoor
open Go.RowKit Go.Lib
set_option maxRecDepth 100000

set_option maxHeartbeats 4000000 in
theorem ent_three (kind : Int) (l : List Int) (v : Value) (n : Int) (w : World) (k3 : kind = 3) (h : Bc w v l) (ho : OkB l) (hl : l.length ≤ 1000000) (hT : Tabs w) :
    Calls Tryd.prog 46 #[.int .i64 kind, v, .int .i64 n] w (entT kind l n w) := by
  have f1 : (kind == 1) = false := by simp; omega
  have f2 : (kind == 2) = false := by simp; omega
  have f3 : (kind == 3) = true := by simpa using k3
  have CT : Hid (∀ W (a : Nat), a ≤ l.length → Below w.heap.size w W → Calls Tryd.prog 65 #[v, .int .i64 (a : Int), .int .i64 n] W (rtakeT l a n W)) := Lib.hid (fun W a ha hW => rtake_c l v a n W (h.below hW) ho ha hl)
  obtain ⟨ad, cap, rfl, hcap⟩ := h.2
  obtain ⟨W2, hW2⟩ : ∃ W2, W2 = (w.alloc (.cells #[.int .i64 0, .slice none 0 0, .slice none 0 0, .int .i64 0, .int .i64 0, .int .i64 0, .int .i64 0, .string ⟨#[]⟩] 30)).alloc (.cells #[.int .i64 kind, .slice none 0 0, .slice none 0 0, .int .i64 0, .int .i64 0, .int .i64 0, .int .i64 0, .string ⟨#[]⟩] 30) := ⟨_, rfl⟩
  have HB2 : Hid (Below w.heap.size w W2) := Lib.hid (by rw [hW2]; exact below_two _ _ _)
  have HX2 : Hid (Bx 30 W2 w.heap.size #[.int .i64 0, .slice none 0 0, .slice none 0 0, .int .i64 0, .int .i64 0, .int .i64 0, .int .i64 0, .string ⟨#[]⟩]) := Lib.hid (by rw [hW2]; exact (Bx.new _ _ _).alloc _)
  have HY2 : Hid (Bx 30 W2 (w.heap.size + 1) #[.int .i64 kind, .slice none 0 0, .slice none 0 0, .int .i64 0, .int .i64 0, .int .i64 0, .int .i64 0, .string ⟨#[]⟩]) := Lib.hid (by rw [hW2]; have := Bx.new 30 (w.alloc (.cells #[.int .i64 0, .slice none 0 0, .slice none 0 0, .int .i64 0, .int .i64 0, .int .i64 0, .int .i64 0, .string ⟨#[]⟩] 30)) #[.int .i64 kind, .slice none 0 0, .slice none 0 0, .int .i64 0, .int .i64 0, .int .i64 0, .int .i64 0, .string ⟨#[]⟩]; simpa using this)
  have hz2 : W2.heap.size = w.heap.size + 2 := by rw [hW2]; simp
  have HT := Lib.hid hT
  clear h ho hT
  have C1 := Lib.hid (CT.out W2 0 (Nat.zero_le _) HB2.out)
  unfold rtakeT at C1
  cases ht1 : rtT l 0 n with
  | none =>
    rw [ht1] at C1
    have HU := Lib.hid (refE_three_no k3 ht1)
    clear ht1 k3 CT
    go_enter Tryd.func46, Tryd.ntmps46
    go_wp2_with fail
    rw [← hW2]
    refine C1.out.mono ?_
    rintro x w3 ⟨V3, rfl, h3, b3⟩
    have HV3 := Lib.hid h3
    obtain ⟨ad3, cap3, rfl, _⟩ := h3.nl.form
    have hx3 := HX2.out.below b3
    have hy3 := HY2.out.below b3
    have HB3 := Lib.hid (bn HB2.out b3)
    have HX3 := Lib.hid hx3
    have HY3 := Lib.hid hy3
    have hz3 := b3.size
    have hlx := hx3.lt
    have hly := hy3.lt
    clear h3 b3
    obtain ⟨c0, c1, c2, c3, c4, c5, c6, c7⟩ := hx3.eight
    have s0 := hx3.soft 0
    have s1 := hx3.soft 1
    have s2 := hx3.soft 2
    have s3 := hx3.soft 3
    have s4 := hx3.soft 4
    have s5 := hx3.soft 5
    have s6 := hx3.soft 6
    have s7 := hx3.soft 7
    obtain ⟨d0, d1, d2, d3, d4, d5, d6, d7⟩ := hy3.eight
    have t0 := hy3.soft 0
    have t1 := hy3.soft 1
    have t2 := hy3.soft 2
    have t3 := hy3.soft 3
    have t4 := hy3.soft 4
    have t5 := hy3.soft 5
    have t6 := hy3.soft 6
    have t7 := hy3.soft 7
    have XF : Hid (Bx 30 (set8 (w3.setCell ⟨w.heap.size + 1, 2, none⟩ (.slice ad3 (rtV none).length cap3)) w.heap.size 0 (.int .i64 kind) (.slice none 0 0) (.slice ad3 (rtV none).length cap3) (.int .i64 0) (.int .i64 0) (.int .i64 0) (.int .i64 0) (.string ⟨#[]⟩)).drew w.heap.size #[.int .i64 kind, .slice none 0 0, .slice ad3 (rtV none).length cap3, .int .i64 0, .int .i64 0, .int .i64 0, .int .i64 0, .string ⟨#[]⟩]) := Lib.hid (((HX3.out.setFar (by simp) _).set8 _ _ _ _ _ _ _ _).drew)
    have fin : Hid (entT kind l n w (.returned (.tuple #[.agg #[.int .i64 kind, .slice none 0 0, .slice ad3 (rtV none).length cap3, .int .i64 0, .int .i64 0, .int .i64 0, .int .i64 0, .string ⟨#[]⟩], .bool false])) (set8 (w3.setCell ⟨w.heap.size + 1, 2, none⟩ (.slice ad3 (rtV none).length cap3)) w.heap.size 0 (.int .i64 kind) (.slice none 0 0) (.slice ad3 (rtV none).length cap3) (.int .i64 0) (.int .i64 0) (.int .i64 0) (.int .i64 0) (.string ⟨#[]⟩)).drew) := Lib.hid (entT_of ⟨kind, [], [], zeroR⟩ _ _ false (by rw [HU.out]; rfl) (fun e he => by rw [HU.out] at he; cases he) (Row.nil _ _) ((row_set8 ((HV3.out.cellFar (by omega) _).mono (by omega)) (HV3.out.off (by omega)) _ _ _ _ _ _ _ _).drew) (apart_nil _) (below_set8 (HB3.out.setCell (by exact Nat.le_succ _) _) (Nat.le_refl _) _ _ _ _ _ _ _ _ _).drew)
    go_wp2
    go_region
    all_goals go_wp2
    all_goals exact bodyPost_ret (res_e2 Tryd.results46 _ w.heap.size rfl _ _ _ _ _ _ _ _ _ XF.out) rfl fin.out
  | some pr =>
    obtain ⟨x1, q⟩ := pr
    rw [ht1] at C1
    have hU := refE_three_yes k3 ht1
    have hx1l : x1.length ≤ 1000000 := by
      obtain ⟨r, h1, _⟩ := rtT_some ht1
      have := (tvT_rest h1).2
      rw [List.length_drop] at this
      omega
    simp only [rtE, rtV, Option.isSome] at C1
    clear ht1 k3
    go_enter Tryd.func46, Tryd.ntmps46
    go_wp2_with fail
    rw [← hW2]
    refine C1.out.mono ?_
    rintro x w3 ⟨V3, rfl, h3, b3⟩
    have HV3 := Lib.hid h3
    obtain ⟨ad3, cap3, rfl, _⟩ := h3.nl.form
    have hx3 := HX2.out.below b3
    have hy3 := HY2.out.below b3
    have HB3 := Lib.hid (bn HB2.out b3)
    have HX3 := Lib.hid hx3
    have HY3 := Lib.hid hy3
    have hz3 := b3.size
    have hlx := hx3.lt
    have hly := hy3.lt
    clear h3 b3
    obtain ⟨c0, c1, c2, c3, c4, c5, c6, c7⟩ := hx3.eight
    have s0 := hx3.soft 0
    have s1 := hx3.soft 1
    have s2 := hx3.soft 2
    have s3 := hx3.soft 3
    have s4 := hx3.soft 4
    have s5 := hx3.soft 5
    have s6 := hx3.soft 6
    have s7 := hx3.soft 7
    obtain ⟨d0, d1, d2, d3, d4, d5, d6, d7⟩ := hy3.eight
    have t0 := hy3.soft 0
    have t1 := hy3.soft 1
    have t2 := hy3.soft 2
    have t3 := hy3.soft 3
    have t4 := hy3.soft 4
    have t5 := hy3.soft 5
    have t6 := hy3.soft 6
    have t7 := hy3.soft 7
    by_cases hq : (q : Int) = (l.length : Int)
    · rw [if_pos hq] at hU
      have eq1 : ((q : Int) == (l.length : Int)) = true := by simpa using hq
      have HU := Lib.hid hU
      clear hU hq
      obtain ⟨W6, hW6⟩ : ∃ W6, W6 = w3.setCell ⟨w.heap.size + 1, 2, none⟩ (.slice ad3 x1.length cap3) := ⟨_, rfl⟩
      have HX6 : Hid (Bx 30 W6 w.heap.size #[.int .i64 0, .slice none 0 0, .slice none 0 0, .int .i64 0, .int .i64 0, .int .i64 0, .int .i64 0, .string ⟨#[]⟩]) := Lib.hid (by rw [hW6]; exact HX3.out.setFar (by simp) _)
      have HY6 : Hid (Bx 30 W6 (w.heap.size + 1) #[.int .i64 kind, .slice none 0 0, .slice ad3 x1.length cap3, .int .i64 0, .int .i64 0, .int .i64 0, .int .i64 0, .string ⟨#[]⟩]) := Lib.hid (by rw [hW6]; exact HY3.out.set 2 _)
      have HB6 : Hid (Below w.heap.size w W6) := Lib.hid (by rw [hW6]; exact HB3.out.setCell (by exact Nat.le_succ _) _)
      have HC6 : Hid (Row W6 W2.heap.size (.slice ad3 x1.length cap3) x1) := Lib.hid (by rw [hW6]; exact HV3.out.cellFar (by omega) _)
      have CM : Hid (∀ W, Below W6.heap.size W6 W → Calls Tryd.prog 15 #[.agg #[.int .i64 kind, .slice none 0 0, .slice ad3 x1.length cap3, .int .i64 0, .int .i64 0, .int .i64 0, .int .i64 0, .string ⟨#[]⟩], .int .i64 n] W fun x w' => x = .returned (.bool (mayE ⟨kind, [], x1, zeroR⟩ n)) ∧ Below W.heap.size W w') := Lib.hid (fun W hW => refmaye_c ⟨kind, [], x1, zeroR⟩ _ _ n W (.inl ⟨rfl, rfl⟩) (HC6.out.nl.below hW) (by simp) hx1l (show (0 : Nat) ≤ _ by decide) (HT.out.below (bn HB6.out hW)))
      generalize mayE ⟨kind, [], x1, zeroR⟩ n = M at CM HU
      have hlx6 := HX6.out.lt
      have hly6 := HY6.out.lt
      go_wp2
      rw [← hW6]
      clear hW6 c0 s0 d0 t0 c1 s1 d1 t1 c2 s2 d2 t2 c3 s3 d3 t3 c4 s4 d4 t4 c5 s5 d5 t5 c6 s6 d6 t6 c7 s7 d7 t7 hx3 hy3
      have HS : Hid (∀ w' : World, Below W6.heap.size W6 w' → w'.cell? ⟨w.heap.size + 1, 0, none⟩ = some (.int .i64 kind) ∧ w'.cell? ⟨w.heap.size + 1, 1, none⟩ = some (.slice none 0 0) ∧ w'.cell? ⟨w.heap.size + 1, 2, none⟩ = some (.slice ad3 x1.length cap3) ∧ w'.cell? ⟨w.heap.size + 1, 3, none⟩ = some (.int .i64 0) ∧ w'.cell? ⟨w.heap.size + 1, 4, none⟩ = some (.int .i64 0) ∧ w'.cell? ⟨w.heap.size + 1, 5, none⟩ = some (.int .i64 0) ∧ w'.cell? ⟨w.heap.size + 1, 6, none⟩ = some (.int .i64 0) ∧ w'.cell? ⟨w.heap.size + 1, 7, none⟩ = some (.string ⟨#[]⟩)) := Lib.hid (fun w' h' => (HY6.out.below h').eight)
      have HSF : Hid (∀ w' : World, Below W6.heap.size W6 w' → ((((((((w'.setCell ⟨w.heap.size, 0, none⟩ (.int .i64 kind)).setCell ⟨w.heap.size, 1, none⟩ (.slice none 0 0)).setCell ⟨w.heap.size, 2, none⟩ (.slice ad3 x1.length cap3)).setCell ⟨w.heap.size, 3, none⟩ (.int .i64 0)).setCell ⟨w.heap.size, 4, none⟩ (.int .i64 0)).setCell ⟨w.heap.size, 5, none⟩ (.int .i64 0)).setCell ⟨w.heap.size, 6, none⟩ (.int .i64 0)).setCell ⟨w.heap.size, 7, none⟩ (.string ⟨#[]⟩)).cell? ⟨w.heap.size + 1, 0, none⟩ = some (.int .i64 kind) ∧ ((((((((w'.setCell ⟨w.heap.size, 0, none⟩ (.int .i64 kind)).setCell ⟨w.heap.size, 1, none⟩ (.slice none 0 0)).setCell ⟨w.heap.size, 2, none⟩ (.slice ad3 x1.length cap3)).setCell ⟨w.heap.size, 3, none⟩ (.int .i64 0)).setCell ⟨w.heap.size, 4, none⟩ (.int .i64 0)).setCell ⟨w.heap.size, 5, none⟩ (.int .i64 0)).setCell ⟨w.heap.size, 6, none⟩ (.int .i64 0)).setCell ⟨w.heap.size, 7, none⟩ (.string ⟨#[]⟩)).cell? ⟨w.heap.size + 1, 1, none⟩ = some (.slice none 0 0) ∧ ((((((((w'.setCell ⟨w.heap.size, 0, none⟩ (.int .i64 kind)).setCell ⟨w.heap.size, 1, none⟩ (.slice none 0 0)).setCell ⟨w.heap.size, 2, none⟩ (.slice ad3 x1.length cap3)).setCell ⟨w.heap.size, 3, none⟩ (.int .i64 0)).setCell ⟨w.heap.size, 4, none⟩ (.int .i64 0)).setCell ⟨w.heap.size, 5, none⟩ (.int .i64 0)).setCell ⟨w.heap.size, 6, none⟩ (.int .i64 0)).setCell ⟨w.heap.size, 7, none⟩ (.string ⟨#[]⟩)).cell? ⟨w.heap.size + 1, 2, none⟩ = some (.slice ad3 x1.length cap3) ∧ ((((((((w'.setCell ⟨w.heap.size, 0, none⟩ (.int .i64 kind)).setCell ⟨w.heap.size, 1, none⟩ (.slice none 0 0)).setCell ⟨w.heap.size, 2, none⟩ (.slice ad3 x1.length cap3)).setCell ⟨w.heap.size, 3, none⟩ (.int .i64 0)).setCell ⟨w.heap.size, 4, none⟩ (.int .i64 0)).setCell ⟨w.heap.size, 5, none⟩ (.int .i64 0)).setCell ⟨w.heap.size, 6, none⟩ (.int .i64 0)).setCell ⟨w.heap.size, 7, none⟩ (.string ⟨#[]⟩)).cell? ⟨w.heap.size + 1, 3, none⟩ = some (.int .i64 0) ∧ ((((((((w'.setCell ⟨w.heap.size, 0, none⟩ (.int .i64 kind)).setCell ⟨w.heap.size, 1, none⟩ (.slice none 0 0)).setCell ⟨w.heap.size, 2, none⟩ (.slice ad3 x1.length cap3)).setCell ⟨w.heap.size, 3, none⟩ (.int .i64 0)).setCell ⟨w.heap.size, 4, none⟩ (.int .i64 0)).setCell ⟨w.heap.size, 5, none⟩ (.int .i64 0)).setCell ⟨w.heap.size, 6, none⟩ (.int .i64 0)).setCell ⟨w.heap.size, 7, none⟩ (.string ⟨#[]⟩)).cell? ⟨w.heap.size + 1, 4, none⟩ = some (.int .i64 0) ∧ ((((((((w'.setCell ⟨w.heap.size, 0, none⟩ (.int .i64 kind)).setCell ⟨w.heap.size, 1, none⟩ (.slice none 0 0)).setCell ⟨w.heap.size, 2, none⟩ (.slice ad3 x1.length cap3)).setCell ⟨w.heap.size, 3, none⟩ (.int .i64 0)).setCell ⟨w.heap.size, 4, none⟩ (.int .i64 0)).setCell ⟨w.heap.size, 5, none⟩ (.int .i64 0)).setCell ⟨w.heap.size, 6, none⟩ (.int .i64 0)).setCell ⟨w.heap.size, 7, none⟩ (.string ⟨#[]⟩)).cell? ⟨w.heap.size + 1, 5, none⟩ = some (.int .i64 0) ∧ ((((((((w'.setCell ⟨w.heap.size, 0, none⟩ (.int .i64 kind)).setCell ⟨w.heap.size, 1, none⟩ (.slice none 0 0)).setCell ⟨w.heap.size, 2, none⟩ (.slice ad3 x1.length cap3)).setCell ⟨w.heap.size, 3, none⟩ (.int .i64 0)).setCell ⟨w.heap.size, 4, none⟩ (.int .i64 0)).setCell ⟨w.heap.size, 5, none⟩ (.int .i64 0)).setCell ⟨w.heap.size, 6, none⟩ (.int .i64 0)).setCell ⟨w.heap.size, 7, none⟩ (.string ⟨#[]⟩)).cell? ⟨w.heap.size + 1, 6, none⟩ = some (.int .i64 0) ∧ ((((((((w'.setCell ⟨w.heap.size, 0, none⟩ (.int .i64 kind)).setCell ⟨w.heap.size, 1, none⟩ (.slice none 0 0)).setCell ⟨w.heap.size, 2, none⟩ (.slice ad3 x1.length cap3)).setCell ⟨w.heap.size, 3, none⟩ (.int .i64 0)).setCell ⟨w.heap.size, 4, none⟩ (.int .i64 0)).setCell ⟨w.heap.size, 5, none⟩ (.int .i64 0)).setCell ⟨w.heap.size, 6, none⟩ (.int .i64 0)).setCell ⟨w.heap.size, 7, none⟩ (.string ⟨#[]⟩)).cell? ⟨w.heap.size + 1, 7, none⟩ = some (.string ⟨#[]⟩)) := Lib.hid (fun w' h' => ((((((((((HY6.out.below h').setFar (by simp) _).setFar (by simp) _).setFar (by simp) _).setFar (by simp) _).setFar (by simp) _).setFar (by simp) _).setFar (by simp) _).setFar (by simp) _)).eight)
      go_region_held3 (fun w' => w'.cell? ⟨w.heap.size + 1, 0, none⟩ = some (.int .i64 kind) ∧ w'.cell? ⟨w.heap.size + 1, 1, none⟩ = some (.slice none 0 0) ∧ w'.cell? ⟨w.heap.size + 1, 2, none⟩ = some (.slice ad3 x1.length cap3) ∧ w'.cell? ⟨w.heap.size + 1, 3, none⟩ = some (.int .i64 0) ∧ w'.cell? ⟨w.heap.size + 1, 4, none⟩ = some (.int .i64 0) ∧ w'.cell? ⟨w.heap.size + 1, 5, none⟩ = some (.int .i64 0) ∧ w'.cell? ⟨w.heap.size + 1, 6, none⟩ = some (.int .i64 0) ∧ w'.cell? ⟨w.heap.size + 1, 7, none⟩ = some (.string ⟨#[]⟩)) (first | with_reducible exact HS.out _ b7' | with_reducible exact HSF.out _ b7' | exact HS.out _ (by first | exact (Below.refl _ _).drew | exact Below.refl _ _))
        (first
        | (go_at_call 15; refine (CM.out _ (by first | exact (Below.refl _ _).drew | exact Below.refl _ _)).mono ?_; rintro x w7 ⟨rfl, b7⟩; have b7' : Below W6.heap.size W6 w7 := bn (by first | exact (Below.refl _ _).drew | exact Below.refl _ _) b7; clear b7; have hx7 := HX6.out.below b7'; have hl7 := hx7.lt; obtain ⟨c0, c1, c2, c3, c4, c5, c6, c7⟩ := hx7.eight; have s0 := hx7.soft 0; have s1 := hx7.soft 1; have s2 := hx7.soft 2; have s3 := hx7.soft 3; have s4 := hx7.soft 4; have s5 := hx7.soft 5; have s6 := hx7.soft 6; have s7 := hx7.soft 7)
        | fail)
      have XF : Hid (Bx 30 (set8 w7 w.heap.size 0 (.int .i64 kind) (.slice none 0 0) (.slice ad3 x1.length cap3) (.int .i64 0) (.int .i64 0) (.int .i64 0) (.int .i64 0) (.string ⟨#[]⟩)) w.heap.size #[.int .i64 kind, .slice none 0 0, .slice ad3 x1.length cap3, .int .i64 0, .int .i64 0, .int .i64 0, .int .i64 0, .string ⟨#[]⟩]) := Lib.hid (hx7.set8 _ _ _ _ _ _ _ _)
      have fin : Hid (entT kind l n w (.returned (.tuple #[.agg #[.int .i64 kind, .slice none 0 0, .slice ad3 x1.length cap3, .int .i64 0, .int .i64 0, .int .i64 0, .int .i64 0, .string ⟨#[]⟩], .bool M])) (set8 w7 w.heap.size 0 (.int .i64 kind) (.slice none 0 0) (.slice ad3 x1.length cap3) (.int .i64 0) (.int .i64 0) (.int .i64 0) (.int .i64 0) (.string ⟨#[]⟩))) := Lib.hid (entT_of ⟨kind, [], x1, zeroR⟩ _ _ M (by rw [HU.out]; cases M <;> rfl) (fun e he => by rw [HU.out] at he; exact if_some_eq he) (Row.nil _ _) (row_set8 ((HC6.out.below b7').mono (by omega)) ((HC6.out.below b7').off (by omega)) _ _ _ _ _ _ _ _) (apart_nil _) (below_set8 (bn HB6.out b7') (Nat.le_refl _) _ _ _ _ _ _ _ _ _))
      go_wp2
      exact bodyPost_ret (res_e2 Tryd.results46 _ w.heap.size rfl _ _ _ _ _ _ _ _ _ XF.out) rfl fin.out
    · rw [if_neg hq] at hU
      have eq1 : ((q : Int) == (l.length : Int)) = false := by simpa using hq
      have HU := Lib.hid hU
      clear hU hq
      have XF : Hid (Bx 30 (set8 (w3.setCell ⟨w.heap.size + 1, 2, none⟩ (.slice ad3 x1.length cap3)) w.heap.size 0 (.int .i64 kind) (.slice none 0 0) (.slice ad3 x1.length cap3) (.int .i64 0) (.int .i64 0) (.int .i64 0) (.int .i64 0) (.string ⟨#[]⟩)).drew w.heap.size #[.int .i64 kind, .slice none 0 0, .slice ad3 x1.length cap3, .int .i64 0, .int .i64 0, .int .i64 0, .int .i64 0, .string ⟨#[]⟩]) := Lib.hid (((HX3.out.setFar (by simp) _).set8 _ _ _ _ _ _ _ _).drew)
      have fin : Hid (entT kind l n w (.returned (.tuple #[.agg #[.int .i64 kind, .slice none 0 0, .slice ad3 x1.length cap3, .int .i64 0, .int .i64 0, .int .i64 0, .int .i64 0, .string ⟨#[]⟩], .bool false])) (set8 (w3.setCell ⟨w.heap.size + 1, 2, none⟩ (.slice ad3 x1.length cap3)) w.heap.size 0 (.int .i64 kind) (.slice none 0 0) (.slice ad3 x1.length cap3) (.int .i64 0) (.int .i64 0) (.int .i64 0) (.int .i64 0) (.string ⟨#[]⟩)).drew) := Lib.hid (entT_of ⟨kind, [], x1, zeroR⟩ _ _ false (by rw [HU.out]; rfl) (fun e he => by rw [HU.out] at he; cases he) (Row.nil _ _) ((row_set8 ((HV3.out.cellFar (by omega) _).mono (by omega)) (HV3.out.off (by omega)) _ _ _ _ _ _ _ _).drew) (apart_nil _) (below_set8 (HB3.out.setCell (by exact Nat.le_succ _) _) (Nat.le_refl _) _ _ _ _ _ _ _ _ _).drew)
      go_wp2
      go_region
      all_goals go_wp2
      all_goals exact bodyPost_ret (res_e2 Tryd.results46 _ w.heap.size rfl _ _ _ _ _ _ _ _ _ XF.out) rfl fin.out

set_option maxHeartbeats 4000000 in
theorem ent_two (kind : Int) (l : List Int) (v : Value) (n : Int) (w : World) (k2 : kind = 2) (h : Bc w v l) (ho : OkB l) (hl : l.length ≤ 1000000) (hT : Tabs w) :
    Calls Tryd.prog 46 #[.int .i64 kind, v, .int .i64 n] w (entT kind l n w) := by
  have f1 : (kind == 1) = false := by simp; omega
  have f2 : (kind == 2) = true := by simpa using k2
  have CR : Hid (∀ W, Below w.heap.size w W → Calls Tryd.prog 66 #[v, .int .i64 0] W fun x w' => ∃ (r : Rc) (q : Int) (S : Bool), x = .returned (.tuple #[.agg #[.int .i64 r.o, .int .i64 r.s, .int .i64 r.w, .int .i64 r.c, .string r.t], .int .i64 q, .bool S]) ∧ Hid (refE kind l n = if S = true then (if q = (l.length : Int) then (if mayE ⟨kind, [], [], r⟩ n = true then some ⟨kind, [], [], r⟩ else none) else none) else none) ∧ Hid (r.t.size ≤ 120) ∧ Hid (Below W.heap.size W w')) := Lib.hid (fun W hW => (rread_c l v 0 W (h.below hW).blc ho hl (by decide) (by decide) (hT.below hW)).mono (by
    intro x w' hx
    unfold readT at hx
    rw [show (0 : Int).toNat = 0 from rfl, List.drop_zero] at hx
    unfold refE unE
    rw [if_neg (by omega), if_pos k2]
    cases hk : atOk l 0 with
    | false =>
      rw [hk] at hx
      obtain ⟨rfl, hb⟩ := hx
      exact ⟨zeroR, 0, false, rfl, Lib.hid (by simp), Lib.hid (show (0 : Nat) ≤ 120 by decide), Lib.hid hb⟩
    | true =>
      rw [hk] at hx
      obtain ⟨rfl, hb⟩ := hx
      have hsz : (rdR l).t.size ≤ 120 := by
        have h4 := hk
        unfold atOk rdOk at h4
        simp only [Bool.and_eq_true] at h4
        exact mayR_size (by simpa using h4.2.2.2.2)
      refine ⟨rdR l, _, true, rfl, Lib.hid ?_, Lib.hid hsz, Lib.hid hb⟩
      rw [show (0 : Int) + 12 + hdN l = 12 + hdN l from by omega, if_pos rfl]
      by_cases hq : 12 + hdN l = (l.length : Int)
      · rw [if_pos ⟨rfl, hq⟩, if_pos hq]
      · rw [if_neg (fun hh => hq hh.2), if_neg hq]))
  obtain ⟨ad, cap, rfl, hcap⟩ := h.2
  obtain ⟨W2, hW2⟩ : ∃ W2, W2 = (w.alloc (.cells #[.int .i64 0, .slice none 0 0, .slice none 0 0, .int .i64 0, .int .i64 0, .int .i64 0, .int .i64 0, .string ⟨#[]⟩] 30)).alloc (.cells #[.int .i64 kind, .slice none 0 0, .slice none 0 0, .int .i64 0, .int .i64 0, .int .i64 0, .int .i64 0, .string ⟨#[]⟩] 30) := ⟨_, rfl⟩
  have HB2 : Hid (Below w.heap.size w W2) := Lib.hid (by rw [hW2]; exact below_two _ _ _)
  have HX2 : Hid (Bx 30 W2 w.heap.size #[.int .i64 0, .slice none 0 0, .slice none 0 0, .int .i64 0, .int .i64 0, .int .i64 0, .int .i64 0, .string ⟨#[]⟩]) := Lib.hid (by rw [hW2]; exact (Bx.new _ _ _).alloc _)
  have HY2 : Hid (Bx 30 W2 (w.heap.size + 1) #[.int .i64 kind, .slice none 0 0, .slice none 0 0, .int .i64 0, .int .i64 0, .int .i64 0, .int .i64 0, .string ⟨#[]⟩]) := Lib.hid (by rw [hW2]; have := Bx.new 30 (w.alloc (.cells #[.int .i64 0, .slice none 0 0, .slice none 0 0, .int .i64 0, .int .i64 0, .int .i64 0, .int .i64 0, .string ⟨#[]⟩] 30)) #[.int .i64 kind, .slice none 0 0, .slice none 0 0, .int .i64 0, .int .i64 0, .int .i64 0, .int .i64 0, .string ⟨#[]⟩]; simpa using this)
  have hz2 : W2.heap.size = w.heap.size + 2 := by rw [hW2]; simp
  have HT := Lib.hid hT
  clear h ho hT
  have HK2 := Lib.hid k2
  clear k2
  go_enter Tryd.func46, Tryd.ntmps46
  go_wp2_with fail
  rw [← hW2]
  refine (CR.out _ HB2.out).mono ?_
  rintro x w3 ⟨r, q, S, rfl, HU0, HSz, b3⟩
  have hx3 := HX2.out.below b3.out
  have hy3 := HY2.out.below b3.out
  have HB3 := Lib.hid (bn HB2.out b3.out)
  have HX3 := Lib.hid hx3
  have HY3 := Lib.hid hy3
  have hz3 := b3.out.size
  have hlx := hx3.lt
  have hly := hy3.lt
  clear b3 CR
  obtain ⟨c0, c1, c2, c3, c4, c5, c6, c7⟩ := hx3.eight
  have s0 := hx3.soft 0
  have s1 := hx3.soft 1
  have s2 := hx3.soft 2
  have s3 := hx3.soft 3
  have s4 := hx3.soft 4
  have s5 := hx3.soft 5
  have s6 := hx3.soft 6
  have s7 := hx3.soft 7
  obtain ⟨d0, d1, d2, d3, d4, d5, d6, d7⟩ := hy3.eight
  have t0 := hy3.soft 0
  have t1 := hy3.soft 1
  have t2 := hy3.soft 2
  have t3 := hy3.soft 3
  have t4 := hy3.soft 4
  have t5 := hy3.soft 5
  have t6 := hy3.soft 6
  have t7 := hy3.soft 7
  cases S with
  | false =>
    have HU : Hid (refE kind l n = none) := Lib.hid (by have := HU0.out; rwa [if_neg (by decide)] at this)
    clear HU0
    have XF : Hid (Bx 30 (set8 ((((((w3.setCell ⟨w.heap.size + 1, 3, none⟩ (.int .i64 r.o)).setCell ⟨w.heap.size + 1, 4, none⟩ (.int .i64 r.s)).setCell ⟨w.heap.size + 1, 5, none⟩ (.int .i64 r.w)).setCell ⟨w.heap.size + 1, 6, none⟩ (.int .i64 r.c)).setCell ⟨w.heap.size + 1, 7, none⟩ (.string r.t))) w.heap.size 0 (.int .i64 kind) (.slice none 0 0) (.slice none 0 0) (.int .i64 r.o) (.int .i64 r.s) (.int .i64 r.w) (.int .i64 r.c) (.string r.t)).drew w.heap.size #[.int .i64 kind, .slice none 0 0, .slice none 0 0, .int .i64 r.o, .int .i64 r.s, .int .i64 r.w, .int .i64 r.c, .string r.t]) := Lib.hid ((((((((HX3.out.setFar (by simp) _).setFar (by simp) _).setFar (by simp) _).setFar (by simp) _).setFar (by simp) _)).set8 _ _ _ _ _ _ _ _).drew)
    have fin : Hid (entT kind l n w (.returned (.tuple #[.agg #[.int .i64 kind, .slice none 0 0, .slice none 0 0, .int .i64 r.o, .int .i64 r.s, .int .i64 r.w, .int .i64 r.c, .string r.t], .bool false])) (set8 ((((((w3.setCell ⟨w.heap.size + 1, 3, none⟩ (.int .i64 r.o)).setCell ⟨w.heap.size + 1, 4, none⟩ (.int .i64 r.s)).setCell ⟨w.heap.size + 1, 5, none⟩ (.int .i64 r.w)).setCell ⟨w.heap.size + 1, 6, none⟩ (.int .i64 r.c)).setCell ⟨w.heap.size + 1, 7, none⟩ (.string r.t))) w.heap.size 0 (.int .i64 kind) (.slice none 0 0) (.slice none 0 0) (.int .i64 r.o) (.int .i64 r.s) (.int .i64 r.w) (.int .i64 r.c) (.string r.t)).drew) := Lib.hid (entT_of ⟨kind, [], [], r⟩ _ _ false (by rw [HU.out]; rfl) (fun e he => by rw [HU.out] at he; cases he) (Row.nil _ _) (Row.nil _ _) (apart_nil _) (below_set8 ((((((HB3.out.setCell (by exact Nat.le_succ _) _).setCell (by exact Nat.le_succ _) _).setCell (by exact Nat.le_succ _) _).setCell (by exact Nat.le_succ _) _).setCell (by exact Nat.le_succ _) _)) (Nat.le_refl _) _ _ _ _ _ _ _ _ _).drew)
    go_wp2
    go_region
    all_goals go_wp2
    all_goals exact bodyPost_ret (res_e2 Tryd.results46 _ w.heap.size rfl _ _ _ _ _ _ _ _ _ XF.out) rfl fin.out
  | true =>
    by_cases hq : q = (l.length : Int)
    · have eq1 : (q == (l.length : Int)) = true := by simpa using hq
      have HU : Hid (refE kind l n = if mayE ⟨kind, [], [], r⟩ n = true then some ⟨kind, [], [], r⟩ else none) := Lib.hid (by have := HU0.out; rwa [if_pos rfl, if_pos hq] at this)
      clear HU0
      have HQ := Lib.hid hq
      clear hq
      obtain ⟨W6, hW6⟩ : ∃ W6, W6 = (((((w3.setCell ⟨w.heap.size + 1, 3, none⟩ (.int .i64 r.o)).setCell ⟨w.heap.size + 1, 4, none⟩ (.int .i64 r.s)).setCell ⟨w.heap.size + 1, 5, none⟩ (.int .i64 r.w)).setCell ⟨w.heap.size + 1, 6, none⟩ (.int .i64 r.c)).setCell ⟨w.heap.size + 1, 7, none⟩ (.string r.t)) := ⟨_, rfl⟩
      have HX6 : Hid (Bx 30 W6 w.heap.size #[.int .i64 0, .slice none 0 0, .slice none 0 0, .int .i64 0, .int .i64 0, .int .i64 0, .int .i64 0, .string ⟨#[]⟩]) := Lib.hid (by rw [hW6]; exact (((((HX3.out.setFar (by simp) _).setFar (by simp) _).setFar (by simp) _).setFar (by simp) _).setFar (by simp) _))
      have HY6 : Hid (Bx 30 W6 (w.heap.size + 1) #[.int .i64 kind, .slice none 0 0, .slice none 0 0, .int .i64 r.o, .int .i64 r.s, .int .i64 r.w, .int .i64 r.c, .string r.t]) := Lib.hid (by
        rw [hW6]
        have h1 : Bx _ _ _ #[.int .i64 kind, .slice none 0 0, .slice none 0 0, .int .i64 r.o, .int .i64 0, .int .i64 0, .int .i64 0, .string ⟨#[]⟩] := HY3.out.set 3 _
        have h2 : Bx _ _ _ #[.int .i64 kind, .slice none 0 0, .slice none 0 0, .int .i64 r.o, .int .i64 r.s, .int .i64 0, .int .i64 0, .string ⟨#[]⟩] := h1.set 4 _
        have h3 : Bx _ _ _ #[.int .i64 kind, .slice none 0 0, .slice none 0 0, .int .i64 r.o, .int .i64 r.s, .int .i64 r.w, .int .i64 0, .string ⟨#[]⟩] := h2.set 5 _
        have h4 : Bx _ _ _ #[.int .i64 kind, .slice none 0 0, .slice none 0 0, .int .i64 r.o, .int .i64 r.s, .int .i64 r.w, .int .i64 r.c, .string ⟨#[]⟩] := h3.set 6 _
        exact h4.set 7 _)
      have HB6 : Hid (Below w.heap.size w W6) := Lib.hid (by rw [hW6]; exact (((((HB3.out.setCell (by exact Nat.le_succ _) _).setCell (by exact Nat.le_succ _) _).setCell (by exact Nat.le_succ _) _).setCell (by exact Nat.le_succ _) _).setCell (by exact Nat.le_succ _) _))
      have CM : Hid (∀ W, Below W6.heap.size W6 W → Calls Tryd.prog 15 #[.agg #[.int .i64 kind, .slice none 0 0, .slice none 0 0, .int .i64 r.o, .int .i64 r.s, .int .i64 r.w, .int .i64 r.c, .string r.t], .int .i64 n] W fun x w' => x = .returned (.bool (mayE ⟨kind, [], [], r⟩ n)) ∧ Below W.heap.size W w') := Lib.hid (fun W hW => refmaye_c ⟨kind, [], [], r⟩ _ _ n W (.inl ⟨rfl, rfl⟩) (.inl ⟨rfl, rfl⟩) (by simp) (by simp) (by have := HSz.out; simp only; omega) (HT.out.below (bn HB6.out hW)))
      generalize mayE ⟨kind, [], [], r⟩ n = M at CM HU
      have hlx6 := HX6.out.lt
      have hly6 := HY6.out.lt
      go_wp2
      rw [← hW6]
      clear hW6 c0 s0 d0 t0 c1 s1 d1 t1 c2 s2 d2 t2 c3 s3 d3 t3 c4 s4 d4 t4 c5 s5 d5 t5 c6 s6 d6 t6 c7 s7 d7 t7 hx3 hy3
      have HS : Hid (∀ w' : World, Below W6.heap.size W6 w' → w'.cell? ⟨w.heap.size + 1, 0, none⟩ = some (.int .i64 kind) ∧ w'.cell? ⟨w.heap.size + 1, 1, none⟩ = some (.slice none 0 0) ∧ w'.cell? ⟨w.heap.size + 1, 2, none⟩ = some (.slice none 0 0) ∧ w'.cell? ⟨w.heap.size + 1, 3, none⟩ = some (.int .i64 r.o) ∧ w'.cell? ⟨w.heap.size + 1, 4, none⟩ = some (.int .i64 r.s) ∧ w'.cell? ⟨w.heap.size + 1, 5, none⟩ = some (.int .i64 r.w) ∧ w'.cell? ⟨w.heap.size + 1, 6, none⟩ = some (.int .i64 r.c) ∧ w'.cell? ⟨w.heap.size + 1, 7, none⟩ = some (.string r.t)) := Lib.hid (fun w' h' => (HY6.out.below h').eight)
      have HSF : Hid (∀ w' : World, Below W6.heap.size W6 w' → ((((((((w'.setCell ⟨w.heap.size, 0, none⟩ (.int .i64 kind)).setCell ⟨w.heap.size, 1, none⟩ (.slice none 0 0)).setCell ⟨w.heap.size, 2, none⟩ (.slice none 0 0)).setCell ⟨w.heap.size, 3, none⟩ (.int .i64 r.o)).setCell ⟨w.heap.size, 4, none⟩ (.int .i64 r.s)).setCell ⟨w.heap.size, 5, none⟩ (.int .i64 r.w)).setCell ⟨w.heap.size, 6, none⟩ (.int .i64 r.c)).setCell ⟨w.heap.size, 7, none⟩ (.string r.t)).cell? ⟨w.heap.size + 1, 0, none⟩ = some (.int .i64 kind) ∧ ((((((((w'.setCell ⟨w.heap.size, 0, none⟩ (.int .i64 kind)).setCell ⟨w.heap.size, 1, none⟩ (.slice none 0 0)).setCell ⟨w.heap.size, 2, none⟩ (.slice none 0 0)).setCell ⟨w.heap.size, 3, none⟩ (.int .i64 r.o)).setCell ⟨w.heap.size, 4, none⟩ (.int .i64 r.s)).setCell ⟨w.heap.size, 5, none⟩ (.int .i64 r.w)).setCell ⟨w.heap.size, 6, none⟩ (.int .i64 r.c)).setCell ⟨w.heap.size, 7, none⟩ (.string r.t)).cell? ⟨w.heap.size + 1, 1, none⟩ = some (.slice none 0 0) ∧ ((((((((w'.setCell ⟨w.heap.size, 0, none⟩ (.int .i64 kind)).setCell ⟨w.heap.size, 1, none⟩ (.slice none 0 0)).setCell ⟨w.heap.size, 2, none⟩ (.slice none 0 0)).setCell ⟨w.heap.size, 3, none⟩ (.int .i64 r.o)).setCell ⟨w.heap.size, 4, none⟩ (.int .i64 r.s)).setCell ⟨w.heap.size, 5, none⟩ (.int .i64 r.w)).setCell ⟨w.heap.size, 6, none⟩ (.int .i64 r.c)).setCell ⟨w.heap.size, 7, none⟩ (.string r.t)).cell? ⟨w.heap.size + 1, 2, none⟩ = some (.slice none 0 0) ∧ ((((((((w'.setCell ⟨w.heap.size, 0, none⟩ (.int .i64 kind)).setCell ⟨w.heap.size, 1, none⟩ (.slice none 0 0)).setCell ⟨w.heap.size, 2, none⟩ (.slice none 0 0)).setCell ⟨w.heap.size, 3, none⟩ (.int .i64 r.o)).setCell ⟨w.heap.size, 4, none⟩ (.int .i64 r.s)).setCell ⟨w.heap.size, 5, none⟩ (.int .i64 r.w)).setCell ⟨w.heap.size, 6, none⟩ (.int .i64 r.c)).setCell ⟨w.heap.size, 7, none⟩ (.string r.t)).cell? ⟨w.heap.size + 1, 3, none⟩ = some (.int .i64 r.o) ∧ ((((((((w'.setCell ⟨w.heap.size, 0, none⟩ (.int .i64 kind)).setCell ⟨w.heap.size, 1, none⟩ (.slice none 0 0)).setCell ⟨w.heap.size, 2, none⟩ (.slice none 0 0)).setCell ⟨w.heap.size, 3, none⟩ (.int .i64 r.o)).setCell ⟨w.heap.size, 4, none⟩ (.int .i64 r.s)).setCell ⟨w.heap.size, 5, none⟩ (.int .i64 r.w)).setCell ⟨w.heap.size, 6, none⟩ (.int .i64 r.c)).setCell ⟨w.heap.size, 7, none⟩ (.string r.t)).cell? ⟨w.heap.size + 1, 4, none⟩ = some (.int .i64 r.s) ∧ ((((((((w'.setCell ⟨w.heap.size, 0, none⟩ (.int .i64 kind)).setCell ⟨w.heap.size, 1, none⟩ (.slice none 0 0)).setCell ⟨w.heap.size, 2, none⟩ (.slice none 0 0)).setCell ⟨w.heap.size, 3, none⟩ (.int .i64 r.o)).setCell ⟨w.heap.size, 4, none⟩ (.int .i64 r.s)).setCell ⟨w.heap.size, 5, none⟩ (.int .i64 r.w)).setCell ⟨w.heap.size, 6, none⟩ (.int .i64 r.c)).setCell ⟨w.heap.size, 7, none⟩ (.string r.t)).cell? ⟨w.heap.size + 1, 5, none⟩ = some (.int .i64 r.w) ∧ ((((((((w'.setCell ⟨w.heap.size, 0, none⟩ (.int .i64 kind)).setCell ⟨w.heap.size, 1, none⟩ (.slice none 0 0)).setCell ⟨w.heap.size, 2, none⟩ (.slice none 0 0)).setCell ⟨w.heap.size, 3, none⟩ (.int .i64 r.o)).setCell ⟨w.heap.size, 4, none⟩ (.int .i64 r.s)).setCell ⟨w.heap.size, 5, none⟩ (.int .i64 r.w)).setCell ⟨w.heap.size, 6, none⟩ (.int .i64 r.c)).setCell ⟨w.heap.size, 7, none⟩ (.string r.t)).cell? ⟨w.heap.size + 1, 6, none⟩ = some (.int .i64 r.c) ∧ ((((((((w'.setCell ⟨w.heap.size, 0, none⟩ (.int .i64 kind)).setCell ⟨w.heap.size, 1, none⟩ (.slice none 0 0)).setCell ⟨w.heap.size, 2, none⟩ (.slice none 0 0)).setCell ⟨w.heap.size, 3, none⟩ (.int .i64 r.o)).setCell ⟨w.heap.size, 4, none⟩ (.int .i64 r.s)).setCell ⟨w.heap.size, 5, none⟩ (.int .i64 r.w)).setCell ⟨w.heap.size, 6, none⟩ (.int .i64 r.c)).setCell ⟨w.heap.size, 7, none⟩ (.string r.t)).cell? ⟨w.heap.size + 1, 7, none⟩ = some (.string r.t)) := Lib.hid (fun w' h' => ((((((((((HY6.out.below h').setFar (by simp) _).setFar (by simp) _).setFar (by simp) _).setFar (by simp) _).setFar (by simp) _).setFar (by simp) _).setFar (by simp) _).setFar (by simp) _)).eight)
      go_region_held3 (fun w' => w'.cell? ⟨w.heap.size + 1, 0, none⟩ = some (.int .i64 kind) ∧ w'.cell? ⟨w.heap.size + 1, 1, none⟩ = some (.slice none 0 0) ∧ w'.cell? ⟨w.heap.size + 1, 2, none⟩ = some (.slice none 0 0) ∧ w'.cell? ⟨w.heap.size + 1, 3, none⟩ = some (.int .i64 r.o) ∧ w'.cell? ⟨w.heap.size + 1, 4, none⟩ = some (.int .i64 r.s) ∧ w'.cell? ⟨w.heap.size + 1, 5, none⟩ = some (.int .i64 r.w) ∧ w'.cell? ⟨w.heap.size + 1, 6, none⟩ = some (.int .i64 r.c) ∧ w'.cell? ⟨w.heap.size + 1, 7, none⟩ = some (.string r.t)) (first | with_reducible exact HS.out _ b7' | with_reducible exact HSF.out _ b7' | exact HS.out _ (by first | exact (Below.refl _ _).drew | exact Below.refl _ _))
        (first
        | (go_at_call 15; refine (CM.out _ (by first | exact (Below.refl _ _).drew | exact Below.refl _ _)).mono ?_; rintro x w7 ⟨rfl, b7⟩; have b7' : Below W6.heap.size W6 w7 := bn (by first | exact (Below.refl _ _).drew | exact Below.refl _ _) b7; clear b7; have hx7 := HX6.out.below b7'; have hl7 := hx7.lt; obtain ⟨c0, c1, c2, c3, c4, c5, c6, c7⟩ := hx7.eight; have s0 := hx7.soft 0; have s1 := hx7.soft 1; have s2 := hx7.soft 2; have s3 := hx7.soft 3; have s4 := hx7.soft 4; have s5 := hx7.soft 5; have s6 := hx7.soft 6; have s7 := hx7.soft 7)
        | fail)
      have XF : Hid (Bx 30 (set8 w7 w.heap.size 0 (.int .i64 kind) (.slice none 0 0) (.slice none 0 0) (.int .i64 r.o) (.int .i64 r.s) (.int .i64 r.w) (.int .i64 r.c) (.string r.t)) w.heap.size #[.int .i64 kind, .slice none 0 0, .slice none 0 0, .int .i64 r.o, .int .i64 r.s, .int .i64 r.w, .int .i64 r.c, .string r.t]) := Lib.hid (hx7.set8 _ _ _ _ _ _ _ _)
      have fin : Hid (entT kind l n w (.returned (.tuple #[.agg #[.int .i64 kind, .slice none 0 0, .slice none 0 0, .int .i64 r.o, .int .i64 r.s, .int .i64 r.w, .int .i64 r.c, .string r.t], .bool M])) (set8 w7 w.heap.size 0 (.int .i64 kind) (.slice none 0 0) (.slice none 0 0) (.int .i64 r.o) (.int .i64 r.s) (.int .i64 r.w) (.int .i64 r.c) (.string r.t))) := Lib.hid (entT_of ⟨kind, [], [], r⟩ _ _ M (by rw [HU.out]; cases M <;> rfl) (fun e he => by rw [HU.out] at he; exact if_some_eq he) (Row.nil _ _) (Row.nil _ _) (apart_nil _) (below_set8 (bn HB6.out b7') (Nat.le_refl _) _ _ _ _ _ _ _ _ _))
      go_wp2
      exact bodyPost_ret (res_e2 Tryd.results46 _ w.heap.size rfl _ _ _ _ _ _ _ _ _ XF.out) rfl fin.out
    · have eq1 : (q == (l.length : Int)) = false := by simpa using hq
      have HU : Hid (refE kind l n = none) := Lib.hid (by have := HU0.out; rwa [if_pos rfl, if_neg hq] at this)
      clear HU0 hq
      have XF : Hid (Bx 30 (set8 ((((((w3.setCell ⟨w.heap.size + 1, 3, none⟩ (.int .i64 r.o)).setCell ⟨w.heap.size + 1, 4, none⟩ (.int .i64 r.s)).setCell ⟨w.heap.size + 1, 5, none⟩ (.int .i64 r.w)).setCell ⟨w.heap.size + 1, 6, none⟩ (.int .i64 r.c)).setCell ⟨w.heap.size + 1, 7, none⟩ (.string r.t))) w.heap.size 0 (.int .i64 kind) (.slice none 0 0) (.slice none 0 0) (.int .i64 r.o) (.int .i64 r.s) (.int .i64 r.w) (.int .i64 r.c) (.string r.t)).drew w.heap.size #[.int .i64 kind, .slice none 0 0, .slice none 0 0, .int .i64 r.o, .int .i64 r.s, .int .i64 r.w, .int .i64 r.c, .string r.t]) := Lib.hid ((((((((HX3.out.setFar (by simp) _).setFar (by simp) _).setFar (by simp) _).setFar (by simp) _).setFar (by simp) _)).set8 _ _ _ _ _ _ _ _).drew)
      have fin : Hid (entT kind l n w (.returned (.tuple #[.agg #[.int .i64 kind, .slice none 0 0, .slice none 0 0, .int .i64 r.o, .int .i64 r.s, .int .i64 r.w, .int .i64 r.c, .string r.t], .bool false])) (set8 ((((((w3.setCell ⟨w.heap.size + 1, 3, none⟩ (.int .i64 r.o)).setCell ⟨w.heap.size + 1, 4, none⟩ (.int .i64 r.s)).setCell ⟨w.heap.size + 1, 5, none⟩ (.int .i64 r.w)).setCell ⟨w.heap.size + 1, 6, none⟩ (.int .i64 r.c)).setCell ⟨w.heap.size + 1, 7, none⟩ (.string r.t))) w.heap.size 0 (.int .i64 kind) (.slice none 0 0) (.slice none 0 0) (.int .i64 r.o) (.int .i64 r.s) (.int .i64 r.w) (.int .i64 r.c) (.string r.t)).drew) := Lib.hid (entT_of ⟨kind, [], [], r⟩ _ _ false (by rw [HU.out]; rfl) (fun e he => by rw [HU.out] at he; cases he) (Row.nil _ _) (Row.nil _ _) (apart_nil _) (below_set8 ((((((HB3.out.setCell (by exact Nat.le_succ _) _).setCell (by exact Nat.le_succ _) _).setCell (by exact Nat.le_succ _) _).setCell (by exact Nat.le_succ _) _).setCell (by exact Nat.le_succ _) _)) (Nat.le_refl _) _ _ _ _ _ _ _ _ _).drew)
      go_wp2
      go_region
      all_goals go_wp2
      all_goals exact bodyPost_ret (res_e2 Tryd.results46 _ w.heap.size rfl _ _ _ _ _ _ _ _ _ XF.out) rfl fin.out

theorem entry_c (kind : Int) (l : List Int) (v : Value) (n : Int) (w : World) (h : Bc w v l) (ho : OkB l) (hl : l.length ≤ 1000000) (hT : Tabs w) :
    Calls Tryd.prog 46 #[.int .i64 kind, v, .int .i64 n] w (entT kind l n w) := by
  by_cases k1 : kind = 1
  · exact ent_one kind l v n w k1 h ho hl hT
  · by_cases k2 : kind = 2
    · exact ent_two kind l v n w k2 h ho hl hT
    · by_cases k3 : kind = 3
      · exact ent_three kind l v n w k3 h ho hl hT
      · obtain ⟨ad, cap, rfl, hcap⟩ := h.2
        exact ent_else kind l ad cap n w k1 k2 k3
end Go.Proofs.YtcnpckdchjjeoaaDoor
