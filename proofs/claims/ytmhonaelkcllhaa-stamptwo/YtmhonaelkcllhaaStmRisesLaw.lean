/-
  StampRises, as a call: it answers true, whatever it is given.
-/
import Derived.Test.YtmhonaelkcllhaaStmScriptLaw
namespace Go.Proofs.Ytmhonaelkcllhaa
open Go.RowKit Go.Lib

theorem mayB_mk {a c : Int} (h1 : 0 ≤ a) (h2 : a ≤ 1099511627776) (h3 : 0 ≤ c) (h4 : c ≤ 65535) : mayB a c = true := by simp [mayB, inB, h1, h2, h3, h4]
theorem lessB_mk {a c b d : Int} (h : a < b ∨ (a = b ∧ c < d)) : lessB a c b d = true := by
  unfold lessB
  rcases h with h | ⟨rfl, h⟩
  · simp [h]
  · simp [h]

theorem tick_err (a c n : Int) (h : (tick a c n).e ≠ 0) : tick a c n = ⟨(tick a c n).e, 0, 0, a, c⟩ := by
  unfold tick at h ⊢
  repeat' split
  all_goals simp_all
theorem tick_ok (a c n : Int) (hm : mayB a c = true) (h : (tick a c n).e = 0) : (tick a c n).ra = (tick a c n).ka ∧ (tick a c n).rc = (tick a c n).kc ∧ lessB a c (tick a c n).ka (tick a c n).kc = true ∧ n ≤ (tick a c n).ka ∧ mayB (tick a c n).ka (tick a c n).kc = true := by
  obtain ⟨⟨b1, b2⟩, b3, b4⟩ := mayB_iff hm
  unfold tick at h ⊢
  cases hn : inB n 1099511627776
  · rw [hn] at h; simp at h
  · obtain ⟨n0, n1⟩ := inB_iff hn
    rw [hn] at h
    rw [if_neg (by simp)] at h ⊢
    by_cases h1 : a < n
    · rw [if_pos h1] at h ⊢
      exact ⟨rfl, rfl, lessB_mk (.inl h1), Int.le_refl _, mayB_mk n0 n1 (by simp) (by simp)⟩
    · rw [if_neg h1] at h ⊢
      by_cases h2 : 65535 ≤ c
      · rw [if_pos h2] at h; simp at h
      · rw [if_neg h2]
        exact ⟨rfl, rfl, lessB_mk (.inr ⟨rfl, by simp only; omega⟩), by simp only; omega, mayB_mk b1 b2 (by simp only; omega) (by simp only; omega)⟩
theorem see_err (a c s t n : Int) (h : (see a c s t n).e ≠ 0) : see a c s t n = ⟨(see a c s t n).e, 0, 0, a, c⟩ := by
  unfold see at h ⊢
  repeat' split
  all_goals simp_all
theorem see_ok (a c s t n : Int) (hm : mayB a c = true) (h : (see a c s t n).e = 0) : lessB s t (see a c s t n).ka (see a c s t n).kc = true ∧ lessB a c (see a c s t n).ka (see a c s t n).kc = true ∧ n ≤ (see a c s t n).ka ∧ mayB (see a c s t n).ka (see a c s t n).kc = true := by
  obtain ⟨⟨b1, b2⟩, b3, b4⟩ := mayB_iff hm
  unfold see at h ⊢
  cases hn : (mayB s t && inB n 1099511627776)
  · rw [hn] at h; simp at h
  · rw [hn] at h
    simp only [Bool.and_eq_true] at hn
    obtain ⟨⟨c1, c2⟩, c3, c4⟩ := mayB_iff hn.1
    obtain ⟨n0, n1⟩ := inB_iff hn.2
    simp only [Bool.true_eq_false, if_false] at h ⊢
    by_cases h1 : 1000 < s - n
    · rw [if_pos h1] at h; simp at h
    · rw [if_neg h1] at h ⊢
      by_cases h2 : 65535 < cntF (mx3 n s a) [(s, t), (a, c)] 0
      · rw [if_pos h2] at h; simp at h
      · rw [if_neg h2]
        have e := cnt_two (mx3 n s a) s t a c c3
        rw [e] at h2
        simp only
        rw [e]
        have hm3 : mx3 n s a = max (max n s) a := by unfold mx3; repeat' split <;> omega
        generalize mx3 n s a = m at *
        refine ⟨lessB_mk ?_, lessB_mk ?_, by omega, mayB_mk (by omega) (by omega) ?_ (by omega)⟩
        · repeat' split
          all_goals omega
        · repeat' split
          all_goals omega
        · repeat' split
          all_goals omega

theorem field_run (x y : Int) (W : World) : (Instr.field 23 (.agg #[.int .i64 x, .int .i64 y]) 0).run Try.prog W = .ok (.int .i64 x) W := by
  simp [Instr.field, run_underlying Try.underlying23, go_sem, part, asAgg]

set_option maxHeartbeats 1000000 in
set_option maxRecDepth 100000 in
theorem rises_nil (a c : Int) (v : Value) (w : World) (hm : mayB a c = false) :
    Calls Try.prog 5 #[.agg #[.int .i64 a, .int .i64 c], v] w fun e w' => e = .returned (.bool true) ∧ Below w.heap.size w w' := by
  have HN := Lib.hid (fun W => new_nil a c W hm)
  clear hm
  go_enter Try.func5, Try.ntmps5
  go_wp2_with fail
  refine (HN.out _).mono ?_
  rintro e w3 ⟨rfl, b3⟩
  go_wp2_with fail
  refine (awake_c _).mono ?_
  rintro e w4 ⟨rfl, b4⟩
  go_wp2
  go_ret
  exact ⟨rfl, (((Below.refl _ _).alloc (Nat.le_refl _) _).trans (b3.mono (by simp))).trans (b4.mono (by have := b3.size; simp at this; omega))⟩

set_option maxHeartbeats 1000000 in
set_option maxRecDepth 100000 in
theorem rises_many (a c : Int) (ad : Option Addr) (n cap : Nat) (w : World) (hn : 60 < n) (hm : mayB a c = true) :
    Calls Try.prog 5 #[.agg #[.int .i64 a, .int .i64 c], .slice ad n cap] w fun e w' => e = .returned (.bool true) ∧ Below w.heap.size w w' := by
  have hz3 : decide (60 < n) = true := by simpa using hn
  have HN := Lib.hid (fun W => new_c a c W hm)
  clear hm
  go_enter Try.func5, Try.ntmps5
  go_wp2_with fail
  refine (HN.out _).mono ?_
  rintro e w3 ⟨g, rfl, hg, hk, b3⟩
  go_wp2_with fail
  refine (awake_c _).mono ?_
  rintro e w4 ⟨rfl, b4⟩
  go_wp2
  go_ret
  exact ⟨rfl, (((Below.refl _ _).alloc (Nat.le_refl _) _).trans (b3.mono (by simp))).trans (b4.mono (by have := b3.size; simp at this; omega))⟩

set_option maxHeartbeats 16000000 in
set_option maxRecDepth 100000 in
theorem rises_yes (la lc : Int) (l : List Ac) (v : Value) (w : World) (hn : l.length ≤ 60) (hm0 : mayB la lc = true) (hA : Al w v l) :
    Calls Try.prog 5 #[.agg #[.int .i64 la, .int .i64 lc], v] w fun e w' => e = .returned (.bool true) ∧ Below w.heap.size w w' := by
  obtain ⟨ad, cap, rfl, hA⟩ := hA
  have HA := Lib.hid hA
  have hz3 : decide (60 < l.length) = false := by simpa using hn
  have HN := Lib.hid (fun W => new_c la lc W hm0)
  have HM0 := Lib.hid hm0
  clear hm0 hA
  go_enter Try.func5, Try.ntmps5
  go_wp2_with fail
  refine (HN.out _).mono ?_
  rintro e w1 ⟨g, rfl, hg, hk1, b1⟩
  have hg' : w.heap.size + 1 ≤ g := by simpa using hg
  have hz1 : w.heap.size + 1 ≤ w1.heap.size := by simpa using b1.size
  have d0 : w1.cell? ⟨w.heap.size, 0, none⟩ = some (.int .i64 la) := (b1.cell (by simp)).trans (by simp [go_sem])
  have d1 : w1.cell? ⟨w.heap.size, 1, none⟩ = some (.int .i64 lc) := (b1.cell (by simp)).trans (by simp [go_sem])
  have HB1 : Hid (Below w.heap.size w w1) := Lib.hid (((Below.refl _ _).alloc (Nat.le_refl _) _).trans (b1.mono (by simp)))
  have KG1 := Lib.hid hk1
  have hlg1 := hk1.lt
  clear b1 hk1 HN hg
  go_wp2
  obtain ⟨tb, htb⟩ : ∃ tb, tb = w1.heap.size := ⟨_, rfl⟩
  have KT1 : Hid (Clk 23 (w1.alloc (.cells #[.int .i64 la, .int .i64 lc] 23)) tb la lc) := Lib.hid (by rw [htb]; exact heap_alloc_new w1 _)
  rw [← htb]
  have hne : g ≠ tb := by omega
  have htw : w.heap.size ≤ tb := by omega
  clear htb
  go_loopw [7] (fun v7 wr => ∃ (k : Nat) (a c : Int), k ≤ l.length ∧ v7 = .int .i64 (k : Int) ∧ mayB a c = true ∧ Clk 57 wr g a c ∧ Clk 23 wr tb a c ∧ Below w.heap.size w wr) (fun v7 _ => l.length - (intOf v7).toNat)
  case atStart => exact ⟨0, la, lc, by omega, rfl, HM0.out, KG1.out.alloc _, KT1.out, HB1.out.alloc (by omega) _⟩
  case round =>
    obtain ⟨k, a, c, hk, rfl, hm, kg, kt, hbw⟩ := hrel
    have hcb := (mayB_iff hm).2
    have hlg := kg.lt
    have hlt := kt.lt
    have hsw := hbw.size
    have KG := Lib.hid kg
    have KT := Lib.hid kt
    clear kg kt KG1 KT1 HB1
    by_cases hp : k < l.length
    · obtain ⟨b, o, rfl, hAc⟩ := HA.out (by omega)
      have hbw0 : b < w.heap.size := World.block_lt_of_cell? w _ (hAc k hp).1
      have hAk := fun (x : Addr) (vx : Value) (hx : w.cell? x = some vx) => (hbw.cell (World.block_lt_of_cell? w x hx)).trans hx
      have c0 := hAk _ _ (hAc k hp).1
      have c1 := hAk _ _ (hAc k hp).2.1
      have c2 := hAk _ _ (hAc k hp).2.2.1
      have c3 := hAk _ _ (hAc k hp).2.2.2
      clear hAk hAc
      generalize l[k] = x at c0 c1 c2 c3
      obtain ⟨sb, s, t, n⟩ := x
      simp only at c0 c1 c2 c3
      have hbl : b < wr.heap.size := World.block_lt_of_cell? wr _ c0
      cases sb
      · skip
        go_wp2_with fail
        refine (last_c 57 g a c _ (by exact KG.out.alloc _)).mono ?_
        rintro e w2 ⟨rfl, b2⟩
        have bx2 : Bx w2 wr.heap.size false s t n := Bx.below (heap_alloc_new wr _) b2
        have hb2 : Below w.heap.size w w2 := (hbw.alloc hsw _).trans (b2.mono (by simp; omega))
        have KG2 : Hid (Clk 57 w2 g a c) := Lib.hid ((KG.out.alloc _).below b2)
        have KT2 : Hid (Clk 23 w2 tb a c) := Lib.hid ((KT.out.alloc _).below b2)
        obtain ⟨x1, x2, x3⟩ := bx2.cells
        have x0 : w2.cell? ⟨wr.heap.size, 0, none⟩ = some (.bool false) := by rw [cell_of_row w2 wr.heap.size _ _ _ _ bx2]; rfl
        have hlt2 := bx2.lt
        have BX2 := Lib.hid bx2
        have HB2 := Lib.hid hb2
        have hs2 := hb2.size
        clear bx2 hb2 b2 KG KT

        have CS := Lib.hid (fun W (hW : Clk 57 W g a c) => tick_c 57 g a c n W hW hcb.2 hcb.1)
        by_cases he : (tick a c n).e = 0
        · obtain ⟨f0, f1, f2, f3, f4⟩ := tick_ok a c n hm he
          generalize tick a c n = R at CS he f0 f1 f2 f3 f4
          obtain ⟨re, ka, kc, ka', kc'⟩ := R
          simp only at he f0 f1 f2 f3 f4
          subst he f0 f1
          have f3' : decide (ka < n) = false := by simpa using f3
          go_wp2_with fail
          refine (CS.out _ (by exact KG2.out.alloc _)).mono ?_
          rintro e w4 ⟨rfl, gr4, kg4⟩
          have BX4 : Hid (Bx w4 wr.heap.size false s t n) := Lib.hid ((BX2.out.alloc _).far gr4 (by omega))
          have KW4 : Hid (Clk 23 w4 w2.heap.size a c) := Lib.hid (Clk.far (heap_alloc_new w2 _) gr4 (by omega))
          have KT4 : Hid (Clk 23 w4 tb a c) := Lib.hid ((KT2.out.alloc _).far gr4 (by omega))
          have KG4 := Lib.hid kg4
          have HB4 : Hid (Below w.heap.size w w4) := Lib.hid ((HB2.out.alloc hs2 _).trans (below_of_grown gr4 (by simp; omega) (by omega)))
          have z4 : w2.heap.size + 1 ≤ w4.heap.size := by simpa using gr4.size
          clear gr4 kg4 x0 x1 x2 x3
          go_wp2
          obtain ⟨W5, hW5⟩ : ∃ W5, W5 = w4.alloc (.cells #[.int .i64 ka, .int .i64 kc] 23) := ⟨_, rfl⟩
          have BX5 : Hid (Bx W5 wr.heap.size false s t n) := Lib.hid (by rw [hW5]; exact BX4.out.alloc _)
          have KW5 : Hid (Clk 23 W5 w2.heap.size a c) := Lib.hid (by rw [hW5]; exact KW4.out.alloc _)
          have KT5 : Hid (Clk 23 W5 tb a c) := Lib.hid (by rw [hW5]; exact KT4.out.alloc _)
          have KG5 := Lib.hid (show Clk 57 W5 g ka kc by rw [hW5]; exact KG4.out.alloc _)
          have KA5 : Hid (Clk 23 W5 w4.heap.size ka kc) := Lib.hid (by rw [hW5]; exact heap_alloc_new w4 _)
          have HB5 : Hid (Below w.heap.size w W5) := Lib.hid (by rw [hW5]; exact HB4.out.alloc HB4.out.size _)
          have z5 : w4.heap.size + 1 ≤ W5.heap.size := by rw [hW5]; simp
          have HS5 : Hid (∀ w' : World, Below W5.heap.size W5 w' → w'.cell? ⟨w4.heap.size, 0, none⟩ = some (.int .i64 ka) ∧ w'.cell? ⟨w4.heap.size, 1, none⟩ = some (.int .i64 kc) ∧ w'.cell? ⟨tb, 0, none⟩ = some (.int .i64 a) ∧ w'.cell? ⟨tb, 1, none⟩ = some (.int .i64 c) ∧ w'.cell? ⟨wr.heap.size, 3, none⟩ = some (.int .i64 n)) := Lib.hid (fun w' hb => by
            obtain ⟨y1, y2, y3⟩ := (BX5.out.below hb).cells
            exact ⟨(KA5.out.below hb).cell0, (KA5.out.below hb).cell1, (KT5.out.below hb).cell0, (KT5.out.below hb).cell1, y3⟩)
          rw [← hW5]
          clear hW5
          go_region_held3 (fun w' => w'.cell? ⟨w4.heap.size, 0, none⟩ = some (.int .i64 ka) ∧ w'.cell? ⟨w4.heap.size, 1, none⟩ = some (.int .i64 kc) ∧ w'.cell? ⟨tb, 0, none⟩ = some (.int .i64 a) ∧ w'.cell? ⟨tb, 1, none⟩ = some (.int .i64 c) ∧ w'.cell? ⟨wr.heap.size, 3, none⟩ = some (.int .i64 n)) (exact HS5.out _ (by first | assumption | exact (Below.refl _ _).drew | exact Below.refl _ _))
            (first
            | (go_at_call 18; refine (last_c 57 g ka kc _ (by exact KG5.out.below (by first | assumption | exact (Below.refl _ _).drew))).mono ?_; rintro e w6 ⟨rfl, b6⟩; have b6' : Below W5.heap.size W5 w6 := Below.next (by first | assumption | exact (Below.refl _ _).drew) b6; clear b6)
            | (go_at_call 13; refine (less_c _ _ _ _ _).mono ?_; rintro e w6 ⟨rfl, b6⟩; have b6' : Below W5.heap.size W5 w6 := Below.next (by first | assumption | exact (Below.refl _ _).drew) b6; clear b6)
            | (go_at_call 11; refine (may_c _ _ _).mono ?_; rintro e w6 ⟨rfl, b6⟩; have b6' : Below W5.heap.size W5 w6 := Below.next (by first | assumption | exact (Below.refl _ _).drew) b6; clear b6))
          have kt6 : Clk 23 w6 tb a c := KT5.out.below b6'
          have KG6 := Lib.hid (KG5.out.below b6')
          have HB6 := Lib.hid (HB5.out.trans (b6'.mono HB5.out.size))
          have hs6 := HB6.out.size
          clear HS5
          go_wp2_with fail
          refine (last_c 57 g ka kc _ (by exact KG6.out)).mono ?_
          rintro e w7 ⟨rfl, b7⟩
          have kt7 := kt6.below b7
          have t0 := kt7.cell0
          have t1 := kt7.cell1
          have t2 := kt7.soft 0
          have t3 := kt7.soft 1
          go_wp2
          go_roundw
          case rel => exact ⟨k + 1, ka, kc, hp, by go_num, f4, ((KG6.out.below b7).setFar (by show g ≠ tb; omega) _).setFar (by show g ≠ tb; omega) _, kt7.set ka kc, (((HB6.out.trans (b7.mono hs6))).setCell (by show w.heap.size ≤ tb; omega) _).setCell (by show w.heap.size ≤ tb; omega) _⟩
          case measure => simp [intOf]; omega
        · have hse := tick_err a c n he
          generalize (tick a c n).e = re at hse he
          rw [hse] at CS
          clear hse
          have hre : (re != 0) = true := by simpa using he
          clear he
          go_wp2_with fail
          refine (CS.out _ (by exact KG2.out.alloc _)).mono ?_
          rintro e w4 ⟨rfl, gr4, kg4⟩
          have BX4 : Hid (Bx w4 wr.heap.size false s t n) := Lib.hid ((BX2.out.alloc _).far gr4 (by omega))
          have KW4 : Hid (Clk 23 w4 w2.heap.size a c) := Lib.hid (Clk.far (heap_alloc_new w2 _) gr4 (by omega))
          have KT4 : Hid (Clk 23 w4 tb a c) := Lib.hid ((KT2.out.alloc _).far gr4 (by omega))
          have KG4 := Lib.hid kg4
          have HB4 : Hid (Below w.heap.size w w4) := Lib.hid ((HB2.out.alloc hs2 _).trans (below_of_grown gr4 (by simp; omega) (by omega)))
          have z4 : w2.heap.size + 1 ≤ w4.heap.size := by simpa using gr4.size
          clear gr4 kg4 x0 x1 x2 x3
          go_wp2
          obtain ⟨W5, hW5⟩ : ∃ W5, W5 = w4.alloc (.cells #[.int .i64 0, .int .i64 0] 23) := ⟨_, rfl⟩
          have BX5 : Hid (Bx W5 wr.heap.size false s t n) := Lib.hid (by rw [hW5]; exact BX4.out.alloc _)
          have KW5 : Hid (Clk 23 W5 w2.heap.size a c) := Lib.hid (by rw [hW5]; exact KW4.out.alloc _)
          have KT5 : Hid (Clk 23 W5 tb a c) := Lib.hid (by rw [hW5]; exact KT4.out.alloc _)
          have KG5 := Lib.hid (show Clk 57 W5 g a c by rw [hW5]; exact KG4.out.alloc _)
          have KA5 : Hid (Clk 23 W5 w4.heap.size 0 0) := Lib.hid (by rw [hW5]; exact heap_alloc_new w4 _)
          have HB5 : Hid (Below w.heap.size w W5) := Lib.hid (by rw [hW5]; exact HB4.out.alloc HB4.out.size _)
          have z5 : w4.heap.size + 1 ≤ W5.heap.size := by rw [hW5]; simp
          have HS5 : Hid (∀ w' : World, Below W5.heap.size W5 w' → w'.cell? ⟨w2.heap.size, 0, none⟩ = some (.int .i64 a) ∧ w'.cell? ⟨w2.heap.size, 1, none⟩ = some (.int .i64 c) ∧ w'.cell? ⟨w4.heap.size, 0, none⟩ = some (.int .i64 0) ∧ w'.cell? ⟨w4.heap.size, 1, none⟩ = some (.int .i64 0)) := Lib.hid (fun w' hb => ⟨(KW5.out.below hb).cell0, (KW5.out.below hb).cell1, (KA5.out.below hb).cell0, (KA5.out.below hb).cell1⟩)
          rw [← hW5]
          clear hW5
          go_region_held3 (fun w' => w'.cell? ⟨w2.heap.size, 0, none⟩ = some (.int .i64 a) ∧ w'.cell? ⟨w2.heap.size, 1, none⟩ = some (.int .i64 c) ∧ w'.cell? ⟨w4.heap.size, 0, none⟩ = some (.int .i64 0) ∧ w'.cell? ⟨w4.heap.size, 1, none⟩ = some (.int .i64 0)) (exact HS5.out _ (by first | assumption | exact (Below.refl _ _).drew | exact Below.refl _ _))
            (first
            | (go_at_call 18; refine (last_c 57 g a c _ (by exact KG5.out.below (by first | assumption | exact (Below.refl _ _).drew))).mono ?_; rintro e w6 ⟨rfl, b6⟩; have b6' : Below W5.heap.size W5 w6 := Below.next (by first | assumption | exact (Below.refl _ _).drew) b6; clear b6))
          go_wp2
          go_roundw
          case rel => exact ⟨k + 1, a, c, hp, by go_num, hm, KG5.out.below b6', KT5.out.below b6', HB5.out.trans (b6'.mono HB5.out.size)⟩
          case measure => simp [intOf]; omega
      · skip
        go_wp2_with fail
        refine (last_c 57 g a c _ (by exact KG.out.alloc _)).mono ?_
        rintro e w2 ⟨rfl, b2⟩
        have bx2 : Bx w2 wr.heap.size true s t n := Bx.below (heap_alloc_new wr _) b2
        have hb2 : Below w.heap.size w w2 := (hbw.alloc hsw _).trans (b2.mono (by simp; omega))
        have KG2 : Hid (Clk 57 w2 g a c) := Lib.hid ((KG.out.alloc _).below b2)
        have KT2 : Hid (Clk 23 w2 tb a c) := Lib.hid ((KT.out.alloc _).below b2)
        obtain ⟨x1, x2, x3⟩ := bx2.cells
        have x0 : w2.cell? ⟨wr.heap.size, 0, none⟩ = some (.bool true) := by rw [cell_of_row w2 wr.heap.size _ _ _ _ bx2]; rfl
        have hlt2 := bx2.lt
        have BX2 := Lib.hid bx2
        have HB2 := Lib.hid hb2
        have hs2 := hb2.size
        clear bx2 hb2 b2 KG KT

        have CS := Lib.hid (fun W (hW : Clk 57 W g a c) => see_c 57 g a c s t n W hW hcb)
        by_cases he : (see a c s t n).e = 0
        · obtain ⟨f1, f2, f3, f4⟩ := see_ok a c s t n hm he
          generalize see a c s t n = R at CS he f1 f2 f3 f4
          obtain ⟨re, ra, rc, ka, kc⟩ := R
          simp only at he f1 f2 f3 f4
          subst he
          go_wp2_with fail
          refine (CS.out _ (by exact KG2.out.alloc _)).mono ?_
          rintro e W5 ⟨rfl, gr5, kg5⟩
          have BX5 : Hid (Bx W5 wr.heap.size true s t n) := Lib.hid ((BX2.out.alloc _).far gr5 (by omega))
          have KW5 : Hid (Clk 23 W5 w2.heap.size a c) := Lib.hid (Clk.far (heap_alloc_new w2 _) gr5 (by omega))
          have KT5 : Hid (Clk 23 W5 tb a c) := Lib.hid ((KT2.out.alloc _).far gr5 (by omega))
          have KG5 := Lib.hid kg5
          have HB5 : Hid (Below w.heap.size w W5) := Lib.hid ((HB2.out.alloc hs2 _).trans (below_of_grown gr5 (by simp; omega) (by omega)))
          have z5 : w2.heap.size + 1 ≤ W5.heap.size := by simpa using gr5.size
          clear gr5 kg5 x0 x1 x2 x3
          have HS5 : Hid (∀ w' : World, Below W5.heap.size W5 w' → w'.cell? ⟨wr.heap.size, 1, none⟩ = some (.int .i64 s) ∧ w'.cell? ⟨wr.heap.size, 2, none⟩ = some (.int .i64 t) ∧ w'.cell? ⟨wr.heap.size, 3, none⟩ = some (.int .i64 n) ∧ w'.cell? ⟨w2.heap.size, 0, none⟩ = some (.int .i64 a) ∧ w'.cell? ⟨w2.heap.size, 1, none⟩ = some (.int .i64 c)) := Lib.hid (fun w' hb => by
            obtain ⟨y1, y2, y3⟩ := (BX5.out.below hb).cells
            exact ⟨y1, y2, y3, (KW5.out.below hb).cell0, (KW5.out.below hb).cell1⟩)
          have f3' : decide (ka < n) = false := by simpa using f3
          have hfl := field_run ka kc
          go_wp2
          go_region_held3 (fun w' => w'.cell? ⟨wr.heap.size, 1, none⟩ = some (.int .i64 s) ∧ w'.cell? ⟨wr.heap.size, 2, none⟩ = some (.int .i64 t) ∧ w'.cell? ⟨wr.heap.size, 3, none⟩ = some (.int .i64 n) ∧ w'.cell? ⟨w2.heap.size, 0, none⟩ = some (.int .i64 a) ∧ w'.cell? ⟨w2.heap.size, 1, none⟩ = some (.int .i64 c)) (exact HS5.out _ (by first | assumption | exact (Below.refl _ _).drew | exact Below.refl _ _))
            (first
            | (go_at_call 18; refine (last_c 57 g ka kc _ (by exact KG5.out.below (by first | assumption | exact (Below.refl _ _).drew))).mono ?_; rintro e w6 ⟨rfl, b6⟩; have b6' : Below W5.heap.size W5 w6 := Below.next (by first | assumption | exact (Below.refl _ _).drew) b6; clear b6)
            | (go_at_call 13; refine (less_c _ _ _ _ _).mono ?_; rintro e w6 ⟨rfl, b6⟩; have b6' : Below W5.heap.size W5 w6 := Below.next (by first | assumption | exact (Below.refl _ _).drew) b6; clear b6))
          have kt6 : Clk 23 w6 tb a c := KT5.out.below b6'
          have KG6 := Lib.hid (KG5.out.below b6')
          have HB6 := Lib.hid (HB5.out.trans (b6'.mono HB5.out.size))
          have hs6 := HB6.out.size
          clear HS5
          go_wp2_with fail
          refine (last_c 57 g ka kc _ (by exact KG6.out)).mono ?_
          rintro e w7 ⟨rfl, b7⟩
          have kt7 := kt6.below b7
          have t0 := kt7.cell0
          have t1 := kt7.cell1
          have t2 := kt7.soft 0
          have t3 := kt7.soft 1
          go_wp2
          go_roundw
          case rel => exact ⟨k + 1, ka, kc, hp, by go_num, f4, ((KG6.out.below b7).setFar (by show g ≠ tb; omega) _).setFar (by show g ≠ tb; omega) _, kt7.set ka kc, (((HB6.out.trans (b7.mono hs6))).setCell (by show w.heap.size ≤ tb; omega) _).setCell (by show w.heap.size ≤ tb; omega) _⟩
          case measure => simp [intOf]; omega
        · have hse := see_err a c s t n he
          generalize (see a c s t n).e = re at hse he
          rw [hse] at CS
          clear hse
          have hre : (re != 0) = true := by simpa using he
          clear he
          go_wp2_with fail
          refine (CS.out _ (by exact KG2.out.alloc _)).mono ?_
          rintro e W5 ⟨rfl, gr5, kg5⟩
          have BX5 : Hid (Bx W5 wr.heap.size true s t n) := Lib.hid ((BX2.out.alloc _).far gr5 (by omega))
          have KW5 : Hid (Clk 23 W5 w2.heap.size a c) := Lib.hid (Clk.far (heap_alloc_new w2 _) gr5 (by omega))
          have KT5 : Hid (Clk 23 W5 tb a c) := Lib.hid ((KT2.out.alloc _).far gr5 (by omega))
          have KG5 := Lib.hid kg5
          have HB5 : Hid (Below w.heap.size w W5) := Lib.hid ((HB2.out.alloc hs2 _).trans (below_of_grown gr5 (by simp; omega) (by omega)))
          have z5 : w2.heap.size + 1 ≤ W5.heap.size := by simpa using gr5.size
          clear gr5 kg5 x0 x1 x2 x3
          have HS5 : Hid (∀ w' : World, Below W5.heap.size W5 w' → w'.cell? ⟨w2.heap.size, 0, none⟩ = some (.int .i64 a) ∧ w'.cell? ⟨w2.heap.size, 1, none⟩ = some (.int .i64 c)) := Lib.hid (fun w' hb => ⟨(KW5.out.below hb).cell0, (KW5.out.below hb).cell1⟩)
          go_wp2
          go_region_held3 (fun w' => w'.cell? ⟨w2.heap.size, 0, none⟩ = some (.int .i64 a) ∧ w'.cell? ⟨w2.heap.size, 1, none⟩ = some (.int .i64 c)) (exact HS5.out _ (by first | assumption | exact (Below.refl _ _).drew | exact Below.refl _ _))
            (first
            | (go_at_call 18; refine (last_c 57 g a c _ (by exact KG5.out.below (by first | assumption | exact (Below.refl _ _).drew))).mono ?_; rintro e w6 ⟨rfl, b6⟩; have b6' : Below W5.heap.size W5 w6 := Below.next (by first | assumption | exact (Below.refl _ _).drew) b6; clear b6))
          go_wp2
          go_roundw
          case rel => exact ⟨k + 1, a, c, hp, by go_num, hm, KG5.out.below b6', KT5.out.below b6', HB5.out.trans (b6'.mono HB5.out.size)⟩
          case measure => simp [intOf]; omega
    · go_wp2_with fail
      refine (awake_c _).mono ?_
      rintro e w4 ⟨rfl, b4⟩
      go_wp2
      go_ret
      exact ⟨rfl, hbw.trans (b4.mono hsw)⟩

end Go.Proofs.Ytmhonaelkcllhaa
