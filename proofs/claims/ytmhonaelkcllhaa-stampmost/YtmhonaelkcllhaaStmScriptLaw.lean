/-
  StampScript, as a call: it answers true, whatever it is given.
-/
import Derived.Test.YtmhonaelkcllhaaStmMax
import Derived.Deep.DeepCutAuto
namespace Go.Proofs.Ytmhonaelkcllhaa
open Go.RowKit Go.Lib

/-- An act: does it see, what, at which wall. -/
structure Ac where
  see : Bool
  (s t n : Int)
/-- From offset o of block b on the acts l lie. -/
def Acs (w : World) (b o : Nat) (l : List Ac) : Prop :=
  ∀ k (hk : k < l.length), w.cell? ⟨b, o + k * 4, none⟩ = some (.bool l[k].see) ∧ w.cell? ⟨b, o + k * 4 + 1, none⟩ = some (.int .i64 l[k].s) ∧ w.cell? ⟨b, o + k * 4 + 2, none⟩ = some (.int .i64 l[k].t) ∧ w.cell? ⟨b, o + k * 4 + 3, none⟩ = some (.int .i64 l[k].n)
theorem Acs.below {w w' : World} {b o : Nat} {l : List Ac} (h : Acs w b o l) (hb : Below w.heap.size w w') : Acs w' b o l := by
  have k : ∀ {a : Addr} {v : Value}, w.cell? a = some v → w'.cell? a = some v := fun {a v} hc => (hb.cell (World.block_lt_of_cell? w a hc)).trans hc
  exact fun j hj => ⟨k (h j hj).1, k (h j hj).2.1, k (h j hj).2.2.1, k (h j hj).2.2.2⟩
/-- The slice v holds the acts l. -/
def Al (w : World) (v : Value) (l : List Ac) : Prop :=
  ∃ ad cap, v = .slice ad l.length cap ∧ (0 < l.length → ∃ b o, ad = some ⟨b, o, none⟩ ∧ Acs w b o l)

/-- Block b holds just an act. -/
def Bx (w : World) (b : Nat) (sb : Bool) (s t n : Int) : Prop := w.heap[b]? = some (.cells #[.bool sb, .int .i64 s, .int .i64 t, .int .i64 n] 39 (0, 0))
theorem Bx.lt {w : World} {b : Nat} {sb : Bool} {s t n : Int} (h : Bx w b sb s t n) : b < w.heap.size := (Array.getElem?_eq_some_iff.1 h).1
theorem Bx.cells {w : World} {b : Nat} {sb : Bool} {s t n : Int} (h : Bx w b sb s t n) : w.cell? ⟨b, 1, none⟩ = some (.int .i64 s) ∧ w.cell? ⟨b, 2, none⟩ = some (.int .i64 t) ∧ w.cell? ⟨b, 3, none⟩ = some (.int .i64 n) := by
  refine ⟨?_, ?_, ?_⟩ <;> (rw [cell_of_row w b _ _ _ _ h]; rfl)
theorem Bx.far {w w' : World} {b g : Nat} {sb : Bool} {s t n : Int} (h : Bx w b sb s t n) (hg : w.grownBy w' (some g)) (hne : b ≠ g) : Bx w' b sb s t n := (hg.block b h.lt (by simpa using hne)).trans h
theorem Bx.below {w w' : World} {b : Nat} {sb : Bool} {s t n : Int} (h : Bx w b sb s t n) (hb : Below w.heap.size w w') : Bx w' b sb s t n := (hb.block b h.lt).trans h
theorem Bx.alloc {w : World} {b : Nat} {sb : Bool} {s t n : Int} (h : Bx w b sb s t n) (o : Obj) : Bx (w.alloc o) b sb s t n := (Below.heap_alloc w o b h.lt).trans h

theorem tick_bound (a c n : Int) (h : 0 ≤ c ∧ c ≤ 65535) : 0 ≤ (tick a c n).kc ∧ (tick a c n).kc ≤ 65535 := by
  unfold tick
  split
  · exact h
  · split
    · exact ⟨by simp, by simp⟩
    · split
      · exact h
      · constructor <;> simp only <;> omega
theorem see_bound (a c s t n : Int) (h : 0 ≤ c ∧ c ≤ 65535) : 0 ≤ (see a c s t n).kc ∧ (see a c s t n).kc ≤ 65535 := by
  unfold see
  split
  · exact h
  · rename_i hm
    have hm' : (mayB s t && inB n 1099511627776) = true := by simpa using hm
    simp only [Bool.and_eq_true] at hm'
    have ht := (mayB_iff hm'.1).2
    split
    · exact h
    · split
      · exact h
      · rename_i h2
        refine ⟨?_, by simp only; omega⟩
        simp only [cnt_two _ _ _ _ _ ht.1]
        repeat' split
        all_goals omega

set_option maxHeartbeats 1000000 in
theorem script_many (a c : Int) (ad : Option Addr) (n cap : Nat) (w : World) (hn : 60 < n) :
    Calls Try.prog 4 #[.agg #[.int .i64 a, .int .i64 c], .slice ad n cap] w fun e w' => e = .returned (.bool true) ∧ Below w.heap.size w w' := by
  have hz2 : (60 : Int) < (n : Int) := by omega
  have hz : decide ((60 : Int) < (n : Int)) = true := by simpa using hz2
  have hz3 : decide (60 < n) = true := by simpa using hn
  go_enter Try.func4, Try.ntmps4
  go_wp2_with fail
  refine (awake_c _).mono ?_
  rintro e w4 ⟨rfl, b4⟩
  go_wp2
  go_ret
  exact ⟨rfl, ((Below.refl _ _).alloc (Nat.le_refl _) _).trans (b4.mono (by simp))⟩

set_option maxHeartbeats 1000000 in
theorem script_no (a c : Int) (ad : Option Addr) (n cap : Nat) (w : World) (hn : n ≤ 60) (hm : mayB a c = false) :
    Calls Try.prog 4 #[.agg #[.int .i64 a, .int .i64 c], .slice ad n cap] w fun e w' => e = .returned (.bool true) ∧ Below w.heap.size w w' := by
  have hz3 : decide (60 < n) = false := by simpa using hn
  have cM := fun W => refmay_c a c W
  rw [hm] at cM
  have HM := Lib.hid cM
  clear cM hm
  go_enter Try.func4, Try.ntmps4
  go_wp2_with fail
  refine (HM.out _).mono ?_
  rintro e w3 ⟨rfl, b3⟩
  go_wp2_with fail
  refine (awake_c _).mono ?_
  rintro e w4 ⟨rfl, b4⟩
  go_wp2
  go_ret
  exact ⟨rfl, (((Below.refl _ _).alloc (Nat.le_refl _) _).trans (b3.mono (by simp))).trans (b4.mono (by have := b3.size; simp at this; omega))⟩

set_option maxHeartbeats 8000000 in
set_option maxRecDepth 100000 in
theorem script_yes (la lc : Int) (l : List Ac) (v : Value) (w : World) (hn : l.length ≤ 60) (hm : mayB la lc = true) (hA : Al w v l) :
    Calls Try.prog 4 #[.agg #[.int .i64 la, .int .i64 lc], v] w fun e w' => e = .returned (.bool true) ∧ Below w.heap.size w w' := by
  obtain ⟨ad, cap, rfl, hA⟩ := hA
  have HA := Lib.hid hA
  have hcc := (mayB_iff hm).2
  have hz3 : decide (60 < l.length) = false := by simpa using hn
  have cM := fun W => refmay_c la lc W
  rw [hm] at cM
  have HM := Lib.hid cM
  have HN := Lib.hid (fun W => new_c la lc W hm)
  clear cM hm hA
  go_enter Try.func4, Try.ntmps4
  go_wp2_with fail
  refine (HM.out _).mono ?_
  rintro e w1 ⟨rfl, b1⟩
  have hz1 : w.heap.size + 1 ≤ w1.heap.size := by simpa using b1.size
  have d0 : w1.cell? ⟨w.heap.size, 0, none⟩ = some (.int .i64 la) := (b1.cell (by simp)).trans (by simp [go_sem])
  have d1 : w1.cell? ⟨w.heap.size, 1, none⟩ = some (.int .i64 lc) := (b1.cell (by simp)).trans (by simp [go_sem])
  have HB1 : Hid (Below w.heap.size w w1) := Lib.hid (((Below.refl _ _).alloc (Nat.le_refl _) _).trans (b1.mono (by simp)))
  have HS1 : Hid (∀ w' : World, Below w1.heap.size w1 w' → w'.cell? ⟨w.heap.size, 0, none⟩ = some (.int .i64 la) ∧ w'.cell? ⟨w.heap.size, 1, none⟩ = some (.int .i64 lc)) := Lib.hid (fun w' h => ⟨(h.cell (by show w.heap.size < _; omega)).trans d0, (h.cell (by show w.heap.size < _; omega)).trans d1⟩)
  clear b1 d0 d1
  go_upto_region 3 with fail
  go_cut [5, 6] (fun v5 v6 wc => ∃ g h : Nat, v5 = .pointer (some ⟨g, 0, none⟩) ∧ v6 = .pointer (some ⟨h, 0, none⟩) ∧ g ≠ h ∧ w1.heap.size ≤ g ∧ w1.heap.size ≤ h ∧ Clk 57 wc g la lc ∧ Clk 36 wc h la lc ∧ Below w1.heap.size w1 wc)
  case first =>
    go_region_held3 (fun w' => w'.cell? ⟨w.heap.size, 0, none⟩ = some (.int .i64 la) ∧ w'.cell? ⟨w.heap.size, 1, none⟩ = some (.int .i64 lc)) (exact HS1.out _ (by first | assumption | exact (Below.refl _ _).drew | exact b2.alloc b2.size _ | exact (Below.refl _ _).drew.alloc (Nat.le_refl _) _))
      ((go_at_call 17; refine (HN.out _).mono ?_; rintro e w2 ⟨g2, rfl, hg2, hk2, c2⟩; have b2 : Below w1.heap.size w1 w2 := Below.next (by first | exact (Below.refl _ _).drew | exact (Below.refl _ _).drew.alloc (Nat.le_refl _) _) c2))
    · go_wp2_with fail
      go_meet
      have hl := hk2.lt
      exact ⟨g2, w2.heap.size, rfl, rfl, by omega, hg2, b2.size, hk2.alloc _, heap_alloc_new _ _, b2.alloc b2.size _⟩
    · go_wp2_with fail
      go_meet
      have hg3 : w1.heap.size + 1 ≤ g2 := by simpa using hg2
      refine ⟨g2, w1.heap.size, rfl, rfl, by omega, by omega, Nat.le_refl _, hk2, ?_, b2⟩
      exact Clk.below (w := w1.drew.alloc (.cells #[.int .i64 la, .int .i64 lc] 36)) (heap_alloc_new w1.drew _) c2
  case rest =>
    obtain ⟨g, h, rfl, rfl, hne, hg, hh, kg, kh, bc⟩ := hcut
    have KG := Lib.hid kg
    have KH := Lib.hid kh
    have HBC := Lib.hid (HB1.out.trans (bc.mono HB1.out.size))
    have hzc := bc.size
    obtain ⟨d0, d1⟩ := HS1.out _ bc
    have HS2 : Hid (∀ w' : World, Below wc.heap.size wc w' → w'.cell? ⟨w.heap.size, 0, none⟩ = some (.int .i64 la) ∧ w'.cell? ⟨w.heap.size, 1, none⟩ = some (.int .i64 lc)) := Lib.hid (fun w' h => HS1.out _ (Below.next bc h))
    clear kg kh bc d0 d1
    go_wp2
    go_region_held3 (fun w' => w'.cell? ⟨w.heap.size, 0, none⟩ = some (.int .i64 la) ∧ w'.cell? ⟨w.heap.size, 1, none⟩ = some (.int .i64 lc)) (exact HS2.out _ (by first | assumption | exact (Below.refl _ _).drew | exact Below.refl _ _))
      ((go_at_call 18; refine (last_c 57 g la lc _ (by exact KG.out)).mono ?_; rintro e w2 ⟨rfl, c2⟩; have b2 : Below wc.heap.size wc w2 := Below.next (by exact (Below.refl _ _).drew) c2))
    have KG2 := Lib.hid (KG.out.below b2)
    have KH2 := Lib.hid (KH.out.below b2)
    have HB2 := Lib.hid (HBC.out.trans (b2.mono HBC.out.size))
    clear KG KH HBC b2 c2 HS2 HS1 HB1
    go_wp2
    go_loopw [7] (fun v7 wr => ∃ (k : Nat) (a c : Int), k ≤ l.length ∧ v7 = .int .i64 (k : Int) ∧ (0 ≤ c ∧ c ≤ 65535) ∧ Clk 57 wr g a c ∧ Clk 36 wr h a c ∧ Below w.heap.size w wr) (fun v7 _ => l.length - (intOf v7).toNat)
    case atStart => exact ⟨0, la, lc, by omega, rfl, hcc, KG2.out, KH2.out, HB2.out⟩
    case round =>
      obtain ⟨k, a, c, hk, rfl, hc, kg, kh, hbw⟩ := hrel
      have hlg := kg.lt
      have hlh := kh.lt
      have hsw := hbw.size
      have KG := Lib.hid kg
      have KH := Lib.hid kh
      clear kg kh
      by_cases hp : k < l.length
      · obtain ⟨b, o, rfl, hAc⟩ := HA.out (by omega)
        have hbw0 : b < w.heap.size := World.block_lt_of_cell? w _ (hAc k hp).1
        have hAk := fun (x : Addr) (vx : Value) (hx : w.cell? x = some vx) => (hbw.cell (World.block_lt_of_cell? w x hx)).trans hx
        have c0 := hAk _ _ (hAc k hp).1
        have c1 := hAk _ _ (hAc k hp).2.1
        have c2 := hAk _ _ (hAc k hp).2.2.1
        have c3 := hAk _ _ (hAc k hp).2.2.2
        clear hAk hAc
        generalize l[k] = x at c0 c1 c2 c3
        obtain ⟨sb, s, t, n⟩ := x
        simp only at c0 c1 c2 c3
        have hbl : b < wr.heap.size := World.block_lt_of_cell? wr _ c0
        cases sb
        · skip
          have hb := tick_bound a c n hc
          have CT := Lib.hid (fun W (hW : Clk 57 W g a c) => tick_c 57 g a c n W hW hc.2 hc.1)
          have CR := Lib.hid (fun W (hW : Clk 36 W h a c) => reftick_c 36 h a c n W hW hc.2 hc.1)
          generalize tick a c n = R at hb CT CR
          obtain ⟨re, ra, rc, ka, kc⟩ := R
          simp only at hb
          go_wp2_with fail
          refine (CT.out _ (by exact KG.out.alloc _)).mono ?_
          rintro e w2 ⟨rfl, gr2, kg2⟩
          have bx2 : Bx w2 wr.heap.size false s t n := Bx.far (heap_alloc_new wr _) gr2 (by omega)
          have kh2 : Clk 36 w2 h a c := (KH.out.alloc _).far gr2 (by omega)
          have z2 : wr.heap.size + 1 ≤ w2.heap.size := by simpa using gr2.size
          obtain ⟨x1, x2, x3⟩ := bx2.cells
          have hlt2 := bx2.lt
          have HB2' : Hid (Below w.heap.size w w2) := Lib.hid ((hbw.alloc hsw _).trans (below_of_grown gr2 (by simp; omega) (by omega)))
          have KG2' := Lib.hid kg2
          have KH2' := Lib.hid kh2
          clear gr2 kg2 kh2 bx2
          go_wp2_with fail
          refine (CR.out _ (by exact KH2'.out.alloc _)).mono ?_
          rintro e w3 ⟨rfl, gr3, kh3⟩
          have hlh2 := KH2'.out.lt
          have y0 : w3.cell? ⟨w2.heap.size, 0, none⟩ = some (.int .i64 ra) := (grown_cell gr3 (by simp) (by show w2.heap.size ≠ h; omega)).trans (by simp [go_sem])
          have y1 : w3.cell? ⟨w2.heap.size, 1, none⟩ = some (.int .i64 rc) := (grown_cell gr3 (by simp) (by show w2.heap.size ≠ h; omega)).trans (by simp [go_sem])
          have kg3 : Clk 57 w3 g ka kc := (KG2'.out.alloc _).far gr3 hne
          have z3 : w2.heap.size + 1 ≤ w3.heap.size := by simpa using gr3.size
          have HB3 : Hid (Below w.heap.size w w3) := Lib.hid ((HB2'.out.alloc (by omega) _).trans (below_of_grown gr3 (by simp; omega) (by omega)))
          have KG3 := Lib.hid kg3
          have KH3 := Lib.hid kh3
          clear gr3 kg3 kh3 x1 x2 x3
          have hna : (re != re) = false := by simp
          have z3' : w2.heap.size < w3.heap.size := by omega
          go_wp2_with (go_at_call 19; refine (num_c _ _).mono ?_; rintro e w4 ⟨rfl, rfl⟩)
          obtain ⟨W4, hW4⟩ : ∃ W4, W4 = w3.alloc (.cells #[.int .i64 ra, .int .i64 rc] 23) := ⟨_, rfl⟩
          have KG4 : Hid (Clk 57 W4 g ka kc) := Lib.hid (by rw [hW4]; exact KG3.out.alloc _)
          have KH4 : Hid (Clk 36 W4 h ka kc) := Lib.hid (by rw [hW4]; exact KH3.out.alloc _)
          have HB4 : Hid (Below w.heap.size w W4) := Lib.hid (by rw [hW4]; exact HB3.out.alloc (by omega) _)
          rw [← hW4]
          clear hW4
          have HSc : Hid (∀ w' : World, Below W4.heap.size W4 w' → w'.cell? ⟨h, 0, none⟩ = some (.int .i64 ka) ∧ w'.cell? ⟨h, 1, none⟩ = some (.int .i64 kc)) := Lib.hid (fun w' hb => ⟨(KH4.out.below hb).cell0, (KH4.out.below hb).cell1⟩)
          go_region_held3 (fun w' => w'.cell? ⟨h, 0, none⟩ = some (.int .i64 ka) ∧ w'.cell? ⟨h, 1, none⟩ = some (.int .i64 kc)) (exact HSc.out _ (by first | assumption | exact (Below.refl _ _).drew | exact Below.refl _ _))
            ((go_at_call 18; refine (last_c 57 g ka kc _ (by exact KG4.out)).mono ?_; rintro e w5 ⟨rfl, c5⟩; have b5 : Below W4.heap.size W4 w5 := Below.next (by exact (Below.refl _ _).drew) c5))
          go_wp2
          go_roundw
          case rel => exact ⟨k + 1, ka, kc, hp, by go_num, hb, KG4.out.below b5, KH4.out.below b5, HB4.out.trans (b5.mono HB4.out.size)⟩
          case measure => simp [intOf]; omega
        · skip
          have hb := see_bound a c s t n hc
          have CT := Lib.hid (fun W (hW : Clk 57 W g a c) => see_c 57 g a c s t n W hW hc)
          have CR := Lib.hid (fun W (hW : Clk 36 W h a c) => refsee_c 36 h a c s t n W hW hc)
          generalize see a c s t n = R at hb CT CR
          obtain ⟨re, ra, rc, ka, kc⟩ := R
          simp only at hb
          go_wp2_with fail
          obtain ⟨W1, hW1⟩ : ∃ W1, W1 = wr.alloc (.cells #[.bool true, .int .i64 s, .int .i64 t, .int .i64 n] 39) := ⟨_, rfl⟩
          have BX1 : Hid (Bx W1 wr.heap.size true s t n) := Lib.hid (by rw [hW1]; exact heap_alloc_new wr _)
          have KG1 : Hid (Clk 57 W1 g a c) := Lib.hid (by rw [hW1]; exact KG.out.alloc _)
          have KH1 : Hid (Clk 36 W1 h a c) := Lib.hid (by rw [hW1]; exact KH.out.alloc _)
          have HB1' : Hid (Below w.heap.size w W1) := Lib.hid (by rw [hW1]; exact hbw.alloc hsw _)
          have z1 : wr.heap.size + 1 ≤ W1.heap.size := by rw [hW1]; simp
          rw [← hW1]
          clear hW1
          have hna : (re != re) = false := by simp
          go_region_held3 (fun w' => w'.cell? ⟨wr.heap.size, 1, none⟩ = some (.int .i64 s) ∧ w'.cell? ⟨wr.heap.size, 2, none⟩ = some (.int .i64 t) ∧ w'.cell? ⟨wr.heap.size, 3, none⟩ = some (.int .i64 n)) (exact Bx.cells (sb := true) (by first | assumption | exact BX1.out))
            (first
            | (go_at_call 20; refine (CT.out _ (by exact KG1.out)).mono ?_; rintro e w2 ⟨rfl, gr2, kg2⟩; have bx2 : Bx w2 wr.heap.size true s t n := Bx.far (by exact BX1.out) gr2 (by omega); have kh2 : Clk 36 w2 h a c := Clk.far (by exact KH1.out) gr2 (by omega); have z2 : W1.heap.size ≤ w2.heap.size := gr2.size; have HB2' : Hid (Below w.heap.size w w2) := Lib.hid (HB1'.out.trans (below_of_grown (grown_trans (grown_drew (grown_refl W1 _)) gr2) (by exact HB1'.out.size) (by omega))); have KG2' := Lib.hid kg2; have KH2' := Lib.hid kh2; clear gr2 kg2 kh2)
            | (go_at_call 19; refine (num_c _ _).mono ?_; rintro e w4 ⟨rfl, rfl⟩)
            | (go_at_call 21; refine (CR.out _ (by exact KH2'.out)).mono ?_; rintro e W4 ⟨rfl, gr3, kh3⟩; have bx3 : Bx W4 wr.heap.size true s t n := bx2.far gr3 (by omega); have kg3 : Clk 57 W4 g ka kc := KG2'.out.far gr3 hne; have HB4 : Hid (Below w.heap.size w W4) := Lib.hid (HB2'.out.trans (below_of_grown gr3 HB2'.out.size (by omega))); have KG4 := Lib.hid kg3; have KH4 := Lib.hid kh3; clear gr3 kg3 kh3))
          go_wp2
          have HSc : Hid (∀ w' : World, Below W4.heap.size W4 w' → w'.cell? ⟨h, 0, none⟩ = some (.int .i64 ka) ∧ w'.cell? ⟨h, 1, none⟩ = some (.int .i64 kc)) := Lib.hid (fun w' hb => ⟨(KH4.out.below hb).cell0, (KH4.out.below hb).cell1⟩)
          go_region_held3 (fun w' => w'.cell? ⟨h, 0, none⟩ = some (.int .i64 ka) ∧ w'.cell? ⟨h, 1, none⟩ = some (.int .i64 kc)) (exact HSc.out _ (by first | assumption | exact (Below.refl _ _).drew | exact Below.refl _ _))
            ((go_at_call 18; refine (last_c 57 g ka kc _ (by exact KG4.out)).mono ?_; rintro e w5 ⟨rfl, c5⟩; have b5 : Below W4.heap.size W4 w5 := Below.next (by exact (Below.refl _ _).drew) c5))
          go_wp2
          go_roundw
          case rel => exact ⟨k + 1, ka, kc, hp, by go_num, hb, KG4.out.below b5, KH4.out.below b5, HB4.out.trans (b5.mono HB4.out.size)⟩
          case measure => simp [intOf]; omega
      · go_wp2_with fail
        refine (awake_c _).mono ?_
        rintro e w4 ⟨rfl, b4⟩
        go_wp2
        go_ret
        exact ⟨rfl, hbw.trans (b4.mono hsw)⟩

end Go.Proofs.Ytmhonaelkcllhaa
