/-
  Max, of the program and of chapter 2's own answer, by contract: both are 'mxL'.
-/
import Derived.Test.YtmhonaelkcllhaaStmAwake
import Derived.IntWalk
namespace Go.Proofs.Ytmhonaelkcllhaa
open Go.RowKit Go.Lib

theorem Below.next {W0 w w' : World} (h : Below W0.heap.size W0 w) (hb : Below w.heap.size w w') : Below W0.heap.size W0 w' := h.trans (hb.mono h.size)

def mxF (g : Int × Int) : List (Int × Int) → Int × Int
  | [] => g
  | p :: t => mxF (if lessB g.1 g.2 p.1 p.2 then p else g) t
def mxL : List (Int × Int) → Int × Int
  | [] => (0, 0)
  | p :: t => mxF p t

def maxT (l : List (Int × Int)) (w : World) (e : Ending) (w' : World) : Prop :=
  e = .returned (.agg #[.int .i64 (mxL l).1, .int .i64 (mxL l).2]) ∧ Below w.heap.size w w'

/-- The slice v holds the stamps l. -/
def Sl (w : World) (v : Value) (l : List (Int × Int)) : Prop :=
  ∃ ad cap, v = .slice ad l.length cap ∧ l.length ≤ cap ∧ (0 < l.length → ∃ b o, ad = some ⟨b, o, none⟩ ∧ Sts w b o l)
theorem Sl.below {w w' : World} {v : Value} {l : List (Int × Int)} (h : Sl w v l) (hb : Below w.heap.size w w') : Sl w' v l := by
  obtain ⟨ad, cap, h1, h2, h3⟩ := h
  exact ⟨ad, cap, h1, h2, fun h0 => by obtain ⟨b, o, e, hs⟩ := h3 h0; exact ⟨b, o, e, hs.below hb⟩⟩

theorem max_none (ad : Option Addr) (cap : Nat) (w : World) : Calls Try.prog 15 #[.slice ad 0 cap] w (maxT [] w) := by
  go_enter Try.func15, Try.ntmps15
  go_wp2
  exact bodyPost_ret (v := .agg #[.int .i64 0, .int .i64 0]) (by simp [results, Try.results15, go_sem]) rfl ⟨rfl, (Below.refl _ _).alloc (Nat.le_refl _) _⟩

theorem Sts.tail {w : World} {b o : Nat} {p : Int × Int} {t : List (Int × Int)} (h : Sts w b o (p :: t)) : Sts w b (o + 2) t := by
  intro k hk
  have h1 := h (k + 1) (by simpa using hk)
  rw [show o + (k + 1) * 2 = o + 2 + k * 2 from by omega] at h1
  exact h1

set_option maxHeartbeats 4000000 in
theorem max_some (p : Int × Int) (t : List (Int × Int)) (b o cap : Nat) (w : World) (hn : t.length ≤ 1000) (_ : t.length + 1 ≤ cap) (hcap : ¬ cap = 1) (hS : Sts w b o (p :: t)) :
    Calls Try.prog 15 #[.slice (some ⟨b, o, none⟩) ((t.length + 1 : Nat)) cap] w (maxT (p :: t) w) := by
  have h0 := hS 0 (by simp)
  obtain ⟨c0, c1⟩ := h0
  simp only [Nat.zero_mul, Nat.add_zero, List.getElem_cons_zero] at c0 c1
  have hb0 : b < w.heap.size := World.block_lt_of_cell? w _ c0
  have HS := Lib.hid hS.tail
  clear hS
  obtain ⟨A, C⟩ := p
  simp only at c0 c1
  have hz8 : ((t.length : Int) + 1 == 0) = false := by simp; omega
  go_enter Try.func15, Try.ntmps15
  go_wp2
  go_loopw [16] (fun v16 wr => ∃ (k : Nat) (g1 g2 : Int), k ≤ t.length ∧ v16 = .int .i64 (k : Int) ∧ Hid (mxF (g1, g2) (t.drop k) = mxF (A, C) t) ∧ Clk 23 wr w.heap.size 0 0 ∧ Clk 23 wr (w.heap.size + 1) g1 g2 ∧ Below w.heap.size w wr) (fun v16 _ => t.length - (intOf v16).toNat)
  case atStart =>
    refine ⟨0, A, C, by omega, rfl, Lib.hid (by rw [List.drop_zero]), ?_, ?_, below_two _ _ _⟩
    · exact Clk.alloc (heap_alloc_new w _) _
    · have h := heap_alloc_new (w.alloc (.cells #[.int .i64 0, .int .i64 0] 23)) (.cells #[.int .i64 A, .int .i64 C] 23)
      simpa [Clk] using h
  case round =>
    obtain ⟨k, g1, g2, hk, rfl, hx, kr, kg, hbw⟩ := hrel
    have hlr := kr.lt
    have hlg := kg.lt
    have r0 := kr.cell0
    have r1 := kr.cell1
    have rs0 := kr.soft 0
    have rs1 := kr.soft 1
    have q0 := kg.cell0
    have q1 := kg.cell1
    have qs0 := kg.soft 0
    have qs1 := kg.soft 1
    have KR := Lib.hid kr
    have KG := Lib.hid kg
    have hsw := hbw.size
    clear kr kg
    by_cases hp : k < t.length
    · obtain ⟨d0, d1⟩ := HS.out.below hbw k hp
      have hdr : t.drop k = t[k] :: t.drop (k + 1) := List.drop_eq_getElem_cons hp
      rw [hdr] at hx
      clear hdr
      generalize t[k] = u at d0 d1 hx
      obtain ⟨U, V⟩ := u
      simp only at d0 d1
      have hlt0 : b < wr.heap.size := World.block_lt_of_cell? wr _ d0
      go_wp2_with fail
      have cL := less_c g1 g2 U V (wr.alloc (.cells #[.int .i64 U, .int .i64 V] 23))
      have hx' := hx.out
      rw [mxF] at hx'
      simp only at hx'
      cases hl : lessB g1 g2 U V
      · rw [hl] at cL hx'
        have HX := Lib.hid hx'
        clear hx hx' hl
        refine cL.mono ?_
        rintro e w2 ⟨rfl, b2⟩
        have kg2 : Clk 23 w2 (w.heap.size + 1) g1 g2 := (KG.out.alloc _).below b2
        have kr2 : Clk 23 w2 w.heap.size 0 0 := (KR.out.alloc _).below b2
        have hb2 : Below w.heap.size w w2 := (hbw.alloc hsw _).trans (b2.mono (by simp; omega))
        go_wp2
        go_roundw
        case rel => exact ⟨k + 1, g1, g2, hp, by go_num, by simpa using HX, kr2, kg2, hb2⟩
        case measure => simp [intOf]; omega
      · rw [hl] at cL hx'
        have HX := Lib.hid hx'
        clear hx hx' hl
        refine cL.mono ?_
        rintro e w2 ⟨rfl, b2⟩
        have kg2 : Clk 23 w2 (w.heap.size + 1) g1 g2 := (KG.out.alloc _).below b2
        have kr2 : Clk 23 w2 w.heap.size 0 0 := (KR.out.alloc _).below b2
        have hb2 : Below w.heap.size w w2 := (hbw.alloc hsw _).trans (b2.mono (by simp; omega))
        have y0 : w2.cell? ⟨wr.heap.size, 0, none⟩ = some (.int .i64 U) := (b2.cell (by simp)).trans (by simp [go_sem])
        have y1 : w2.cell? ⟨wr.heap.size, 1, none⟩ = some (.int .i64 V) := (b2.cell (by simp)).trans (by simp [go_sem])
        have z0 := kg2.cell0
        have z1 := kg2.cell1
        have zs0 := kg2.soft 0
        have zs1 := kg2.soft 1
        go_wp2
        go_roundw
        case rel => exact ⟨k + 1, U, V, hp, by go_num, by simpa using HX, (kr2.setFar (by show w.heap.size ≠ w.heap.size + 1; omega) _).setFar (by show w.heap.size ≠ w.heap.size + 1; omega) _, kg2.set U V, (hb2.setCell (by show w.heap.size ≤ w.heap.size + 1; omega) _).setCell (by show w.heap.size ≤ w.heap.size + 1; omega) _⟩
        case measure => simp [intOf]; omega
    · have hkk : k = t.length := by omega
      subst hkk
      have hx' := hx.out
      rw [List.drop_length, mxF] at hx'
      have HX := Lib.hid hx'
      clear hx hx'
      go_wp2
      refine bodyPost_ret (v := .agg #[.int .i64 g1, .int .i64 g2]) (by simp [results, Try.results15, go_sem, r0, r1]) rfl ⟨?_, (hbw.setCell (by exact Nat.le_refl _) _).setCell (by exact Nat.le_refl _) _⟩
      rw [mxL, ← HX.out]

set_option maxHeartbeats 4000000 in
theorem max_one (p : Int × Int) (b o : Nat) (w : World) (hS : Sts w b o [p]) :
    Calls Try.prog 15 #[.slice (some ⟨b, o, none⟩) 1 1] w (maxT [p] w) := by
  have h0 := hS 0 (by simp)
  obtain ⟨c0, c1⟩ := h0
  simp only [Nat.zero_mul, Nat.add_zero, List.getElem_cons_zero] at c0 c1
  have hb0 : b < w.heap.size := World.block_lt_of_cell? w _ c0
  clear hS
  obtain ⟨A, C⟩ := p
  simp only at c0 c1
  go_enter Try.func15, Try.ntmps15
  go_wp2
  go_loopw [16] (fun v16 wr => v16 = .int .i64 0 ∧ wr = (w.alloc (.cells #[.int .i64 0, .int .i64 0] 23)).alloc (.cells #[.int .i64 A, .int .i64 C] 23)) (fun _ _ => 0)
  case atStart => exact ⟨rfl, rfl⟩
  case round =>
    obtain ⟨rfl, rfl⟩ := hrel
    go_wp2
    refine bodyPost_ret (v := .agg #[.int .i64 A, .int .i64 C]) (by simp [results, Try.results15, go_sem]) rfl ⟨rfl, ?_⟩
    exact below_two _ _ _

theorem max_c (l : List (Int × Int)) (v : Value) (w : World) (hn : l.length ≤ 1000) (h : Sl w v l) : Calls Try.prog 15 #[v] w (maxT l w) := by
  obtain ⟨ad, cap, rfl, hc, h1⟩ := h
  cases l with
  | nil => exact max_none ad cap w
  | cons p t =>
    obtain ⟨b, o, rfl, hS⟩ := h1 (by simp)
    simp only [List.length_cons] at hc hn
    by_cases h2 : cap = 1
    · subst h2
      cases t with
      | nil => exact max_one p b o w hS
      | cons q t => simp at hc
    · exact max_some p t b o cap w (by omega) hc h2 hS

set_option maxHeartbeats 4000000 in
theorem refmax_none (ad : Option Addr) (cap : Nat) (w : World) : Calls Try.prog 16 #[.slice ad 0 cap] w (maxT [] w) := by
  go_enter Try.func16, Try.ntmps16
  go_wp2
  go_loopw [4] (fun v4 wr => v4 = .int .i64 0 ∧ wr = (w.alloc (.cells #[.int .i64 0, .int .i64 0] 23)).alloc (.cells #[.int .i64 0, .int .i64 0] 23)) (fun _ _ => 0)
  case atStart => exact ⟨rfl, rfl⟩
  case round =>
    obtain ⟨rfl, rfl⟩ := hrel
    go_wp2
    exact bodyPost_ret (v := .agg #[.int .i64 0, .int .i64 0]) (by simp [results, Try.results16, go_sem]) rfl ⟨rfl, below_two _ _ _⟩

set_option maxHeartbeats 4000000 in
theorem refmax_some (p : Int × Int) (t : List (Int × Int)) (b o cap : Nat) (w : World) (hn : t.length ≤ 1000) (hS : Sts w b o (p :: t)) :
    Calls Try.prog 16 #[.slice (some ⟨b, o, none⟩) ((t.length + 1 : Nat)) cap] w (maxT (p :: t) w) := by
  have HS := Lib.hid hS
  have hb0 : b < w.heap.size := World.block_lt_of_cell? w _ (hS 0 (by simp)).1
  clear hS
  obtain ⟨L, hL⟩ : ∃ L, L = p :: t := ⟨_, rfl⟩
  have hl : L.length = t.length + 1 := by rw [hL]; rfl
  have HL := Lib.hid hL
  rw [← hL] at HS ⊢
  rw [← hl]
  have hn' : L.length ≤ 1001 := by omega
  have hp0 : 0 < L.length := by omega
  clear hL hl hn
  go_enter Try.func16, Try.ntmps16
  go_wp2
  go_loopw [4] (fun v4 wr => ∃ (k : Nat) (g1 g2 : Int), k ≤ L.length ∧ v4 = .int .i64 (k : Int) ∧ Hid (0 < k → mxF (g1, g2) (L.drop k) = mxL L) ∧ Clk 23 wr w.heap.size 0 0 ∧ Clk 23 wr (w.heap.size + 1) g1 g2 ∧ Below w.heap.size w wr) (fun v4 _ => L.length - (intOf v4).toNat)
  case atStart =>
    refine ⟨0, 0, 0, by omega, rfl, Lib.hid (by omega), ?_, ?_, below_two _ _ _⟩
    · exact Clk.alloc (heap_alloc_new w _) _
    · have h := heap_alloc_new (w.alloc (.cells #[.int .i64 0, .int .i64 0] 23)) (.cells #[.int .i64 0, .int .i64 0] 23)
      simpa [Clk] using h
  case round =>
    obtain ⟨k, g1, g2, hk, rfl, hx, kr, kg, hbw⟩ := hrel
    have hlr := kr.lt
    have hlg := kg.lt
    have r0 := kr.cell0
    have r1 := kr.cell1
    have rs0 := kr.soft 0
    have rs1 := kr.soft 1
    have q0 := kg.cell0
    have q1 := kg.cell1
    have qs0 := kg.soft 0
    have qs1 := kg.soft 1
    have KR := Lib.hid kr
    have KG := Lib.hid kg
    have hsw := hbw.size
    clear kr kg
    by_cases hp : k < L.length
    · obtain ⟨d0, d1⟩ := HS.out.below hbw k hp
      have hdr : L.drop k = L[k] :: L.drop (k + 1) := List.drop_eq_getElem_cons hp
      by_cases hk0 : k = 0
      · subst hk0
        have hx' : Hid (mxF L[0] (L.drop 1) = mxL L) := Lib.hid (by
          have e := HL.out
          subst e
          rfl)
        generalize L[0] = u at d0 d1 hx'
        obtain ⟨U, V⟩ := u
        simp only [Nat.zero_mul, Nat.add_zero] at d0 d1
        clear hx hdr
        have hlt0 : b < wr.heap.size := World.block_lt_of_cell? wr _ d0
        go_wp2
        go_quiet (fail)
        go_wp2
        go_roundw
        case rel => exact ⟨1, U, V, hp, by go_num, Lib.hid (fun _ => hx'.out), Clk.setFar (Clk.setFar (by exact KR.out) (by show w.heap.size ≠ w.heap.size + 1; omega) _) (by show w.heap.size ≠ w.heap.size + 1; omega) _, Clk.set (by exact KG.out) U V, ((below_drewN hbw nq).setCell (by show w.heap.size ≤ w.heap.size + 1; omega) _).setCell (by show w.heap.size ≤ w.heap.size + 1; omega) _⟩
        case measure => simp [intOf]; omega
      · have hx' := hx.out (by omega)
        rw [hdr] at hx'
        clear hx hdr
        generalize L[k] = u at d0 d1 hx'
        obtain ⟨U, V⟩ := u
        simp only at d0 d1
        rw [mxF] at hx'
        simp only at hx'
        have hlt0 : b < wr.heap.size := World.block_lt_of_cell? wr _ d0
        have e0 : ((k : Int) == 0) = false := by simpa using hk0
        have HS2 : Hid (∀ w' : World, Below wr.heap.size wr w' → w'.cell? ⟨w.heap.size + 1, 0, none⟩ = some (.int .i64 g1) ∧ w'.cell? ⟨w.heap.size + 1, 1, none⟩ = some (.int .i64 g2) ∧ w'.cell? ⟨b, o + k * 2, none⟩ = some (.int .i64 U) ∧ w'.cell? ⟨b, o + k * 2 + 1, none⟩ = some (.int .i64 V)) := Lib.hid (fun w' h => by
          have kk : ∀ {a : Addr} {v : Value}, wr.cell? a = some v → w'.cell? a = some v := fun {a v} hc => (h.cell (World.block_lt_of_cell? wr a hc)).trans hc
          exact ⟨kk q0, kk q1, kk d0, kk d1⟩)
        have cL := fun W => refless_c g1 g2 U V W
        cases hl : lessB g1 g2 U V
        · simp only [hl] at cL
          rw [hl] at hx'
          have HC := Lib.hid cL
          have HX := Lib.hid hx'
          clear cL hx' hl
          go_wp2
          go_region_held3 (fun w' => w'.cell? ⟨w.heap.size + 1, 0, none⟩ = some (.int .i64 g1) ∧ w'.cell? ⟨w.heap.size + 1, 1, none⟩ = some (.int .i64 g2) ∧ w'.cell? ⟨b, o + k * 2, none⟩ = some (.int .i64 U) ∧ w'.cell? ⟨b, o + k * 2 + 1, none⟩ = some (.int .i64 V)) (exact HS2.out _ (by first | assumption | exact (Below.refl _ _).drew | exact Below.refl _ _))
            ((go_at_call 14; refine (HC.out _).mono ?_; rintro e w2 ⟨rfl, b2⟩; have b2' : Below wr.heap.size wr w2 := Below.next (by exact (Below.refl _ _).drew) b2))
          go_wp2
          go_roundw
          case rel => exact ⟨k + 1, g1, g2, hp, by go_num, Lib.hid (fun _ => by simpa using HX.out), KR.out.below b2', KG.out.below b2', hbw.trans (b2'.mono hsw)⟩
          case measure => simp [intOf]; omega
        · simp only [hl] at cL
          rw [hl] at hx'
          have HC := Lib.hid cL
          have HX := Lib.hid hx'
          clear cL hx' hl
          go_wp2
          go_region_held3 (fun w' => w'.cell? ⟨w.heap.size + 1, 0, none⟩ = some (.int .i64 g1) ∧ w'.cell? ⟨w.heap.size + 1, 1, none⟩ = some (.int .i64 g2) ∧ w'.cell? ⟨b, o + k * 2, none⟩ = some (.int .i64 U) ∧ w'.cell? ⟨b, o + k * 2 + 1, none⟩ = some (.int .i64 V)) (exact HS2.out _ (by first | assumption | exact (Below.refl _ _).drew | exact Below.refl _ _))
            ((go_at_call 14; refine (HC.out _).mono ?_; rintro e w2 ⟨rfl, b2⟩; have b2' : Below wr.heap.size wr w2 := Below.next (by exact (Below.refl _ _).drew) b2))
          have kg2 : Clk 23 w2 (w.heap.size + 1) g1 g2 := KG.out.below b2'
          have zs0 := kg2.soft 0
          have zs1 := kg2.soft 1
          obtain ⟨z0, z1, z2, z3⟩ := HS2.out w2 b2'
          go_wp2
          go_roundw
          case rel => exact ⟨k + 1, U, V, hp, by go_num, Lib.hid (fun _ => by simpa using HX.out), ((KR.out.below b2').setFar (by show w.heap.size ≠ w.heap.size + 1; omega) _).setFar (by show w.heap.size ≠ w.heap.size + 1; omega) _, kg2.set U V, ((hbw.trans (b2'.mono hsw)).setCell (by show w.heap.size ≤ w.heap.size + 1; omega) _).setCell (by show w.heap.size ≤ w.heap.size + 1; omega) _⟩
          case measure => simp [intOf]; omega
    · have hkk : k = L.length := by omega
      subst hkk
      have hx' := hx.out hp0
      rw [List.drop_length, mxF] at hx'
      have HX := Lib.hid hx'
      clear hx hx'
      go_wp2
      refine bodyPost_ret (v := .agg #[.int .i64 g1, .int .i64 g2]) (by simp [results, Try.results16, go_sem, r0, r1]) rfl ⟨?_, (hbw.setCell (by exact Nat.le_refl _) _).setCell (by exact Nat.le_refl _) _⟩
      rw [← HX.out]

theorem refmax_c (l : List (Int × Int)) (v : Value) (w : World) (hn : l.length ≤ 1000) (h : Sl w v l) : Calls Try.prog 16 #[v] w (maxT l w) := by
  obtain ⟨ad, cap, rfl, hc, h1⟩ := h
  cases l with
  | nil => exact refmax_none ad cap w
  | cons p t =>
    obtain ⟨b, o, rfl, hS⟩ := h1 (by simp)
    simp only [List.length_cons] at hn
    exact refmax_some p t b o cap w (by omega) hS

end Go.Proofs.Ytmhonaelkcllhaa
