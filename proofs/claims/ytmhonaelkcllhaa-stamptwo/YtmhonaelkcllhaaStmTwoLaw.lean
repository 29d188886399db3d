/-
  StampTwo, as a call: it answers true, whatever it is given.
-/
import Derived.Test.YtmhonaelkcllhaaStmRisesLaw
import Derived.Test.YtmhonaelkcllhaaStmLow
namespace Go.Proofs.Ytmhonaelkcllhaa
open Go.RowKit Go.Lib

/-- From offset o of block b on the numbers l lie. -/
def Nums (w : World) (b o : Nat) (l : List Int) : Prop := ∀ k (hk : k < l.length), w.cell? ⟨b, o + k, none⟩ = some (.int .i64 l[k])
/-- The slice v holds the numbers l. -/
def Nl (w : World) (v : Value) (l : List Int) : Prop :=
  ∃ ad cap, v = .slice ad l.length cap ∧ (0 < l.length → ∃ b o, ad = some ⟨b, o, none⟩ ∧ Nums w b o l)

/-- A turn: what is ticked is above what was ticked last; what is seen of it goes above it. -/
theorem two_turn (a c b d x y p q m : Int) (ha : 0 ≤ a ∧ a ≤ 999) (hc : 0 ≤ c ∧ c ≤ m) (hb : 0 ≤ b ∧ b ≤ 999) (hd : 0 ≤ d ∧ d ≤ m) (hm : m ≤ 1000) (hp : 0 ≤ p ∧ p ≤ 999) (hq : 0 ≤ q ∧ q ≤ 999) (hx : x < a ∨ (x = a ∧ y ≤ c)) :
    ∃ s t b' d' : Int, tick a c p = ⟨0, s, t, s, t⟩ ∧ see b d s t q = ⟨0, 0, 0, b', d'⟩ ∧ lessB x y s t = true ∧ lessB s t b' d' = true ∧ (0 ≤ s ∧ s ≤ 999) ∧ (0 ≤ t ∧ t ≤ m + 1) ∧ (0 ≤ b' ∧ b' ≤ 999) ∧ (0 ≤ d' ∧ d' ≤ m + 2) ∧ (s < b' ∨ (s = b' ∧ t ≤ d')) := by
  have hp' : inB p 1099511627776 = true := by simp [inB]; omega
  have hq' : inB q 1099511627776 = true := by simp [inB]; omega
  have hs : ∃ s t : Int, tick a c p = ⟨0, s, t, s, t⟩ ∧ (0 ≤ s ∧ s ≤ 999) ∧ (0 ≤ t ∧ t ≤ m + 1) ∧ (a < s ∨ (a = s ∧ c < t)) := by
    unfold tick
    rw [hp', if_neg (by simp)]
    by_cases h1 : a < p
    · rw [if_pos h1]
      exact ⟨p, 0, rfl, hp, by omega, .inl h1⟩
    · rw [if_neg h1, if_neg (by omega)]
      exact ⟨a, c + 1, rfl, ha, by omega, .inr ⟨rfl, by omega⟩⟩
  obtain ⟨s, t, e1, h1, h2, h3⟩ := hs
  have hst : mayB s t = true := mayB_mk (by omega) (by omega) (by omega) (by omega)
  refine ⟨s, t, mx3 q s b, cntF (mx3 q s b) [(s, t), (b, d)] 0, e1, ?_, lessB_mk (by omega), lessB_mk ?_, h1, h2, ?_, ?_, ?_⟩
  · unfold see
    rw [hst, hq']
    simp only [Bool.and_self, Bool.true_eq_false, if_false]
    rw [if_neg (by omega), if_neg]
    rw [cnt_two _ _ _ _ _ h2.1]
    repeat' split
    all_goals omega
  · rw [cnt_two _ _ _ _ _ h2.1]
    unfold mx3
    repeat' split
    all_goals omega
  · unfold mx3
    repeat' split
    all_goals omega
  · rw [cnt_two _ _ _ _ _ h2.1]
    repeat' split
    all_goals omega
  · rw [cnt_two _ _ _ _ _ h2.1]
    unfold mx3
    repeat' split
    all_goals omega

/-- What stays while a turn is looked at: what was told last, what is told now, the two clocks, the wall. -/
structure Inv2 (w : World) (lb sb gc gd bb off : Nat) (x y s t n a c : Int) : Prop where
  kl : Clk 23 w lb x y
  ks : Clk 23 w sb s t
  kc : Clk 57 w gc s t
  kd : Clk 57 w gd a c
  cw : w.cell? ⟨bb, off, none⟩ = some (.int .i64 n)
theorem Inv2.below {w w' : World} {lb sb gc gd bb off : Nat} {x y s t n a c : Int} (h : Inv2 w lb sb gc gd bb off x y s t n a c) (hb : Below w.heap.size w w') : Inv2 w' lb sb gc gd bb off x y s t n a c :=
  ⟨h.kl.below hb, h.ks.below hb, h.kc.below hb, h.kd.below hb, (hb.cell (World.block_lt_of_cell? w _ h.cw)).trans h.cw⟩
theorem Inv2.drew {w : World} {lb sb gc gd bb off : Nat} {x y s t n a c : Int} (h : Inv2 w lb sb gc gd bb off x y s t n a c) : Inv2 w.drew lb sb gc gd bb off x y s t n a c := ⟨h.kl, h.ks, h.kc, h.kd, h.cw⟩
theorem Inv2.far {w w' : World} {lb sb gc gd bb off : Nat} {x y s t n a c a' c' : Int} (h : Inv2 w lb sb gc gd bb off x y s t n a c) (hg : w.grownBy w' (some gd)) (hk : Clk 57 w' gd a' c') (h1 : lb ≠ gd) (h2 : sb ≠ gd) (h3 : gc ≠ gd) (h4 : bb ≠ gd) : Inv2 w' lb sb gc gd bb off x y s t n a' c' :=
  ⟨h.kl.far hg h1, h.ks.far hg h2, h.kc.far hg h3, hk, (grown_cell hg (World.block_lt_of_cell? w _ h.cw) h4).trans h.cw⟩
theorem Inv2.cells {w : World} {lb sb gc gd bb off : Nat} {x y s t n a c : Int} (h : Inv2 w lb sb gc gd bb off x y s t n a c) :
    w.cell? ⟨lb, 0, none⟩ = some (.int .i64 x) ∧ w.cell? ⟨lb, 1, none⟩ = some (.int .i64 y) ∧ w.cell? ⟨sb, 0, none⟩ = some (.int .i64 s) ∧ w.cell? ⟨sb, 1, none⟩ = some (.int .i64 t) ∧ w.cell? ⟨bb, off, none⟩ = some (.int .i64 n) :=
  ⟨h.kl.cell0, h.kl.cell1, h.ks.cell0, h.ks.cell1, h.cw⟩

set_option maxHeartbeats 1000000 in
theorem two_many (ad : Option Addr) (n cap : Nat) (who : Int) (w : World) (hn : 40 < n) :
    Calls Try.prog 8 #[.slice ad n cap, .int .i64 who] w fun e w' => e = .returned (.bool true) ∧ Below w.heap.size w w' := by
  have hz3 : decide (40 < n) = true := by simpa using hn
  go_enter Try.func8, Try.ntmps8
  go_wp2_with fail
  refine (awake_c _).mono ?_
  rintro e w4 ⟨rfl, b4⟩
  go_wp2
  go_ret
  exact ⟨rfl, b4⟩

set_option maxHeartbeats 16000000 in
set_option maxRecDepth 100000 in
theorem two_few (l : List Int) (v : Value) (who : Int) (w : World) (hn : l.length ≤ 40) (hA : Nl w v l) :
    Calls Try.prog 8 #[v, .int .i64 who] w fun e w' => e = .returned (.bool true) ∧ Below w.heap.size w w' := by
  obtain ⟨ad, cap, rfl, hA⟩ := hA
  have HA := Lib.hid hA
  have hz3 : decide (40 < l.length) = false := by simpa using hn
  clear hA
  go_enter Try.func8, Try.ntmps8
  go_wp2_with fail
  refine (new_c 0 0 w (by decide)).mono ?_
  rintro e w1 ⟨g1, rfl, hg1, hk1, b1⟩
  have hs1 := b1.size
  have hl1 := hk1.lt
  go_wp2_with fail
  refine (new_c 0 0 w1 (by decide)).mono ?_
  rintro e w2 ⟨g2, rfl, hg2, hk2, b2⟩
  have hs2 := b2.size
  have hl2 := hk2.lt
  have KA2 := Lib.hid (hk1.below b2)
  have KB2 := Lib.hid hk2
  have HB2 : Hid (Below w.heap.size w w2) := Lib.hid (b1.trans (b2.mono hs1))
  have hne : g1 ≠ g2 := by omega
  clear hk1 hk2 b1 b2
  go_wp2
  obtain ⟨lb, hlb⟩ : ∃ lb, lb = w2.heap.size := ⟨_, rfl⟩
  have KL2 : Hid (Clk 23 (w2.alloc (.cells #[.int .i64 0, .int .i64 0] 23)) lb 0 0) := Lib.hid (by rw [hlb]; exact heap_alloc_new w2 _)
  rw [← hlb]
  have hlw : w.heap.size ≤ lb := by omega
  have hl1' : g1 ≠ lb := by omega
  have hl2' : g2 ≠ lb := by omega
  have hg2w : w.heap.size ≤ g2 := by omega
  clear hlb hg2 hl1 hl2
  go_loopw [8] (fun v8 wr => ∃ (k : Nat) (a c b d x y : Int), k ≤ l.length ∧ v8 = .int .i64 (k : Int) ∧ (0 ≤ a ∧ a ≤ 999) ∧ (0 ≤ c ∧ c ≤ 2 * k) ∧ (0 ≤ b ∧ b ≤ 999) ∧ (0 ≤ d ∧ d ≤ 2 * k) ∧ (x < a ∨ (x = a ∧ y ≤ c)) ∧ (x < b ∨ (x = b ∧ y ≤ d)) ∧ Clk 57 wr g1 a c ∧ Clk 57 wr g2 b d ∧ Clk 23 wr lb x y ∧ Below w.heap.size w wr) (fun v8 _ => l.length - (intOf v8).toNat)
  case atStart => exact ⟨0, 0, 0, 0, 0, 0, 0, by omega, rfl, by omega, by omega, by omega, by omega, by omega, by omega, KA2.out.alloc _, KB2.out.alloc _, KL2.out, HB2.out.alloc (by omega) _⟩
  case round =>
    obtain ⟨k, a, c, b, d, x, y, hk, rfl, ha, hc, hb, hd, hxa, hxb, ka, kb, kl, hbw⟩ := hrel
    have KA := Lib.hid ka
    have KB := Lib.hid kb
    have KL := Lib.hid kl
    have hsw := hbw.size
    have hg1l := ka.lt
    have hg2l := kb.lt
    have hlbl := kl.lt
    clear ka kb kl KA2 KB2 KL2 HB2
    by_cases hp : k < l.length
    · obtain ⟨bb, o, rfl, hAc⟩ := HA.out (by omega)
      have hbw0 : bb < w.heap.size := World.block_lt_of_cell? w _ (hAc k hp)
      have c0 := (hbw.cell (World.block_lt_of_cell? w _ (hAc k hp))).trans (hAc k hp)
      clear hAc
      generalize l[k] = n at c0
      go_upto_if 41 with fail
      go_cut [9, 10] (fun v9 v10 wc => ∃ gc gd : Nat, v9 = .pointer (some ⟨gc, 0, none⟩) ∧ v10 = .pointer (some ⟨gd, 0, none⟩) ∧ ((gc = g1 ∧ gd = g2) ∨ (gc = g2 ∧ gd = g1)) ∧ wr = wc)
      case first =>
        go_wp2_with fail
        · go_meet
          exact ⟨g2, g1, rfl, rfl, .inr ⟨rfl, rfl⟩, rfl⟩
        · go_meet
          exact ⟨g1, g2, rfl, rfl, .inl ⟨rfl, rfl⟩, rfl⟩
      case rest =>
        obtain ⟨gc, gd, rfl, rfl, hor, rfl⟩ := hcut
        obtain ⟨ac, cc, ad, dd, kc, kd, hac, hcc, had, hdd, hle⟩ : ∃ ac cc ad dd : Int, Clk 57 wr gc ac cc ∧ Clk 57 wr gd ad dd ∧ (0 ≤ ac ∧ ac ≤ 999) ∧ (0 ≤ cc ∧ cc ≤ 2 * k) ∧ (0 ≤ ad ∧ ad ≤ 999) ∧ (0 ≤ dd ∧ dd ≤ 2 * k) ∧ (x < ac ∨ (x = ac ∧ y ≤ cc)) := by
          rcases hor with ⟨rfl, rfl⟩ | ⟨rfl, rfl⟩
          · exact ⟨a, c, b, d, KA.out, KB.out, ha, hc, hb, hd, hxa⟩
          · exact ⟨b, d, a, c, KB.out, KA.out, hb, hd, ha, hc, hxb⟩
        have hgne : gc ≠ gd := by omega
        have hgcl := kc.lt
        have hgdl := kd.lt
        have hgcw : w.heap.size ≤ gc := by omega
        have hgdw : w.heap.size ≤ gd := by omega
        have hgcb : gc ≠ lb := by omega
        have hgdb : gd ≠ lb := by omega
        have HOR := Lib.hid hor
        have KC := Lib.hid kc
        have KD := Lib.hid kd
        have hbl : bb < wr.heap.size := World.block_lt_of_cell? wr _ c0
        clear hor kc kd KA KB ha hc hb hd hxa hxb
        go_wp2_with fail
        refine (low_c n 1000 wr (by omega) (by omega)).mono ?_
        rintro e w3 ⟨p, rfl, hp0, hp1, rfl⟩
        obtain ⟨s, t, b0, d0, e1, _, f1, _, hs, ht, _, _, _⟩ := two_turn ac cc ad dd x y p 0 (2 * k) hac hcc had hdd (by omega) ⟨hp0, by omega⟩ (by omega) hle
        have HSEE : Hid (∀ q : Int, (0 ≤ q ∧ q ≤ 999) → ∃ b' d' : Int, see ad dd s t q = ⟨0, 0, 0, b', d'⟩ ∧ lessB s t b' d' = true ∧ (0 ≤ b' ∧ b' ≤ 999) ∧ (0 ≤ d' ∧ d' ≤ 2 * k + 2) ∧ (s < b' ∨ (s = b' ∧ t ≤ d'))) := Lib.hid (fun q hq => by
          obtain ⟨s', t', b', d', e1', e2', _, f2', _, _, g1', g2', g3'⟩ := two_turn ac cc ad dd x y p q (2 * k) hac hcc had hdd (by omega) ⟨hp0, by omega⟩ hq hle
          rw [e1] at e1'
          simp only [Told.mk.injEq, true_and] at e1'
          obtain ⟨rfl, rfl, _⟩ := e1'
          exact ⟨b', d', e2', f2', g1', g2', g3'⟩)
        have CT := Lib.hid (tick_c 57 gc ac cc p wr KC.out (by omega) (by omega))
        rw [e1] at CT
        clear e1 hac hle
        go_wp2_with fail
        refine CT.out.mono ?_
        rintro e w4 ⟨rfl, gr4, kc4⟩
        have hs4 := gr4.size
        obtain ⟨W5, hW5⟩ : ∃ W5, W5 = w4.alloc (.cells #[.int .i64 s, .int .i64 t] 23) := ⟨_, rfl⟩
        obtain ⟨sb, hsb⟩ : ∃ sb, sb = w4.heap.size := ⟨_, rfl⟩
        have I5 : Hid (Inv2 W5 lb sb gc gd bb (o + k) x y s t n ad dd) := Lib.hid (by
          rw [hW5, hsb]
          refine ⟨(KL.out.far gr4 (by omega)).alloc _, heap_alloc_new w4 _, Clk.alloc kc4 _, (KD.out.far gr4 (by omega)).alloc _, ?_⟩
          rw [World.cell?_alloc_past _ _ _ (by omega)]
          exact (grown_cell gr4 hbl (by show bb ≠ gc; omega)).trans c0)
        have HB5 : Hid (Below w.heap.size w W5) := Lib.hid (by rw [hW5]; exact (hbw.trans (below_of_grown gr4 hsw hgcw)).alloc (by omega) _)
        have z5 : sb < W5.heap.size := by rw [hW5, hsb]; simp
        have z6 : gd < sb ∧ lb < sb ∧ gc < sb ∧ bb < sb := by omega
        obtain ⟨z6a, z6b, z6c, z6d⟩ := z6
        clear gr4 kc4 CT c0
        go_wp2_with fail
        rw [← hW5, ← hsb]
        clear hW5 hsb
        go_region_held3 (fun w' => w'.cell? ⟨lb, 0, none⟩ = some (.int .i64 x) ∧ w'.cell? ⟨lb, 1, none⟩ = some (.int .i64 y) ∧ w'.cell? ⟨sb, 0, none⟩ = some (.int .i64 s) ∧ w'.cell? ⟨sb, 1, none⟩ = some (.int .i64 t) ∧ w'.cell? ⟨bb, o + k, none⟩ = some (.int .i64 n)) (exact Inv2.cells (by first | assumption | exact I5.out.drew))
          (first
          | (go_at_call 13; refine (less_c _ _ _ _ _).mono ?_; rintro e w6 ⟨rfl, b6⟩; (first | (have i6 : Inv2 w6 lb sb gc gd bb (o + k) x y s t n b' d' := Inv2.below (by assumption) b6) | (have i6 : Inv2 w6 lb sb gc gd bb (o + k) x y s t n ad dd := Inv2.below (by first | assumption | exact I5.out.drew) b6)); (first | (have h6 : Hid (Below w.heap.size w w6) := Lib.hid (h8.out.trans (b6.mono h8.out.size))) | (have h6 : Hid (Below w.heap.size w w6) := Lib.hid (HB5.out.drew.trans (b6.mono HB5.out.size)))); clear b6)
          | (go_at_call 24; refine (low_c _ 1000 _ (by omega) (by omega)).mono ?_; rintro e w7 ⟨q, rfl, hq0, hq1, rfl⟩; obtain ⟨b', d', es, f2, hb', hd', hlt'⟩ := HSEE.out q ⟨hq0, by omega⟩; have ES := Lib.hid es; clear es)
          | (go_at_call 20; refine (see_c 57 gd ad dd s t q _ (by exact i6.kd) (by omega)).mono ?_; rw [ES.out]; rintro e w8 ⟨rfl, gr8, kd8⟩; have i8 : Inv2 w8 lb sb gc gd bb (o + k) x y s t n b' d' := i6.far gr8 kd8 (by omega) (by omega) (by omega) (by omega); have h8 : Hid (Below w.heap.size w w8) := Lib.hid (h6.out.trans (below_of_grown gr8 h6.out.size hgdw)); clear gr8 kd8)
          | (go_at_call 18; refine (last_c 57 gd b' d' _ (by exact i8.kd)).mono ?_; rintro e w9 ⟨rfl, b9⟩; have i9 : Inv2 w9 lb sb gc gd bb (o + k) x y s t n b' d' := i8.below b9; have h9 : Hid (Below w.heap.size w w9) := Lib.hid (h8.out.trans (b9.mono h8.out.size)); clear h8; have h8 := h9; clear b9))
        have I6 := Lib.hid i6
        obtain ⟨y0, y1, y2, y3, _⟩ := i6.cells
        have q0 := i6.kl.soft 0
        have q1 := i6.kl.soft 1
        have hkl := i6.kl
        have hkc : Clk 57 ((w6.setCell ⟨lb, 0, none⟩ (.int .i64 s)).setCell ⟨lb, 1, none⟩ (.int .i64 t)) gc s t := (i6.kc.setFar (by exact hgcb) _).setFar (by exact hgcb) _
        have hkd : Clk 57 ((w6.setCell ⟨lb, 0, none⟩ (.int .i64 s)).setCell ⟨lb, 1, none⟩ (.int .i64 t)) gd b' d' := (i6.kd.setFar (by exact hgdb) _).setFar (by exact hgdb) _
        have hklb := hkl.set s t
        have hbel : Below w.heap.size w ((w6.setCell ⟨lb, 0, none⟩ (.int .i64 s)).setCell ⟨lb, 1, none⟩ (.int .i64 t)) := (h6.out.setCell (by exact hlw) _).setCell (by exact hlw) _
        have HEND := Lib.hid (And.intro hkc (And.intro hkd (And.intro hklb hbel)))
        clear hkc hkd hklb hbel hkl i6 h6 h8 i8 i9 I5 I6 HB5 HSEE
        go_wp2
        go_roundw
        case rel =>
          obtain ⟨hkc, hkd, hklb, hbel⟩ := HEND.out
          rcases HOR.out with ⟨rfl, rfl⟩ | ⟨rfl, rfl⟩
          · exact ⟨k + 1, s, t, b', d', s, t, hp, by go_num, hs, by omega, hb', by omega, by omega, hlt', hkc, hkd, hklb, hbel⟩
          · exact ⟨k + 1, b', d', s, t, s, t, hp, by go_num, hb', by omega, hs, by omega, hlt', by omega, hkd, hkc, hklb, hbel⟩
        case measure => simp [intOf]; omega
    · go_wp2_with fail
      refine (awake_c _).mono ?_
      rintro e w4 ⟨rfl, b4⟩
      go_wp2
      go_ret
      exact ⟨rfl, hbw.trans (b4.mono hsw)⟩

end Go.Proofs.Ytmhonaelkcllhaa
