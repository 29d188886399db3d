/-
  countAt and See, of the program and of chapter 2's own answer, by contract: both are 'see'.
-/
import Derived.Test.YtmhonaelkcllhaaStmTick
import Derived.StillTailTactics
import Derived.Laws.Cover1
namespace Go.Proofs.Ytmhonaelkcllhaa
open Go.RowKit Go.Lib

/-- From offset o of block b on the stamps l lie. -/
def Sts (w : World) (b o : Nat) (l : List (Int × Int)) : Prop :=
  ∀ k (hk : k < l.length), w.cell? ⟨b, o + k * 2, none⟩ = some (.int .i64 l[k].1) ∧ w.cell? ⟨b, o + k * 2 + 1, none⟩ = some (.int .i64 l[k].2)
theorem Sts.below {w w' : World} {b o : Nat} {l : List (Int × Int)} (h : Sts w b o l) (hb : Below w.heap.size w w') : Sts w' b o l := by
  have k : ∀ {a : Addr} {v : Value}, w.cell? a = some v → w'.cell? a = some v := fun {a v} hc => (hb.cell (World.block_lt_of_cell? w a hc)).trans hc
  exact fun j hj => ⟨k (h j hj).1, k (h j hj).2⟩

def cntF (m : Int) : List (Int × Int) → Int → Int
  | [], x => x
  | p :: t, x => cntF m t (if p.1 = m then (if x < p.2 + 1 then p.2 + 1 else x) else x)

set_option maxHeartbeats 2000000 in
theorem count_c (m : Int) (b o cap : Nat) (l : List (Int × Int)) (w : World) (hl : l.length ≤ 1000) (hS : Sts w b o l) (hc : ∀ k (hk : k < l.length), 0 ≤ l[k].2 ∧ l[k].2 ≤ 65535) :
    Calls Try.prog 28 #[.int .i64 m, .slice (some ⟨b, o, none⟩) l.length cap] w fun e w' => e = .returned (.int .i64 (cntF m l 0)) ∧ Below w.heap.size w w' := by
  have HS := Lib.hid hS
  have HC := Lib.hid hc
  clear hS hc
  go_enter Try.func28, Try.ntmps28
  go_wp2
  go_loopw [5, 10] (fun v5 v10 wr => ∃ (k : Nat) (x : Int), k ≤ l.length ∧ v10 = .int .i64 (k : Int) ∧ v5 = .int .i64 x ∧ Hid (cntF m (l.drop k) x = cntF m l 0) ∧ Below w.heap.size w wr) (fun _ v10 _ => l.length - (intOf v10).toNat)
  case atStart => exact ⟨0, 0, by omega, rfl, rfl, Lib.hid (by rw [List.drop_zero]), Below.refl _ _⟩
  case round =>
    obtain ⟨k, x, hk, rfl, rfl, hx, hbw⟩ := hrel
    by_cases hp : k < l.length
    · have hb0 := HC.out k hp
      obtain ⟨h0, h1⟩ := hb0
      obtain ⟨c0, c1⟩ := HS.out.below hbw k hp
      have hdr : l.drop k = l[k] :: l.drop (k + 1) := List.drop_eq_getElem_cons hp
      rw [hdr] at hx
      clear hdr
      generalize l[k] = p at c0 c1 h0 h1 hx
      obtain ⟨A, C⟩ := p
      simp only at c0 c1 h0 h1
      have hlt0 : b < wr.heap.size := World.block_lt_of_cell? wr _ c0
      have hsz := hbw.size
      by_cases ha : A = m
      · subst ha
        have e1 : (A == A) = true := by simp
        by_cases hxc : x < C + 1
        · have hx2 : Hid (cntF A (l.drop (k + 1)) (C + 1) = cntF A l 0) := by
            have := hx.out
            rw [cntF, if_pos rfl, if_pos hxc] at this
            exact Lib.hid this
          clear hx
          go_wp2
          go_roundw
          case rel => exact ⟨k + 1, _, hp, by go_num, rfl, hx2, hbw.alloc (by omega) _⟩
          case measure => simp [intOf]; omega
        · have hx2 : Hid (cntF A (l.drop (k + 1)) x = cntF A l 0) := by
            have := hx.out
            rw [cntF, if_pos rfl, if_neg hxc] at this
            exact Lib.hid this
          clear hx
          go_wp2
          go_roundw
          case rel => exact ⟨k + 1, _, hp, by go_num, rfl, hx2, hbw.alloc (by omega) _⟩
          case measure => simp [intOf]; omega
      · have e1 : (A == m) = false := by simpa using ha
        have hx2 : Hid (cntF m (l.drop (k + 1)) x = cntF m l 0) := by
          have := hx.out
          rw [cntF, if_neg ha] at this
          exact Lib.hid this
        clear hx
        go_wp2
        go_roundw
        case rel => exact ⟨k + 1, _, hp, by go_num, rfl, hx2, hbw.alloc (by omega) _⟩
        case measure => simp [intOf]; omega
    · have hkk : k = l.length := by omega
      subst hkk
      have hx2 : Hid (x = cntF m l 0) := by
        have := hx.out
        rw [List.drop_length, cntF] at this
        exact Lib.hid this
      clear hx
      go_wp2
      go_ret
      exact ⟨by rw [hx2.out]; rfl, hbw⟩

def mx3 (n s a : Int) : Int := if (if n < s then s else n) < a then a else if n < s then s else n
def see (a c s t n : Int) : Told :=
  if (mayB s t && inB n 1099511627776) = false then ⟨2, 0, 0, a, c⟩ else if 1000 < s - n then ⟨5, 0, 0, a, c⟩ else
  if 65535 < cntF (mx3 n s a) [(s, t), (a, c)] 0 then ⟨4, 0, 0, a, c⟩ else ⟨0, 0, 0, mx3 n s a, cntF (mx3 n s a) [(s, t), (a, c)] 0⟩
def seenT (g : Nat) (T : TypeId) (R : Told) (w : World) (e : Ending) (w' : World) : Prop :=
  e = .returned (.int .i64 R.e) ∧ w.grownBy w' (some g) ∧ Clk T w' g R.ka R.kc

theorem see_nil (s t n : Int) (w : World) : Calls Try.prog 20 #[.pointer none, .agg #[.int .i64 s, .int .i64 t], .int .i64 n] w fun e w' => e = .returned (.int .i64 1) ∧ Below w.heap.size w w' := by
  go_enter Try.func20, Try.ntmps20
  go_wp2
  go_ret
  exact ⟨rfl, (Below.refl _ _).alloc (Nat.le_refl _) _⟩

set_option maxHeartbeats 2000000 in
theorem see_arg (T : TypeId) (g : Nat) (a c s t n : Int) (w : World) (hk : Clk T w g a c) (h : (mayB s t && inB n 1099511627776) = false) :
    Calls Try.prog 20 #[.pointer (some ⟨g, 0, none⟩), .agg #[.int .i64 s, .int .i64 t], .int .i64 n] w (seenT g T ⟨2, 0, 0, a, c⟩ w) := by
  have cm := fun W => may_c s t W
  have cw := fun W => wall_c n W
  generalize mayB s t = M at cm h
  generalize inB n 1099511627776 = N at cw h
  have HM := Lib.hid cm
  have HW := Lib.hid cw
  have HK := Lib.hid hk
  clear cm cw hk
  cases M
  · clear h HW
    go_enter Try.func20, Try.ntmps20
    go_wp2_with (go_at_call 11; refine (HM.out _).mono ?_; rintro e w' ⟨rfl, hb⟩)
    go_ret
    exact ⟨rfl, grown_trans (grown_alloc (grown_refl _ _) _) (grown_below hb _), (HK.out.alloc _).below hb⟩
  · cases N
    · clear h
      go_enter Try.func20, Try.ntmps20
      go_wp2_with (first | (go_at_call 11; refine (HM.out _).mono ?_; rintro e w' ⟨rfl, hb⟩) | (go_at_call 25; refine (HW.out _).mono ?_; rintro e w2 ⟨rfl, rfl⟩))
      go_ret
      exact ⟨rfl, grown_trans (grown_alloc (grown_refl _ _) _) (grown_below hb _), (HK.out.alloc _).below hb⟩
    · cases h

set_option maxHeartbeats 2000000 in
theorem see_far (T : TypeId) (g : Nat) (a c s t n : Int) (w : World) (hk : Clk T w g a c) (h1 : mayB s t = true) (h2 : inB n 1099511627776 = true) (h3 : 1000 < s - n) (h4 : s ≤ 1099511627776) (h5 : 0 ≤ n) :
    Calls Try.prog 20 #[.pointer (some ⟨g, 0, none⟩), .agg #[.int .i64 s, .int .i64 t], .int .i64 n] w (seenT g T ⟨5, 0, 0, a, c⟩ w) := by
  have cm := fun W => may_c s t W
  have cw := fun W => wall_c n W
  rw [h1] at cm
  rw [h2] at cw
  have HM := Lib.hid cm
  have HW := Lib.hid cw
  have HK := Lib.hid hk
  clear cm cw hk h1 h2
  go_enter Try.func20, Try.ntmps20
  go_wp2_with fail
  refine (HM.out _).mono ?_
  rintro e w1 ⟨rfl, hb⟩
  have hz : w.heap.size + 1 ≤ w1.heap.size := by have := hb.size; simpa using this
  have d0 : w1.cell? ⟨w.heap.size, 0, none⟩ = some (.int .i64 s) := (hb.cell (by simp)).trans (by simp [go_sem])
  have d1 : w1.cell? ⟨w.heap.size, 1, none⟩ = some (.int .i64 t) := (hb.cell (by simp)).trans (by simp [go_sem])
  go_wp2_with (go_at_call 25; refine (HW.out _).mono ?_; rintro e w2 ⟨rfl, rfl⟩)
  go_ret
  exact ⟨rfl, grown_trans (grown_alloc (grown_refl _ _) _) (grown_below hb _), (HK.out.alloc _).below hb⟩

theorem sts_new2 (w : World) (n : Nat) (hn : w.heap.size = n) (s t a c : Int) : Sts (w.alloc (.cells #[.int .i64 s, .int .i64 t, .int .i64 a, .int .i64 c] 23)) n 0 [(s, t), (a, c)] := by
  subst hn
  intro k hk
  rw [cell_of_row _ w.heap.size _ _ _ _ (heap_alloc_new w _), cell_of_row _ w.heap.size _ _ _ _ (heap_alloc_new w _)]
  have hk2 : k < 2 := hk
  match k, hk2 with
  | 0, _ => exact ⟨rfl, rfl⟩
  | 1, _ => exact ⟨rfl, rfl⟩

theorem max3_run (n s a : Int) (ts : Array TypeId) (t : TypeId) (W : World) : (Builtin.max_ ts t #[.int .i64 n, .int .i64 s, .int .i64 a]).run Try.prog W = .ok (.int .i64 (mx3 n s a)) W := by
  rw [run_max_int3]; rfl

set_option maxHeartbeats 4000000 in
theorem see_yes (T : TypeId) (g : Nat) (a c s t n : Int) (w : World) (hk : Clk T w g a c) (h1 : mayB s t = true) (h2 : inB n 1099511627776 = true) (h3 : ¬ 1000 < s - n) (h4 : s ≤ 1099511627776) (h5 : 0 ≤ n) (h6 : 0 ≤ s) (h7 : n ≤ 1099511627776)
    (R : Told) (hm : Hid (∀ W : World, Clk T W g a c → Calls Try.prog 27 #[.pointer (some ⟨g, 0, none⟩), .agg #[.int .i64 (mx3 n s a), .int .i64 (cntF (mx3 n s a) [(s, t), (a, c)] 0)]] W (seenT g T R W))) (ht : 0 ≤ t ∧ t ≤ 65535) (hc : 0 ≤ c ∧ c ≤ 65535) :
    Calls Try.prog 20 #[.pointer (some ⟨g, 0, none⟩), .agg #[.int .i64 s, .int .i64 t], .int .i64 n] w (seenT g T R w) := by
  have cm := fun W => may_c s t W
  have cw := fun W => wall_c n W
  rw [h1] at cm
  rw [h2] at cw
  have HM := Lib.hid cm
  have HW := Lib.hid cw
  have hg := hk.lt
  have c0 := hk.cell0
  have c1 := hk.cell1
  have HK := Lib.hid hk
  clear cm cw hk h1 h2
  have hmx := max3_run n s a
  have HC : Hid (∀ (b : Nat) (W : World), Sts W b 0 [(s, t), (a, c)] → Calls Try.prog 28 #[.int .i64 (mx3 n s a), .slice (some ⟨b, 0, none⟩) 2 2] W fun e w' => e = .returned (.int .i64 (cntF (mx3 n s a) [(s, t), (a, c)] 0)) ∧ Below W.heap.size W w') := Lib.hid (fun b W h => count_c (mx3 n s a) b 0 2 [(s, t), (a, c)] W (by simp) h (fun k hk => by
    have hk2 : k < 2 := hk
    match k, hk2 with
    | 0, _ => exact ht
    | 1, _ => exact hc))
  clear ht hc
  generalize cntF (mx3 n s a) [(s, t), (a, c)] 0 = q at HC hm
  generalize mx3 n s a = m at hmx HC hm
  go_enter Try.func20, Try.ntmps20
  go_wp2_with fail
  refine (HM.out _).mono ?_
  rintro e w1 ⟨rfl, hb⟩
  have hz : w.heap.size + 1 ≤ w1.heap.size := by have := hb.size; simpa using this
  have d0 : w1.cell? ⟨w.heap.size, 0, none⟩ = some (.int .i64 s) := (hb.cell (by simp)).trans (by simp [go_sem])
  have d1 : w1.cell? ⟨w.heap.size, 1, none⟩ = some (.int .i64 t) := (hb.cell (by simp)).trans (by simp [go_sem])
  have hk1 : Clk T w1 g a c := (HK.out.alloc _).below hb
  have hgr1 : w.grownBy w1 (some g) := grown_trans (grown_alloc (grown_refl _ _) _) (grown_below hb _)
  have p0 := hk1.cell0
  have p1 := hk1.cell1
  have HK1 := Lib.hid hk1
  have HG1 := Lib.hid hgr1
  clear hk1 hgr1 hb
  go_wp2_with (go_at_call 25; refine (HW.out _).mono ?_; rintro e w2 ⟨rfl, rfl⟩)
  go_quiet (fail)
  go_wp2
  go_region_with (first
    | (go_at_call 28; refine (HC.out _ _ (by exact sts_new2 _ _ rfl _ _ _ _)).mono ?_; rintro e w3 ⟨rfl, hb3⟩)
    | (go_at_call 27; refine (hm.out _ (by exact Clk.below (by exact HK1.out.alloc _) hb3)).mono ?_; rintro e w4 ⟨rfl, hgr4, hk4⟩))
  all_goals go_wp2
  all_goals go_ret
  all_goals exact ⟨rfl, grown_trans (grown_trans (grown_trans HG1.out (grown_drewN (grown_refl _ _) nq)) (grown_trans (grown_drew (grown_alloc (grown_refl _ _) _)) (grown_below hb3 _))) hgr4, hk4⟩

theorem inB_iff {n m : Int} (h : inB n m = true) : 0 ≤ n ∧ n ≤ m := by
  unfold inB at h
  simpa using h
theorem mayB_iff {a c : Int} (h : mayB a c = true) : (0 ≤ a ∧ a ≤ 1099511627776) ∧ (0 ≤ c ∧ c ≤ 65535) := by
  unfold mayB at h
  simp only [Bool.and_eq_true] at h
  exact ⟨inB_iff h.1, inB_iff h.2⟩
theorem see_c (T : TypeId) (g : Nat) (a c s t n : Int) (w : World) (hk : Clk T w g a c) (hc : 0 ≤ c ∧ c ≤ 65535) :
    Calls Try.prog 20 #[.pointer (some ⟨g, 0, none⟩), .agg #[.int .i64 s, .int .i64 t], .int .i64 n] w (seenT g T (see a c s t n) w) := by
  unfold see
  cases h : (mayB s t && inB n 1099511627776)
  · rw [if_pos rfl]
    exact see_arg T g a c s t n w hk h
  · rw [if_neg (by simp)]
    simp only [Bool.and_eq_true] at h
    obtain ⟨h1, h2⟩ := h
    have b1 := mayB_iff h1
    have b2 := inB_iff h2
    by_cases h3 : 1000 < s - n
    · rw [if_pos h3]
      exact see_far T g a c s t n w hk h1 h2 h3 b1.1.2 b2.1
    · rw [if_neg h3]
      by_cases h4 : 65535 < cntF (mx3 n s a) [(s, t), (a, c)] 0
      · rw [if_pos h4]
        refine see_yes T g a c s t n w hk h1 h2 h3 b1.1.2 b2.1 b1.1.1 b2.2 _ (Lib.hid fun W hW => ?_) b1.2 hc
        exact (move_over g _ _ W h4).mono fun e w' ⟨h5, h6⟩ => ⟨h5, grown_below h6 _, hW.below h6⟩
      · rw [if_neg h4]
        refine see_yes T g a c s t n w hk h1 h2 h3 b1.1.2 b2.1 b1.1.1 b2.2 _ (Lib.hid fun W hW => ?_) b1.2 hc
        exact (move_ok T g a c _ _ W (by omega) hW).mono fun e w' ⟨h5, h6⟩ => ⟨h5, h6⟩

end Go.Proofs.Ytmhonaelkcllhaa
