/-
  awake: what every program answers that is one, by contract.
-/
import Derived.Test.YtgdajnjfkokmdaaPstPPut
import Derived.Test.YtgdajnjfkokmdaaPstPLess
import Derived.Test.YtgdajnjfkokmdaaPstPOr
import Derived.Test.YtgdajnjfkokmdaaPstPAnd
namespace Go.Proofs.Ytgdajnjfkokmdaa
open Go.RowKit Go.Lib
set_option maxRecDepth 100000
set_option linter.unusedSimpArgs false

theorem nl_bx1 {w : World} {g : Nat} {x : Int} (h : Bx 3 w g #[.int .i64 x]) : Nl w (.slice (some ⟨g, 0, none⟩) 1 1) [x] := by
  refine .inr ⟨_, 1, rfl, fun _ => ⟨g, 0, rfl, fun k hk => ?_⟩⟩
  match k, hk with
  | 0, _ => exact h.cell 0
theorem nl_bx2 {w : World} {g : Nat} {x y : Int} (h : Bx 3 w g #[.int .i64 x, .int .i64 y]) : Nl w (.slice (some ⟨g, 0, none⟩) 2 2) [x, y] := by
  refine .inr ⟨_, 2, rfl, fun _ => ⟨g, 0, rfl, fun k hk => ?_⟩⟩
  match k, hk with
  | 0, _ => exact h.cell 0
  | 1, _ => exact h.cell 1
theorem anyH_cut {P : Program} {md : Region.Mode} {ops : Array Oper} {Q : Exit → Act → World → Prop} {S : World → Prop} {n : Nat} {listed : Array Bool} {a : Act} {w : World} (n2 : Nat) (listed2 : Array Bool) (R : Act → World → Prop)
    (rest : ∀ a w, R a w → wpAnyH P md ops Q S n2 listed2 a w) (first : (∀ a w L, L = listed2 → R a w → wpAnyH P md ops Q S n2 L a w) → wpAnyH P md ops Q S n listed a w) : wpAnyH P md ops Q S n listed a w :=
  first (fun a w L e h => by rw [e]; exact rest a w h)
theorem prd_none (w : World) : PRd w (.slice none 0 0) [] := ⟨none, 0, rfl, Nat.le_refl _, fun h => absurd h (by simp)⟩
theorem two_new {W : World} {va vb : Value} {a b : List Pv} (ha : PRd W va a) (hb : PRd W vb b) (T : TypeId) : LRd (W.alloc (.cells #[va, vb] T)) (.slice (some ⟨W.heap.size, 0, none⟩) 2 2) [⟨va, a⟩, ⟨vb, b⟩] :=
  lrd_new (w := W) (vs := [va, vb]) (ls := [⟨va, a⟩, ⟨vb, b⟩]) rfl (fun x hx => by
    rcases List.mem_cons.1 hx with rfl | hx
    · exact ha
    · simp only [List.mem_singleton] at hx; subst hx; exact hb) T
theorem key_new (W : World) (o s : Int) : KRd (W.alloc (.cells #[.int .i64 o, .int .i64 s] 34)) (.slice (some ⟨W.heap.size, 0, none⟩) 1 1) [(o, s)] := krd_one (Bx.new 34 W _)
theorem bxn {T : TypeId} {W : World} {g : Nat} {cs : Array Value} (h : g = W.heap.size) : Bx T (W.alloc (.cells cs T)) g cs := by rw [h]; exact Bx.new T W cs
theorem bxa {T : TypeId} {W : World} {g : Nat} {cs : Array Value} {o : Obj} (h : Bx T W g cs) : Bx T (W.alloc o) g cs := h.below (alloc_below _ _)
theorem bxd {T : TypeId} {W : World} {g : Nat} {cs : Array Value} (h : Bx T W g cs) : Bx T W.drew g cs := h
theorem below4 (W : World) (o1 o2 o3 o4 : Obj) : Below W.heap.size W ((((W.alloc o1).alloc o2).alloc o3).alloc o4).drew := by
  have b0 := Below.refl W.heap.size W
  have b1 := b0.alloc b0.size o1
  have b2 := b1.alloc b1.size o2
  have b3 := b2.alloc b2.size o3
  exact (b3.alloc b3.size o4).drew
set_option maxHeartbeats 16000000 in
theorem awake_c : awC 9 := by
  intro w
  obtain ⟨w1, hw1⟩ : ∃ w1, w1 = w.alloc (.cells #[.int .i64 1, .int .i64 2] 34) := ⟨_, rfl⟩
  have bx := Bx.new 34 w #[.int .i64 1, .int .i64 2]
  rw [← hw1] at bx
  have BX := Lib.hid bx
  have HB1 : Hid (Below w.heap.size w w1) := Lib.hid (by rw [hw1]; exact alloc_below _ _)
  have HW1 := Lib.hid hw1
  have hz1 : w1.heap.size = w.heap.size + 1 := by rw [hw1]; simp
  clear hw1 bx
  go_enter Try.func9, Try.ntmps9
  go_upto_region 2 with fail
  go_cut [2, 3] (fun v2 v3 wc => ∃ Ba Bb xa xb : Nat, v2 = .slice (some ⟨Ba, 0, none⟩) 1 1 ∧ v3 = .slice (some ⟨Bb, 0, none⟩) 1 1 ∧ Hid (Bx 37 wc Ba #[.int .i64 1, .int .i64 2, .slice (some ⟨xa, 0, none⟩) 2 2]) ∧ Hid (Bx 37 wc Bb #[.int .i64 1, .int .i64 2, .slice (some ⟨xb, 0, none⟩) 1 1]) ∧ Hid (Bx 3 wc xa #[.int .i64 0, .int .i64 3]) ∧ Hid (Bx 3 wc xb #[.int .i64 4]) ∧ Hid (Below w1.heap.size w1 wc))
  case first =>
    go_region
    all_goals
      go_wp2
      go_meet
      first
        | exact ⟨_, _, w.heap.size + 1, w.heap.size + 1 + 1, rfl, rfl, Lib.hid (by refine bxd ?_; first | exact bxn (by simp) | (refine bxa ?_; first | exact bxn (by simp) | (refine bxa ?_; first | exact bxn (by simp) | (refine bxa ?_; exact bxn (by simp))))), Lib.hid (by refine bxd ?_; first | exact bxn (by simp) | (refine bxa ?_; first | exact bxn (by simp) | (refine bxa ?_; first | exact bxn (by simp) | (refine bxa ?_; exact bxn (by simp))))), Lib.hid (by refine bxd ?_; first | exact bxn (by simp) | (refine bxa ?_; first | exact bxn (by simp) | (refine bxa ?_; first | exact bxn (by simp) | (refine bxa ?_; exact bxn (by simp))))), Lib.hid (by refine bxd ?_; first | exact bxn (by simp) | (refine bxa ?_; first | exact bxn (by simp) | (refine bxa ?_; first | exact bxn (by simp) | (refine bxa ?_; exact bxn (by simp))))), Lib.hid (by rw [HW1.out]; exact below4 _ _ _ _ _)⟩
        | exact ⟨_, _, w.heap.size + 1, w.heap.size + 1 + 1 + 1, rfl, rfl, Lib.hid (by refine bxd ?_; first | exact bxn (by simp) | (refine bxa ?_; first | exact bxn (by simp) | (refine bxa ?_; first | exact bxn (by simp) | (refine bxa ?_; exact bxn (by simp))))), Lib.hid (by refine bxd ?_; first | exact bxn (by simp) | (refine bxa ?_; first | exact bxn (by simp) | (refine bxa ?_; first | exact bxn (by simp) | (refine bxa ?_; exact bxn (by simp))))), Lib.hid (by refine bxd ?_; first | exact bxn (by simp) | (refine bxa ?_; first | exact bxn (by simp) | (refine bxa ?_; first | exact bxn (by simp) | (refine bxa ?_; exact bxn (by simp))))), Lib.hid (by refine bxd ?_; first | exact bxn (by simp) | (refine bxa ?_; first | exact bxn (by simp) | (refine bxa ?_; first | exact bxn (by simp) | (refine bxa ?_; exact bxn (by simp))))), Lib.hid (by rw [HW1.out]; exact below4 _ _ _ _ _)⟩
        | exact ⟨_, _, w.heap.size + 1 + 1, w.heap.size + 1, rfl, rfl, Lib.hid (by refine bxd ?_; first | exact bxn (by simp) | (refine bxa ?_; first | exact bxn (by simp) | (refine bxa ?_; first | exact bxn (by simp) | (refine bxa ?_; exact bxn (by simp))))), Lib.hid (by refine bxd ?_; first | exact bxn (by simp) | (refine bxa ?_; first | exact bxn (by simp) | (refine bxa ?_; first | exact bxn (by simp) | (refine bxa ?_; exact bxn (by simp))))), Lib.hid (by refine bxd ?_; first | exact bxn (by simp) | (refine bxa ?_; first | exact bxn (by simp) | (refine bxa ?_; first | exact bxn (by simp) | (refine bxa ?_; exact bxn (by simp))))), Lib.hid (by refine bxd ?_; first | exact bxn (by simp) | (refine bxa ?_; first | exact bxn (by simp) | (refine bxa ?_; first | exact bxn (by simp) | (refine bxa ?_; exact bxn (by simp))))), Lib.hid (by rw [HW1.out]; exact below4 _ _ _ _ _)⟩
        | exact ⟨_, _, w.heap.size + 1 + 1 + 1, w.heap.size + 1, rfl, rfl, Lib.hid (by refine bxd ?_; first | exact bxn (by simp) | (refine bxa ?_; first | exact bxn (by simp) | (refine bxa ?_; first | exact bxn (by simp) | (refine bxa ?_; exact bxn (by simp))))), Lib.hid (by refine bxd ?_; first | exact bxn (by simp) | (refine bxa ?_; first | exact bxn (by simp) | (refine bxa ?_; first | exact bxn (by simp) | (refine bxa ?_; exact bxn (by simp))))), Lib.hid (by refine bxd ?_; first | exact bxn (by simp) | (refine bxa ?_; first | exact bxn (by simp) | (refine bxa ?_; first | exact bxn (by simp) | (refine bxa ?_; exact bxn (by simp))))), Lib.hid (by refine bxd ?_; first | exact bxn (by simp) | (refine bxa ?_; first | exact bxn (by simp) | (refine bxa ?_; first | exact bxn (by simp) | (refine bxa ?_; exact bxn (by simp))))), Lib.hid (by rw [HW1.out]; exact below4 _ _ _ _ _)⟩
  case rest =>
    obtain ⟨Ba, Bb, xa, xb, rfl, rfl, HA1, HB1', HA2, HB2, HBC⟩ := hcut
    have HB0 : Hid (Below w.heap.size w wc) := Lib.hid (bn HB1.out HBC.out)
    have HK0 : Hid (Bx 34 wc w.heap.size #[.int .i64 1, .int .i64 2]) := Lib.hid (BX.out.below HBC.out)
    have HPA : Hid (∀ W, Below wc.heap.size wc W → PRd W (.slice (some ⟨Ba, 0, none⟩) 1 1) [⟨1, 2, .slice (some ⟨xa, 0, none⟩) 2 2, [0, 3]⟩]) := Lib.hid (fun W b => (prd_one (x := ⟨1, 2, .slice (some ⟨xa, 0, none⟩) 2 2, [0, 3]⟩) HA1.out (nl_bx2 HA2.out)).below b)
    have HPB : Hid (∀ W, Below wc.heap.size wc W → PRd W (.slice (some ⟨Bb, 0, none⟩) 1 1) [⟨1, 2, .slice (some ⟨xb, 0, none⟩) 1 1, [4]⟩]) := Lib.hid (fun W b => (prd_one (x := ⟨1, 2, .slice (some ⟨xb, 0, none⟩) 1 1, [4]⟩) HB1'.out (nl_bx1 HB2.out)).below b)
    have HSM : Hid (small [⟨(.slice (some ⟨Ba, 0, none⟩) 1 1), [⟨1, 2, .slice (some ⟨xa, 0, none⟩) 2 2, [0, 3]⟩]⟩, ⟨(.slice (some ⟨Bb, 0, none⟩) 1 1), [⟨1, 2, .slice (some ⟨xb, 0, none⟩) 1 1, [4]⟩]⟩] 6) := Lib.hid (by simp [small])
    have HSM2 : Hid (small [⟨(.slice (some ⟨Bb, 0, none⟩) 1 1), [⟨1, 2, .slice (some ⟨xb, 0, none⟩) 1 1, [4]⟩]⟩, ⟨(.slice (some ⟨Ba, 0, none⟩) 1 1), [⟨1, 2, .slice (some ⟨xa, 0, none⟩) 2 2, [0, 3]⟩]⟩] 6) := Lib.hid (by simp [small])
    have HOK : Hid (okL (pls [⟨(.slice (some ⟨Ba, 0, none⟩) 1 1), [⟨1, 2, .slice (some ⟨xa, 0, none⟩) 2 2, [0, 3]⟩]⟩, ⟨(.slice (some ⟨Bb, 0, none⟩) 1 1), [⟨1, 2, .slice (some ⟨xb, 0, none⟩) 1 1, [4]⟩]⟩])) := Lib.hid (by simp [okL, pls, ps, Pv.p, okP, inR])
    have HOK2 : Hid (okL (pls [⟨(.slice (some ⟨Bb, 0, none⟩) 1 1), [⟨1, 2, .slice (some ⟨xb, 0, none⟩) 1 1, [4]⟩]⟩, ⟨(.slice (some ⟨Ba, 0, none⟩) 1 1), [⟨1, 2, .slice (some ⟨xa, 0, none⟩) 2 2, [0, 3]⟩]⟩])) := Lib.hid (by simp [okL, pls, ps, Pv.p, okP, inR])
    have HPH : Hid (phK (pls [⟨(.slice (some ⟨Ba, 0, none⟩) 1 1), [⟨1, 2, .slice (some ⟨xa, 0, none⟩) 2 2, [0, 3]⟩]⟩, ⟨(.slice (some ⟨Bb, 0, none⟩) 1 1), [⟨1, 2, .slice (some ⟨xb, 0, none⟩) 1 1, [4]⟩]⟩]) = [(1, 2)]) := Lib.hid (by show phK [[⟨(1, 2), [0, 3]⟩], [⟨(1, 2), [4]⟩]] = [(1, 2)]; decide)
    have HPH2 : Hid (phK (pls [⟨(.slice (some ⟨Bb, 0, none⟩) 1 1), [⟨1, 2, .slice (some ⟨xb, 0, none⟩) 1 1, [4]⟩]⟩, ⟨(.slice (some ⟨Ba, 0, none⟩) 1 1), [⟨1, 2, .slice (some ⟨xa, 0, none⟩) 2 2, [0, 3]⟩]⟩]) = []) := Lib.hid (by show phK [[⟨(1, 2), [4]⟩], [⟨(1, 2), [0, 3]⟩]] = []; decide)
    have HAN : Hid (andK (pls [⟨(.slice (some ⟨Ba, 0, none⟩) 1 1), [⟨1, 2, .slice (some ⟨xa, 0, none⟩) 2 2, [0, 3]⟩]⟩, ⟨(.slice (some ⟨Bb, 0, none⟩) 1 1), [⟨1, 2, .slice (some ⟨xb, 0, none⟩) 1 1, [4]⟩]⟩]) = [(1, 2)]) := Lib.hid (by show andK [[⟨(1, 2), [0, 3]⟩], [⟨(1, 2), [4]⟩]] = [(1, 2)]; decide)
    have HOR : Hid (orK (pls [⟨(.slice (some ⟨Ba, 0, none⟩) 1 1), [⟨1, 2, .slice (some ⟨xa, 0, none⟩) 2 2, [0, 3]⟩]⟩, ⟨(.slice (some ⟨Bb, 0, none⟩) 1 1), [⟨1, 2, .slice (some ⟨xb, 0, none⟩) 1 1, [4]⟩]⟩]) = [(1, 2)]) := Lib.hid (by show orK [[⟨(1, 2), [0, 3]⟩], [⟨(1, 2), [4]⟩]] = [(1, 2)]; decide)
    have HMA : Hid (mayL (ps [⟨1, 2, .slice (some ⟨xa, 0, none⟩) 2 2, [0, 3]⟩]) = true) := Lib.hid (by show mayL [⟨(1, 2), [0, 3]⟩] = true; decide)
    have HLE : Hid (lessK [((1 : Int), (2 : Int))] [(1, 2)] = []) := Lib.hid (by decide)
    have HKY : Hid (∀ k ∈ [((1 : Int), (2 : Int))], okKy k) := Lib.hid (by simp [okKy, inR])
    have HPU : Hid (∀ q : List Pv, ps q = putP (ps []) ⟨(1, 2), [0, 3]⟩ → q.length = 1) := Lib.hid (fun q h => by
      have h1 : (ps q).length = 1 := by rw [h]; decide
      simpa [ps] using h1)
    have HDR : Hid (∀ q : List Pv, ps q = dropP (ps [⟨1, 2, .slice (some ⟨xa, 0, none⟩) 2 2, [0, 3]⟩]) (1, 2) → q.length = 0) := Lib.hid (fun q h => by
      have h1 : (ps q).length = 0 := by rw [h]; show (dropP [⟨(1, 2), [0, 3]⟩] (1, 2)).length = 0; decide
      simpa [ps] using h1)
    have HS : Hid (∀ W, Below wc.heap.size wc W → W.cell? ⟨w.heap.size, 0, none⟩ = some (.int .i64 1) ∧ W.cell? ⟨w.heap.size, 1, none⟩ = some (.int .i64 2) ∧ W.cell? ⟨Ba, 0, none⟩ = some (.int .i64 1) ∧ W.cell? ⟨Ba, 1, none⟩ = some (.int .i64 2) ∧ W.cell? ⟨Ba, 2, none⟩ = some (.slice (some ⟨xa, 0, none⟩) 2 2)) := Lib.hid (fun W b => ⟨(HK0.out.below b).cell 0, (HK0.out.below b).cell 1, (HA1.out.below b).cell 0, (HA1.out.below b).cell 1, (HA1.out.below b).cell 2⟩)
    clear BX HB1 HW1 hz1 HBC
    go_upto_region 3 with fail
    refine wp_region_held_drew (S := fun W => W.cell? ⟨w.heap.size, 0, none⟩ = some (.int .i64 1) ∧ W.cell? ⟨w.heap.size, 1, none⟩ = some (.int .i64 2) ∧ W.cell? ⟨Ba, 0, none⟩ = some (.int .i64 1) ∧ W.cell? ⟨Ba, 1, none⟩ = some (.int .i64 2) ∧ W.cell? ⟨Ba, 2, none⟩ = some (.slice (some ⟨xa, 0, none⟩) 2 2)) (by kernel_rfl) (HS.out _ (Below.refl _ _).drew) (fun hHeld => ?_)
    have b0 : Below wc.heap.size wc wc.drew := (Below.refl _ _).drew
    generalize wc.drew = z0 at b0 hHeld ⊢
    refine anyH_cut 54 #[true, true, true, true, true, true, true, true, false, false, false, false, false, false, false, false, false, false, false, false, false, false, false, false, false, false, false, false, false, false, false, false, false, false, false, false, false, false, false, false, false, false, false, false, false, false, false, false, false, false, false, false, false, false, false, false, false, false, false, false, false, false] (fun a z => ∃ y13 y14 y15 y16 y17 y18 y19 : Value, a = ⟨#[.bool false, .pointer (some ⟨w.heap.size, 0, none⟩), .slice (some ⟨Ba, 0, none⟩) 1 1, .slice (some ⟨Bb, 0, none⟩) 1 1, u4, u5, u6, u7, u8, u9, u10, u11, u12, y13, y14, y15, y16, y17, y18, y19, .bool true, u21, u22, u23, u24, u25, u26, u27, u28, u29, u30, u31, u32, u33, u34, u35, u36, u37, u38, u39, u40, u41, u42, u43, u44, u45, u46, u47, u48, u49, u50, u51, u52, u53, u54, u55, u56, u57, u58, u59, u60, u61, u62, u63, u64, u65, u66, u67, u68, u69, u70, u71, u72, u73], []⟩ ∧ Hid (Below wc.heap.size wc z)) ?_ ?_
    rotate_left
    · intro REST
      refine take_ok (i := 0) (d := 13) (v := ?_) rfl rfl (by kernel_rfl) (by kernel_rfl) (by kernel_rfl) (fun _ _ _ h => h) (Or.inl ⟨by rfl, ?_⟩) (by assumption) ?_
      rotate_left
      · intro w9 hSw
        try dsimp only at hSw
        first | (go_simp; done) | (go_simp; with_reducible rfl)
      try simp only [Act.put, List.setIfInBounds_toArray, List.set_cons_zero, List.set_cons_succ]
      refine take_ok (i := 1) (d := 14) (v := ?_) rfl rfl (by kernel_rfl) (by kernel_rfl) (by kernel_rfl) (fun _ _ _ h => h) (Or.inl ⟨by rfl, ?_⟩) (by assumption) ?_
      rotate_left
      · intro w9 hSw
        try dsimp only at hSw
        first | (go_simp; done) | (go_simp; with_reducible rfl)
      try simp only [Act.put, List.setIfInBounds_toArray, List.set_cons_zero, List.set_cons_succ]
      refine take_ok (i := 4) (d := 17) (v := ?_) rfl rfl (by kernel_rfl) (by kernel_rfl) (by kernel_rfl) (fun _ _ _ h => h) (Or.inl ⟨by rfl, ?_⟩) (by assumption) ?_
      rotate_left
      · intro w9 hSw
        try dsimp only at hSw
        first | (go_simp; done) | (go_simp; with_reducible rfl)
      try simp only [Act.put, List.setIfInBounds_toArray, List.set_cons_zero, List.set_cons_succ]
      refine wpAnyH_ready (rs := [2, 5]) (by kernel_rfl) (by simp) ?_
      refine AllReadyH.cons rfl (fun K hK => ?_) (AllReadyH.cons rfl (fun K hK => ?_) AllReadyH.nil)
      · go_simp
        have l1 := two_new (HPA.out _ b0) (HPB.out _ b0) 30
        have c1 := alloc_below z0 (.cells #[(.slice (some ⟨Ba, 0, none⟩) 1 1), (.slice (some ⟨Bb, 0, none⟩) 1 1)] 30)
        generalize z0.alloc (.cells #[(.slice (some ⟨Ba, 0, none⟩) 1 1), (.slice (some ⟨Bb, 0, none⟩) 1 1)] 30) = z1 at l1 c1 ⊢
        generalize (Value.slice (some ⟨z0.heap.size, 0, none⟩) 2 2) = v1 at l1 ⊢
        have b1 : Below wc.heap.size wc z1 := bn b0 c1
        refine hK.out _ _ (HS.out _ b1) (fun hHeld => ?_)
        clear hK K
        try simp only [Act.put, List.setIfInBounds_toArray, List.set_cons_zero, List.set_cons_succ]
        refine wpAnyH_ready (rs := [3, 5]) (by kernel_rfl) (by simp) ?_
        refine AllReadyH.cons rfl (fun K hK => ?_) (AllReadyH.cons rfl (fun K hK => ?_) AllReadyH.nil)
        · go_simp
          refine (pphr_c _ _ _ (l1.below (Below.refl _ _)) HSM.out HOK.out).mono ?_
          rintro e z2 ⟨v2, rfl, r2, c2⟩
          rw [HPH.out] at r2
          have l2 := r2.rd
          have b2 : Below wc.heap.size wc z2 := bn b1 c2
          refine hK.out _ _ (HS.out _ b2) (fun hHeld => ?_)
          clear hK K
          try simp only [Act.put, List.setIfInBounds_toArray, List.set_cons_zero, List.set_cons_succ]
          refine wpAnyH_ready (rs := [5]) (by kernel_rfl) (by simp) ?_
          refine AllReadyH.cons rfl (fun K hK => ?_) AllReadyH.nil
          go_simp
          have l3 := key_new z2 1 2
          have c3 := alloc_below z2 (.cells #[.int .i64 1, .int .i64 2] 34)
          generalize z2.alloc (.cells #[.int .i64 1, .int .i64 2] 34) = z3 at l3 c3 ⊢
          generalize (Value.slice (some ⟨z2.heap.size, 0, none⟩) 1 1) = v3 at l3 ⊢
          have b3 : Below wc.heap.size wc z3 := bn b2 c3
          refine hK.out _ _ (HS.out _ b3) (fun hHeld => ?_)
          clear hK K
          try simp only [Act.put, List.setIfInBounds_toArray, List.set_cons_zero, List.set_cons_succ]
          refine wpAnyH_ready (rs := [6]) (by kernel_rfl) (by simp) ?_
          refine AllReadyH.cons rfl (fun K hK => ?_) AllReadyH.nil
          go_simp
          refine (samek_c [(1, 2)] _ _ _ (l2.below c3) (l3.below (Below.refl _ _)) (by simp)).mono ?_
          rintro e z4 ⟨rfl, c4⟩
          have b4 : Below wc.heap.size wc z4 := bn b3 c4
          refine hK.out _ _ (HS.out _ b4) (fun hHeld => ?_)
          clear hK K
          try simp only [Act.put, List.setIfInBounds_toArray, List.set_cons_zero, List.set_cons_succ]
          refine take_ok (i := 7) (d := 20) (v := ?_) rfl rfl (by kernel_rfl) (by kernel_rfl) (by kernel_rfl) (fun _ _ _ h => h) (Or.inl ⟨by rfl, ?_⟩) (by assumption) ?_
          rotate_left
          · intro w9 hSw
            try dsimp only at hSw
            first | (go_simp; done) | (go_simp; with_reducible rfl)
          try simp only [Act.put, List.setIfInBounds_toArray, List.set_cons_zero, List.set_cons_succ]
          exact REST _ _ _ (by kernel_rfl) ⟨_, _, _, _, _, _, _, rfl, Lib.hid b4⟩
        · go_simp
          have l5 := key_new z1 1 2
          have c5 := alloc_below z1 (.cells #[.int .i64 1, .int .i64 2] 34)
          generalize z1.alloc (.cells #[.int .i64 1, .int .i64 2] 34) = z5 at l5 c5 ⊢
          generalize (Value.slice (some ⟨z1.heap.size, 0, none⟩) 1 1) = v5 at l5 ⊢
          have b5 : Below wc.heap.size wc z5 := bn b1 c5
          refine hK.out _ _ (HS.out _ b5) (fun hHeld => ?_)
          clear hK K
          try simp only [Act.put, List.setIfInBounds_toArray, List.set_cons_zero, List.set_cons_succ]
          refine wpAnyH_ready (rs := [3]) (by kernel_rfl) (by simp) ?_
          refine AllReadyH.cons rfl (fun K hK => ?_) AllReadyH.nil
          go_simp
          refine (pphr_c _ _ _ (l1.below c5) HSM.out HOK.out).mono ?_
          rintro e z6 ⟨v6, rfl, r6, c6⟩
          rw [HPH.out] at r6
          have l6 := r6.rd
          have b6 : Below wc.heap.size wc z6 := bn b5 c6
          refine hK.out _ _ (HS.out _ b6) (fun hHeld => ?_)
          clear hK K
          try simp only [Act.put, List.setIfInBounds_toArray, List.set_cons_zero, List.set_cons_succ]
          refine wpAnyH_ready (rs := [6]) (by kernel_rfl) (by simp) ?_
          refine AllReadyH.cons rfl (fun K hK => ?_) AllReadyH.nil
          go_simp
          refine (samek_c [(1, 2)] _ _ _ (l6.below (Below.refl _ _)) (l5.below c6) (by simp)).mono ?_
          rintro e z7 ⟨rfl, c7⟩
          have b7 : Below wc.heap.size wc z7 := bn b6 c7
          refine hK.out _ _ (HS.out _ b7) (fun hHeld => ?_)
          clear hK K
          try simp only [Act.put, List.setIfInBounds_toArray, List.set_cons_zero, List.set_cons_succ]
          refine take_ok (i := 7) (d := 20) (v := ?_) rfl rfl (by kernel_rfl) (by kernel_rfl) (by kernel_rfl) (fun _ _ _ h => h) (Or.inl ⟨by rfl, ?_⟩) (by assumption) ?_
          rotate_left
          · intro w9 hSw
            try dsimp only at hSw
            first | (go_simp; done) | (go_simp; with_reducible rfl)
          try simp only [Act.put, List.setIfInBounds_toArray, List.set_cons_zero, List.set_cons_succ]
          exact REST _ _ _ (by kernel_rfl) ⟨_, _, _, _, _, _, _, rfl, Lib.hid b7⟩
      · go_simp
        have l8 := key_new z0 1 2
        have c8 := alloc_below z0 (.cells #[.int .i64 1, .int .i64 2] 34)
        generalize z0.alloc (.cells #[.int .i64 1, .int .i64 2] 34) = z8 at l8 c8 ⊢
        generalize (Value.slice (some ⟨z0.heap.size, 0, none⟩) 1 1) = v8 at l8 ⊢
        have b8 : Below wc.heap.size wc z8 := bn b0 c8
        refine hK.out _ _ (HS.out _ b8) (fun hHeld => ?_)
        clear hK K
        try simp only [Act.put, List.setIfInBounds_toArray, List.set_cons_zero, List.set_cons_succ]
        refine wpAnyH_ready (rs := [2]) (by kernel_rfl) (by simp) ?_
        refine AllReadyH.cons rfl (fun K hK => ?_) AllReadyH.nil
        go_simp
        have l9 := two_new (HPA.out _ b8) (HPB.out _ b8) 30
        have c9 := alloc_below z8 (.cells #[(.slice (some ⟨Ba, 0, none⟩) 1 1), (.slice (some ⟨Bb, 0, none⟩) 1 1)] 30)
        generalize z8.alloc (.cells #[(.slice (some ⟨Ba, 0, none⟩) 1 1), (.slice (some ⟨Bb, 0, none⟩) 1 1)] 30) = z9 at l9 c9 ⊢
        generalize (Value.slice (some ⟨z8.heap.size, 0, none⟩) 2 2) = v9 at l9 ⊢
        have b9 : Below wc.heap.size wc z9 := bn b8 c9
        refine hK.out _ _ (HS.out _ b9) (fun hHeld => ?_)
        clear hK K
        try simp only [Act.put, List.setIfInBounds_toArray, List.set_cons_zero, List.set_cons_succ]
        refine wpAnyH_ready (rs := [3]) (by kernel_rfl) (by simp) ?_
        refine AllReadyH.cons rfl (fun K hK => ?_) AllReadyH.nil
        go_simp
        refine (pphr_c _ _ _ (l9.below (Below.refl _ _)) HSM.out HOK.out).mono ?_
        rintro e z10 ⟨v10, rfl, r10, c10⟩
        rw [HPH.out] at r10
        have l10 := r10.rd
        have b10 : Below wc.heap.size wc z10 := bn b9 c10
        refine hK.out _ _ (HS.out _ b10) (fun hHeld => ?_)
        clear hK K
        try simp only [Act.put, List.setIfInBounds_toArray, List.set_cons_zero, List.set_cons_succ]
        refine wpAnyH_ready (rs := [6]) (by kernel_rfl) (by simp) ?_
        refine AllReadyH.cons rfl (fun K hK => ?_) AllReadyH.nil
        go_simp
        refine (samek_c [(1, 2)] _ _ _ (l10.below (Below.refl _ _)) (l8.below (bn c9 c10)) (by simp)).mono ?_
        rintro e z11 ⟨rfl, c11⟩
        have b11 : Below wc.heap.size wc z11 := bn b10 c11
        refine hK.out _ _ (HS.out _ b11) (fun hHeld => ?_)
        clear hK K
        try simp only [Act.put, List.setIfInBounds_toArray, List.set_cons_zero, List.set_cons_succ]
        refine take_ok (i := 7) (d := 20) (v := ?_) rfl rfl (by kernel_rfl) (by kernel_rfl) (by kernel_rfl) (fun _ _ _ h => h) (Or.inl ⟨by rfl, ?_⟩) (by assumption) ?_
        rotate_left
        · intro w9 hSw
          try dsimp only at hSw
          first | (go_simp; done) | (go_simp; with_reducible rfl)
        try simp only [Act.put, List.setIfInBounds_toArray, List.set_cons_zero, List.set_cons_succ]
        exact REST _ _ _ (by kernel_rfl) ⟨_, _, _, _, _, _, _, rfl, Lib.hid b11⟩
    rintro a zR8 ⟨y13, y14, y15, y16, y17, y18, y19, rfl, HZR8⟩
    have bR8 := HZR8.out
    have hHeld := HS.out _ bR8
    refine anyH_cut 37 #[true, true, true, true, true, true, true, true, true, true, true, true, true, true, true, true, true, true, true, true, true, true, true, true, true, false, false, false, false, false, false, false, false, false, false, false, false, false, false, false, false, false, false, false, false, false, false, false, false, false, false, false, false, false, false, false, false, false, false, false, false, false] (fun a z => ∃ y13 y14 y15 y16 y17 y18 y19 y20 y21 y22 y23 y24 y25 y26 y27 y28 y29 y30 y31 y32 y33 y34 y35 y36 : Value, a = ⟨#[.bool false, .pointer (some ⟨w.heap.size, 0, none⟩), .slice (some ⟨Ba, 0, none⟩) 1 1, .slice (some ⟨Bb, 0, none⟩) 1 1, u4, u5, u6, u7, u8, u9, u10, u11, u12, y13, y14, y15, y16, y17, y18, y19, y20, y21, y22, y23, y24, y25, y26, y27, y28, y29, y30, y31, y32, y33, y34, y35, y36, .bool true, u38, u39, u40, u41, u42, u43, u44, u45, u46, u47, u48, u49, u50, u51, u52, u53, u54, u55, u56, u57, u58, u59, u60, u61, u62, u63, u64, u65, u66, u67, u68, u69, u70, u71, u72, u73], []⟩ ∧ Hid (Below wc.heap.size wc z)) ?_ ?_
    rotate_left
    · intro REST
      refine take_ok (i := 8) (d := 21) (v := ?_) rfl rfl (by kernel_rfl) (by kernel_rfl) (by kernel_rfl) (fun _ _ _ h => h) (Or.inl ⟨by rfl, ?_⟩) (by assumption) ?_
      rotate_left
      · intro w9 hSw
        try dsimp only at hSw
        first | (go_simp; done) | (go_simp; with_reducible rfl)
      try simp only [Act.put, List.setIfInBounds_toArray, List.set_cons_zero, List.set_cons_succ]
      refine take_ok (i := 9) (d := 22) (v := ?_) rfl rfl (by kernel_rfl) (by kernel_rfl) (by kernel_rfl) (fun _ _ _ h => h) (Or.inl ⟨by rfl, ?_⟩) (by assumption) ?_
      rotate_left
      · intro w9 hSw
        try dsimp only at hSw
        first | (go_simp; done) | (go_simp; with_reducible rfl)
      try simp only [Act.put, List.setIfInBounds_toArray, List.set_cons_zero, List.set_cons_succ]
      refine wpAnyH_ready (rs := [10]) (by kernel_rfl) (by simp) ?_
      refine AllReadyH.cons rfl (fun K hK => ?_) AllReadyH.nil
      go_simp
      have l12 := two_new (HPB.out _ bR8) (HPA.out _ bR8) 30
      have c12 := alloc_below zR8 (.cells #[(.slice (some ⟨Bb, 0, none⟩) 1 1), (.slice (some ⟨Ba, 0, none⟩) 1 1)] 30)
      generalize zR8.alloc (.cells #[(.slice (some ⟨Bb, 0, none⟩) 1 1), (.slice (some ⟨Ba, 0, none⟩) 1 1)] 30) = z12 at l12 c12 ⊢
      generalize (Value.slice (some ⟨zR8.heap.size, 0, none⟩) 2 2) = v12 at l12 ⊢
      have b12 : Below wc.heap.size wc z12 := bn bR8 c12
      refine hK.out _ _ (HS.out _ b12) (fun hHeld => ?_)
      clear hK K
      try simp only [Act.put, List.setIfInBounds_toArray, List.set_cons_zero, List.set_cons_succ]
      refine wpAnyH_ready (rs := [11]) (by kernel_rfl) (by simp) ?_
      refine AllReadyH.cons rfl (fun K hK => ?_) AllReadyH.nil
      go_simp
      refine (pphr_c _ _ _ (l12.below (Below.refl _ _)) HSM2.out HOK2.out).mono ?_
      rintro e z13 ⟨v13, rfl, r13, c13⟩
      rw [HPH2.out] at r13
      obtain ⟨A13, C13, e13, _⟩ := own_form r13
      simp only [List.length_nil] at e13
      subst e13
      clear r13
      have b13 : Below wc.heap.size wc z13 := bn b12 c13
      refine hK.out _ _ (HS.out _ b13) (fun hHeld => ?_)
      clear hK K
      try simp only [Act.put, List.setIfInBounds_toArray, List.set_cons_zero, List.set_cons_succ]
      refine take_ok (i := 12) (d := 25) (v := ?_) rfl rfl (by kernel_rfl) (by kernel_rfl) (by kernel_rfl) (fun _ _ _ h => h) (Or.inl ⟨by rfl, ?_⟩) (by assumption) ?_
      rotate_left
      · intro w9 hSw
        try dsimp only at hSw
        first | (go_simp; done) | (go_simp; with_reducible rfl)
      try simp only [Act.put, List.setIfInBounds_toArray, List.set_cons_zero, List.set_cons_succ]
      refine take_ok (i := 13) (d := 26) (v := ?_) rfl rfl (by kernel_rfl) (by kernel_rfl) (by kernel_rfl) (fun _ _ _ h => h) (Or.inl ⟨by rfl, ?_⟩) (by assumption) ?_
      rotate_left
      · intro w9 hSw
        try dsimp only at hSw
        first | (go_simp; done) | (go_simp; with_reducible rfl)
      try simp only [Act.put, List.setIfInBounds_toArray, List.set_cons_zero, List.set_cons_succ]
      refine take_ok (i := 14) (d := 27) (v := ?_) rfl rfl (by kernel_rfl) (by kernel_rfl) (by kernel_rfl) (fun _ _ _ h => h) (Or.inl ⟨by rfl, ?_⟩) (by assumption) ?_
      rotate_left
      · intro w9 hSw
        try dsimp only at hSw
        first | (go_simp; done) | (go_simp; with_reducible rfl)
      try simp only [Act.put, List.setIfInBounds_toArray, List.set_cons_zero, List.set_cons_succ]
      refine take_ok (i := 15) (d := 28) (v := ?_) rfl rfl (by kernel_rfl) (by kernel_rfl) (by kernel_rfl) (fun _ _ _ h => h) (Or.inl ⟨by rfl, ?_⟩) (by assumption) ?_
      rotate_left
      · intro w9 hSw
        try dsimp only at hSw
        first | (go_simp; done) | (go_simp; with_reducible rfl)
      try simp only [Act.put, List.setIfInBounds_toArray, List.set_cons_zero, List.set_cons_succ]
      refine take_ok (i := 16) (d := 29) (v := ?_) rfl rfl (by kernel_rfl) (by kernel_rfl) (by kernel_rfl) (fun _ _ _ h => h) (Or.inl ⟨by rfl, ?_⟩) (by assumption) ?_
      rotate_left
      · intro w9 hSw
        try dsimp only at hSw
        first | (go_simp; done) | (go_simp; with_reducible rfl)
      try simp only [Act.put, List.setIfInBounds_toArray, List.set_cons_zero, List.set_cons_succ]
      refine take_ok (i := 17) (d := 30) (v := ?_) rfl rfl (by kernel_rfl) (by kernel_rfl) (by kernel_rfl) (fun _ _ _ h => h) (Or.inl ⟨by rfl, ?_⟩) (by assumption) ?_
      rotate_left
      · intro w9 hSw
        try dsimp only at hSw
        first | (go_simp; done) | (go_simp; with_reducible rfl)
      try simp only [Act.put, List.setIfInBounds_toArray, List.set_cons_zero, List.set_cons_succ]
      refine take_ok (i := 20) (d := 33) (v := ?_) rfl rfl (by kernel_rfl) (by kernel_rfl) (by kernel_rfl) (fun _ _ _ h => h) (Or.inl ⟨by rfl, ?_⟩) (by assumption) ?_
      rotate_left
      · intro w9 hSw
        try dsimp only at hSw
        first | (go_simp; done) | (go_simp; with_reducible rfl)
      try simp only [Act.put, List.setIfInBounds_toArray, List.set_cons_zero, List.set_cons_succ]
      refine wpAnyH_ready (rs := [18, 21]) (by kernel_rfl) (by simp) ?_
      refine AllReadyH.cons rfl (fun K hK => ?_) (AllReadyH.cons rfl (fun K hK => ?_) AllReadyH.nil)
      · go_simp
        have l14 := two_new (HPA.out _ b13) (HPB.out _ b13) 30
        have c14 := alloc_below z13 (.cells #[(.slice (some ⟨Ba, 0, none⟩) 1 1), (.slice (some ⟨Bb, 0, none⟩) 1 1)] 30)
        generalize z13.alloc (.cells #[(.slice (some ⟨Ba, 0, none⟩) 1 1), (.slice (some ⟨Bb, 0, none⟩) 1 1)] 30) = z14 at l14 c14 ⊢
        generalize (Value.slice (some ⟨z13.heap.size, 0, none⟩) 2 2) = v14 at l14 ⊢
        have b14 : Below wc.heap.size wc z14 := bn b13 c14
        refine hK.out _ _ (HS.out _ b14) (fun hHeld => ?_)
        clear hK K
        try simp only [Act.put, List.setIfInBounds_toArray, List.set_cons_zero, List.set_cons_succ]
        refine wpAnyH_ready (rs := [19, 21]) (by kernel_rfl) (by simp) ?_
        refine AllReadyH.cons rfl (fun K hK => ?_) (AllReadyH.cons rfl (fun K hK => ?_) AllReadyH.nil)
        · go_simp
          refine (pand_c _ _ _ (l14.below (Below.refl _ _)) HSM.out HOK.out).mono ?_
          rintro e z15 ⟨v15, rfl, r15, c15⟩
          rw [HAN.out] at r15
          have l15 := r15.rd
          have b15 : Below wc.heap.size wc z15 := bn b14 c15
          refine hK.out _ _ (HS.out _ b15) (fun hHeld => ?_)
          clear hK K
          try simp only [Act.put, List.setIfInBounds_toArray, List.set_cons_zero, List.set_cons_succ]
          refine wpAnyH_ready (rs := [21]) (by kernel_rfl) (by simp) ?_
          refine AllReadyH.cons rfl (fun K hK => ?_) AllReadyH.nil
          go_simp
          have l16 := key_new z15 1 2
          have c16 := alloc_below z15 (.cells #[.int .i64 1, .int .i64 2] 34)
          generalize z15.alloc (.cells #[.int .i64 1, .int .i64 2] 34) = z16 at l16 c16 ⊢
          generalize (Value.slice (some ⟨z15.heap.size, 0, none⟩) 1 1) = v16 at l16 ⊢
          have b16 : Below wc.heap.size wc z16 := bn b15 c16
          refine hK.out _ _ (HS.out _ b16) (fun hHeld => ?_)
          clear hK K
          try simp only [Act.put, List.setIfInBounds_toArray, List.set_cons_zero, List.set_cons_succ]
          refine wpAnyH_ready (rs := [22]) (by kernel_rfl) (by simp) ?_
          refine AllReadyH.cons rfl (fun K hK => ?_) AllReadyH.nil
          go_simp
          refine (samek_c [(1, 2)] _ _ _ (l15.below c16) (l16.below (Below.refl _ _)) (by simp)).mono ?_
          rintro e z17 ⟨rfl, c17⟩
          have b17 : Below wc.heap.size wc z17 := bn b16 c17
          refine hK.out _ _ (HS.out _ b17) (fun hHeld => ?_)
          clear hK K
          try simp only [Act.put, List.setIfInBounds_toArray, List.set_cons_zero, List.set_cons_succ]
          refine take_ok (i := 23) (d := 36) (v := ?_) rfl rfl (by kernel_rfl) (by kernel_rfl) (by kernel_rfl) (fun _ _ _ h => h) (Or.inl ⟨by rfl, ?_⟩) (by assumption) ?_
          rotate_left
          · intro w9 hSw
            try dsimp only at hSw
            first | (go_simp; done) | (go_simp; with_reducible rfl)
          try simp only [Act.put, List.setIfInBounds_toArray, List.set_cons_zero, List.set_cons_succ]
          refine take_ok (i := 24) (d := 37) (v := ?_) rfl rfl (by kernel_rfl) (by kernel_rfl) (by kernel_rfl) (fun _ _ _ h => h) (Or.inl ⟨by rfl, ?_⟩) (by assumption) ?_
          rotate_left
          · intro w9 hSw
            try dsimp only at hSw
            first | (go_simp; done) | (go_simp; with_reducible rfl)
          try simp only [Act.put, List.setIfInBounds_toArray, List.set_cons_zero, List.set_cons_succ]
          exact REST _ _ _ (by kernel_rfl) ⟨_, _, _, _, _, _, _, _, _, _, _, _, _, _, _, _, _, _, _, _, _, _, _, _, rfl, Lib.hid b17⟩
        · go_simp
          have l18 := key_new z14 1 2
          have c18 := alloc_below z14 (.cells #[.int .i64 1, .int .i64 2] 34)
          generalize z14.alloc (.cells #[.int .i64 1, .int .i64 2] 34) = z18 at l18 c18 ⊢
          generalize (Value.slice (some ⟨z14.heap.size, 0, none⟩) 1 1) = v18 at l18 ⊢
          have b18 : Below wc.heap.size wc z18 := bn b14 c18
          refine hK.out _ _ (HS.out _ b18) (fun hHeld => ?_)
          clear hK K
          try simp only [Act.put, List.setIfInBounds_toArray, List.set_cons_zero, List.set_cons_succ]
          refine wpAnyH_ready (rs := [19]) (by kernel_rfl) (by simp) ?_
          refine AllReadyH.cons rfl (fun K hK => ?_) AllReadyH.nil
          go_simp
          refine (pand_c _ _ _ (l14.below c18) HSM.out HOK.out).mono ?_
          rintro e z19 ⟨v19, rfl, r19, c19⟩
          rw [HAN.out] at r19
          have l19 := r19.rd
          have b19 : Below wc.heap.size wc z19 := bn b18 c19
          refine hK.out _ _ (HS.out _ b19) (fun hHeld => ?_)
          clear hK K
          try simp only [Act.put, List.setIfInBounds_toArray, List.set_cons_zero, List.set_cons_succ]
          refine wpAnyH_ready (rs := [22]) (by kernel_rfl) (by simp) ?_
          refine AllReadyH.cons rfl (fun K hK => ?_) AllReadyH.nil
          go_simp
          refine (samek_c [(1, 2)] _ _ _ (l19.below (Below.refl _ _)) (l18.below c19) (by simp)).mono ?_
          rintro e z20 ⟨rfl, c20⟩
          have b20 : Below wc.heap.size wc z20 := bn b19 c20
          refine hK.out _ _ (HS.out _ b20) (fun hHeld => ?_)
          clear hK K
          try simp only [Act.put, List.setIfInBounds_toArray, List.set_cons_zero, List.set_cons_succ]
          refine take_ok (i := 23) (d := 36) (v := ?_) rfl rfl (by kernel_rfl) (by kernel_rfl) (by kernel_rfl) (fun _ _ _ h => h) (Or.inl ⟨by rfl, ?_⟩) (by assumption) ?_
          rotate_left
          · intro w9 hSw
            try dsimp only at hSw
            first | (go_simp; done) | (go_simp; with_reducible rfl)
          try simp only [Act.put, List.setIfInBounds_toArray, List.set_cons_zero, List.set_cons_succ]
          refine take_ok (i := 24) (d := 37) (v := ?_) rfl rfl (by kernel_rfl) (by kernel_rfl) (by kernel_rfl) (fun _ _ _ h => h) (Or.inl ⟨by rfl, ?_⟩) (by assumption) ?_
          rotate_left
          · intro w9 hSw
            try dsimp only at hSw
            first | (go_simp; done) | (go_simp; with_reducible rfl)
          try simp only [Act.put, List.setIfInBounds_toArray, List.set_cons_zero, List.set_cons_succ]
          exact REST _ _ _ (by kernel_rfl) ⟨_, _, _, _, _, _, _, _, _, _, _, _, _, _, _, _, _, _, _, _, _, _, _, _, rfl, Lib.hid b20⟩
      · go_simp
        have l21 := key_new z13 1 2
        have c21 := alloc_below z13 (.cells #[.int .i64 1, .int .i64 2] 34)
        generalize z13.alloc (.cells #[.int .i64 1, .int .i64 2] 34) = z21 at l21 c21 ⊢
        generalize (Value.slice (some ⟨z13.heap.size, 0, none⟩) 1 1) = v21 at l21 ⊢
        have b21 : Below wc.heap.size wc z21 := bn b13 c21
        refine hK.out _ _ (HS.out _ b21) (fun hHeld => ?_)
        clear hK K
        try simp only [Act.put, List.setIfInBounds_toArray, List.set_cons_zero, List.set_cons_succ]
        refine wpAnyH_ready (rs := [18]) (by kernel_rfl) (by simp) ?_
        refine AllReadyH.cons rfl (fun K hK => ?_) AllReadyH.nil
        go_simp
        have l22 := two_new (HPA.out _ b21) (HPB.out _ b21) 30
        have c22 := alloc_below z21 (.cells #[(.slice (some ⟨Ba, 0, none⟩) 1 1), (.slice (some ⟨Bb, 0, none⟩) 1 1)] 30)
        generalize z21.alloc (.cells #[(.slice (some ⟨Ba, 0, none⟩) 1 1), (.slice (some ⟨Bb, 0, none⟩) 1 1)] 30) = z22 at l22 c22 ⊢
        generalize (Value.slice (some ⟨z21.heap.size, 0, none⟩) 2 2) = v22 at l22 ⊢
        have b22 : Below wc.heap.size wc z22 := bn b21 c22
        refine hK.out _ _ (HS.out _ b22) (fun hHeld => ?_)
        clear hK K
        try simp only [Act.put, List.setIfInBounds_toArray, List.set_cons_zero, List.set_cons_succ]
        refine wpAnyH_ready (rs := [19]) (by kernel_rfl) (by simp) ?_
        refine AllReadyH.cons rfl (fun K hK => ?_) AllReadyH.nil
        go_simp
        refine (pand_c _ _ _ (l22.below (Below.refl _ _)) HSM.out HOK.out).mono ?_
        rintro e z23 ⟨v23, rfl, r23, c23⟩
        rw [HAN.out] at r23
        have l23 := r23.rd
        have b23 : Below wc.heap.size wc z23 := bn b22 c23
        refine hK.out _ _ (HS.out _ b23) (fun hHeld => ?_)
        clear hK K
        try simp only [Act.put, List.setIfInBounds_toArray, List.set_cons_zero, List.set_cons_succ]
        refine wpAnyH_ready (rs := [22]) (by kernel_rfl) (by simp) ?_
        refine AllReadyH.cons rfl (fun K hK => ?_) AllReadyH.nil
        go_simp
        refine (samek_c [(1, 2)] _ _ _ (l23.below (Below.refl _ _)) (l21.below (bn c22 c23)) (by simp)).mono ?_
        rintro e z24 ⟨rfl, c24⟩
        have b24 : Below wc.heap.size wc z24 := bn b23 c24
        refine hK.out _ _ (HS.out _ b24) (fun hHeld => ?_)
        clear hK K
        try simp only [Act.put, List.setIfInBounds_toArray, List.set_cons_zero, List.set_cons_succ]
        refine take_ok (i := 23) (d := 36) (v := ?_) rfl rfl (by kernel_rfl) (by kernel_rfl) (by kernel_rfl) (fun _ _ _ h => h) (Or.inl ⟨by rfl, ?_⟩) (by assumption) ?_
        rotate_left
        · intro w9 hSw
          try dsimp only at hSw
          first | (go_simp; done) | (go_simp; with_reducible rfl)
        try simp only [Act.put, List.setIfInBounds_toArray, List.set_cons_zero, List.set_cons_succ]
        refine take_ok (i := 24) (d := 37) (v := ?_) rfl rfl (by kernel_rfl) (by kernel_rfl) (by kernel_rfl) (fun _ _ _ h => h) (Or.inl ⟨by rfl, ?_⟩) (by assumption) ?_
        rotate_left
        · intro w9 hSw
          try dsimp only at hSw
          first | (go_simp; done) | (go_simp; with_reducible rfl)
        try simp only [Act.put, List.setIfInBounds_toArray, List.set_cons_zero, List.set_cons_succ]
        exact REST _ _ _ (by kernel_rfl) ⟨_, _, _, _, _, _, _, _, _, _, _, _, _, _, _, _, _, _, _, _, _, _, _, _, rfl, Lib.hid b24⟩
    rintro a zR25 ⟨y13, y14, y15, y16, y17, y18, y19, y20, y21, y22, y23, y24, y25, y26, y27, y28, y29, y30, y31, y32, y33, y34, y35, y36, rfl, HZR25⟩
    have bR25 := HZR25.out
    have hHeld := HS.out _ bR25
    refine anyH_cut 28 #[true, true, true, true, true, true, true, true, true, true, true, true, true, true, true, true, true, true, true, true, true, true, true, true, true, true, true, true, true, true, true, true, true, true, false, false, false, false, false, false, false, false, false, false, false, false, false, false, false, false, false, false, false, false, false, false, false, false, false, false, false, false] (fun a z => ∃ y13 y14 y15 y16 y17 y18 y19 y20 y21 y22 y23 y24 y25 y26 y27 y28 y29 y30 y31 y32 y33 y34 y35 y36 y37 y38 y39 y40 y41 y42 y43 y44 y45 : Value, a = ⟨#[.bool false, .pointer (some ⟨w.heap.size, 0, none⟩), .slice (some ⟨Ba, 0, none⟩) 1 1, .slice (some ⟨Bb, 0, none⟩) 1 1, u4, u5, u6, u7, u8, u9, u10, u11, u12, y13, y14, y15, y16, y17, y18, y19, y20, y21, y22, y23, y24, y25, y26, y27, y28, y29, y30, y31, y32, y33, y34, y35, y36, y37, y38, y39, y40, y41, y42, y43, y44, y45, .bool true, u47, u48, u49, u50, u51, u52, u53, u54, u55, u56, u57, u58, u59, u60, u61, u62, u63, u64, u65, u66, u67, u68, u69, u70, u71, u72, u73], []⟩ ∧ Hid (Below wc.heap.size wc z)) ?_ ?_
    rotate_left
    · intro REST
      refine take_ok (i := 25) (d := 38) (v := ?_) rfl rfl (by kernel_rfl) (by kernel_rfl) (by kernel_rfl) (fun _ _ _ h => h) (Or.inl ⟨by rfl, ?_⟩) (by assumption) ?_
      rotate_left
      · intro w9 hSw
        try dsimp only at hSw
        first | (go_simp; done) | (go_simp; with_reducible rfl)
      try simp only [Act.put, List.setIfInBounds_toArray, List.set_cons_zero, List.set_cons_succ]
      refine take_ok (i := 26) (d := 39) (v := ?_) rfl rfl (by kernel_rfl) (by kernel_rfl) (by kernel_rfl) (fun _ _ _ h => h) (Or.inl ⟨by rfl, ?_⟩) (by assumption) ?_
      rotate_left
      · intro w9 hSw
        try dsimp only at hSw
        first | (go_simp; done) | (go_simp; with_reducible rfl)
      try simp only [Act.put, List.setIfInBounds_toArray, List.set_cons_zero, List.set_cons_succ]
      refine take_ok (i := 29) (d := 42) (v := ?_) rfl rfl (by kernel_rfl) (by kernel_rfl) (by kernel_rfl) (fun _ _ _ h => h) (Or.inl ⟨by rfl, ?_⟩) (by assumption) ?_
      rotate_left
      · intro w9 hSw
        try dsimp only at hSw
        first | (go_simp; done) | (go_simp; with_reducible rfl)
      try simp only [Act.put, List.setIfInBounds_toArray, List.set_cons_zero, List.set_cons_succ]
      refine wpAnyH_ready (rs := [27, 30]) (by kernel_rfl) (by simp) ?_
      refine AllReadyH.cons rfl (fun K hK => ?_) (AllReadyH.cons rfl (fun K hK => ?_) AllReadyH.nil)
      · go_simp
        have l25 := two_new (HPA.out _ bR25) (HPB.out _ bR25) 30
        have c25 := alloc_below zR25 (.cells #[(.slice (some ⟨Ba, 0, none⟩) 1 1), (.slice (some ⟨Bb, 0, none⟩) 1 1)] 30)
        generalize zR25.alloc (.cells #[(.slice (some ⟨Ba, 0, none⟩) 1 1), (.slice (some ⟨Bb, 0, none⟩) 1 1)] 30) = z25 at l25 c25 ⊢
        generalize (Value.slice (some ⟨zR25.heap.size, 0, none⟩) 2 2) = v25 at l25 ⊢
        have b25 : Below wc.heap.size wc z25 := bn bR25 c25
        refine hK.out _ _ (HS.out _ b25) (fun hHeld => ?_)
        clear hK K
        try simp only [Act.put, List.setIfInBounds_toArray, List.set_cons_zero, List.set_cons_succ]
        refine wpAnyH_ready (rs := [28, 30]) (by kernel_rfl) (by simp) ?_
        refine AllReadyH.cons rfl (fun K hK => ?_) (AllReadyH.cons rfl (fun K hK => ?_) AllReadyH.nil)
        · go_simp
          refine (por_c _ _ _ (l25.below (Below.refl _ _)) HSM.out HOK.out).mono ?_
          rintro e z26 ⟨v26, rfl, r26, c26⟩
          rw [HOR.out] at r26
          have l26 := r26.rd
          have b26 : Below wc.heap.size wc z26 := bn b25 c26
          refine hK.out _ _ (HS.out _ b26) (fun hHeld => ?_)
          clear hK K
          try simp only [Act.put, List.setIfInBounds_toArray, List.set_cons_zero, List.set_cons_succ]
          refine wpAnyH_ready (rs := [30]) (by kernel_rfl) (by simp) ?_
          refine AllReadyH.cons rfl (fun K hK => ?_) AllReadyH.nil
          go_simp
          have l27 := key_new z26 1 2
          have c27 := alloc_below z26 (.cells #[.int .i64 1, .int .i64 2] 34)
          generalize z26.alloc (.cells #[.int .i64 1, .int .i64 2] 34) = z27 at l27 c27 ⊢
          generalize (Value.slice (some ⟨z26.heap.size, 0, none⟩) 1 1) = v27 at l27 ⊢
          have b27 : Below wc.heap.size wc z27 := bn b26 c27
          refine hK.out _ _ (HS.out _ b27) (fun hHeld => ?_)
          clear hK K
          try simp only [Act.put, List.setIfInBounds_toArray, List.set_cons_zero, List.set_cons_succ]
          refine wpAnyH_ready (rs := [31]) (by kernel_rfl) (by simp) ?_
          refine AllReadyH.cons rfl (fun K hK => ?_) AllReadyH.nil
          go_simp
          refine (samek_c [(1, 2)] _ _ _ (l26.below c27) (l27.below (Below.refl _ _)) (by simp)).mono ?_
          rintro e z28 ⟨rfl, c28⟩
          have b28 : Below wc.heap.size wc z28 := bn b27 c28
          refine hK.out _ _ (HS.out _ b28) (fun hHeld => ?_)
          clear hK K
          try simp only [Act.put, List.setIfInBounds_toArray, List.set_cons_zero, List.set_cons_succ]
          refine take_ok (i := 32) (d := 45) (v := ?_) rfl rfl (by kernel_rfl) (by kernel_rfl) (by kernel_rfl) (fun _ _ _ h => h) (Or.inl ⟨by rfl, ?_⟩) (by assumption) ?_
          rotate_left
          · intro w9 hSw
            try dsimp only at hSw
            first | (go_simp; done) | (go_simp; with_reducible rfl)
          try simp only [Act.put, List.setIfInBounds_toArray, List.set_cons_zero, List.set_cons_succ]
          refine take_ok (i := 33) (d := 46) (v := ?_) rfl rfl (by kernel_rfl) (by kernel_rfl) (by kernel_rfl) (fun _ _ _ h => h) (Or.inl ⟨by rfl, ?_⟩) (by assumption) ?_
          rotate_left
          · intro w9 hSw
            try dsimp only at hSw
            first | (go_simp; done) | (go_simp; with_reducible rfl)
          try simp only [Act.put, List.setIfInBounds_toArray, List.set_cons_zero, List.set_cons_succ]
          exact REST _ _ _ (by kernel_rfl) ⟨_, _, _, _, _, _, _, _, _, _, _, _, _, _, _, _, _, _, _, _, _, _, _, _, _, _, _, _, _, _, _, _, _, rfl, Lib.hid b28⟩
        · go_simp
          have l29 := key_new z25 1 2
          have c29 := alloc_below z25 (.cells #[.int .i64 1, .int .i64 2] 34)
          generalize z25.alloc (.cells #[.int .i64 1, .int .i64 2] 34) = z29 at l29 c29 ⊢
          generalize (Value.slice (some ⟨z25.heap.size, 0, none⟩) 1 1) = v29 at l29 ⊢
          have b29 : Below wc.heap.size wc z29 := bn b25 c29
          refine hK.out _ _ (HS.out _ b29) (fun hHeld => ?_)
          clear hK K
          try simp only [Act.put, List.setIfInBounds_toArray, List.set_cons_zero, List.set_cons_succ]
          refine wpAnyH_ready (rs := [28]) (by kernel_rfl) (by simp) ?_
          refine AllReadyH.cons rfl (fun K hK => ?_) AllReadyH.nil
          go_simp
          refine (por_c _ _ _ (l25.below c29) HSM.out HOK.out).mono ?_
          rintro e z30 ⟨v30, rfl, r30, c30⟩
          rw [HOR.out] at r30
          have l30 := r30.rd
          have b30 : Below wc.heap.size wc z30 := bn b29 c30
          refine hK.out _ _ (HS.out _ b30) (fun hHeld => ?_)
          clear hK K
          try simp only [Act.put, List.setIfInBounds_toArray, List.set_cons_zero, List.set_cons_succ]
          refine wpAnyH_ready (rs := [31]) (by kernel_rfl) (by simp) ?_
          refine AllReadyH.cons rfl (fun K hK => ?_) AllReadyH.nil
          go_simp
          refine (samek_c [(1, 2)] _ _ _ (l30.below (Below.refl _ _)) (l29.below c30) (by simp)).mono ?_
          rintro e z31 ⟨rfl, c31⟩
          have b31 : Below wc.heap.size wc z31 := bn b30 c31
          refine hK.out _ _ (HS.out _ b31) (fun hHeld => ?_)
          clear hK K
          try simp only [Act.put, List.setIfInBounds_toArray, List.set_cons_zero, List.set_cons_succ]
          refine take_ok (i := 32) (d := 45) (v := ?_) rfl rfl (by kernel_rfl) (by kernel_rfl) (by kernel_rfl) (fun _ _ _ h => h) (Or.inl ⟨by rfl, ?_⟩) (by assumption) ?_
          rotate_left
          · intro w9 hSw
            try dsimp only at hSw
            first | (go_simp; done) | (go_simp; with_reducible rfl)
          try simp only [Act.put, List.setIfInBounds_toArray, List.set_cons_zero, List.set_cons_succ]
          refine take_ok (i := 33) (d := 46) (v := ?_) rfl rfl (by kernel_rfl) (by kernel_rfl) (by kernel_rfl) (fun _ _ _ h => h) (Or.inl ⟨by rfl, ?_⟩) (by assumption) ?_
          rotate_left
          · intro w9 hSw
            try dsimp only at hSw
            first | (go_simp; done) | (go_simp; with_reducible rfl)
          try simp only [Act.put, List.setIfInBounds_toArray, List.set_cons_zero, List.set_cons_succ]
          exact REST _ _ _ (by kernel_rfl) ⟨_, _, _, _, _, _, _, _, _, _, _, _, _, _, _, _, _, _, _, _, _, _, _, _, _, _, _, _, _, _, _, _, _, rfl, Lib.hid b31⟩
      · go_simp
        have l32 := key_new zR25 1 2
        have c32 := alloc_below zR25 (.cells #[.int .i64 1, .int .i64 2] 34)
        generalize zR25.alloc (.cells #[.int .i64 1, .int .i64 2] 34) = z32 at l32 c32 ⊢
        generalize (Value.slice (some ⟨zR25.heap.size, 0, none⟩) 1 1) = v32 at l32 ⊢
        have b32 : Below wc.heap.size wc z32 := bn bR25 c32
        refine hK.out _ _ (HS.out _ b32) (fun hHeld => ?_)
        clear hK K
        try simp only [Act.put, List.setIfInBounds_toArray, List.set_cons_zero, List.set_cons_succ]
        refine wpAnyH_ready (rs := [27]) (by kernel_rfl) (by simp) ?_
        refine AllReadyH.cons rfl (fun K hK => ?_) AllReadyH.nil
        go_simp
        have l33 := two_new (HPA.out _ b32) (HPB.out _ b32) 30
        have c33 := alloc_below z32 (.cells #[(.slice (some ⟨Ba, 0, none⟩) 1 1), (.slice (some ⟨Bb, 0, none⟩) 1 1)] 30)
        generalize z32.alloc (.cells #[(.slice (some ⟨Ba, 0, none⟩) 1 1), (.slice (some ⟨Bb, 0, none⟩) 1 1)] 30) = z33 at l33 c33 ⊢
        generalize (Value.slice (some ⟨z32.heap.size, 0, none⟩) 2 2) = v33 at l33 ⊢
        have b33 : Below wc.heap.size wc z33 := bn b32 c33
        refine hK.out _ _ (HS.out _ b33) (fun hHeld => ?_)
        clear hK K
        try simp only [Act.put, List.setIfInBounds_toArray, List.set_cons_zero, List.set_cons_succ]
        refine wpAnyH_ready (rs := [28]) (by kernel_rfl) (by simp) ?_
        refine AllReadyH.cons rfl (fun K hK => ?_) AllReadyH.nil
        go_simp
        refine (por_c _ _ _ (l33.below (Below.refl _ _)) HSM.out HOK.out).mono ?_
        rintro e z34 ⟨v34, rfl, r34, c34⟩
        rw [HOR.out] at r34
        have l34 := r34.rd
        have b34 : Below wc.heap.size wc z34 := bn b33 c34
        refine hK.out _ _ (HS.out _ b34) (fun hHeld => ?_)
        clear hK K
        try simp only [Act.put, List.setIfInBounds_toArray, List.set_cons_zero, List.set_cons_succ]
        refine wpAnyH_ready (rs := [31]) (by kernel_rfl) (by simp) ?_
        refine AllReadyH.cons rfl (fun K hK => ?_) AllReadyH.nil
        go_simp
        refine (samek_c [(1, 2)] _ _ _ (l34.below (Below.refl _ _)) (l32.below (bn c33 c34)) (by simp)).mono ?_
        rintro e z35 ⟨rfl, c35⟩
        have b35 : Below wc.heap.size wc z35 := bn b34 c35
        refine hK.out _ _ (HS.out _ b35) (fun hHeld => ?_)
        clear hK K
        try simp only [Act.put, List.setIfInBounds_toArray, List.set_cons_zero, List.set_cons_succ]
        refine take_ok (i := 32) (d := 45) (v := ?_) rfl rfl (by kernel_rfl) (by kernel_rfl) (by kernel_rfl) (fun _ _ _ h => h) (Or.inl ⟨by rfl, ?_⟩) (by assumption) ?_
        rotate_left
        · intro w9 hSw
          try dsimp only at hSw
          first | (go_simp; done) | (go_simp; with_reducible rfl)
        try simp only [Act.put, List.setIfInBounds_toArray, List.set_cons_zero, List.set_cons_succ]
        refine take_ok (i := 33) (d := 46) (v := ?_) rfl rfl (by kernel_rfl) (by kernel_rfl) (by kernel_rfl) (fun _ _ _ h => h) (Or.inl ⟨by rfl, ?_⟩) (by assumption) ?_
        rotate_left
        · intro w9 hSw
          try dsimp only at hSw
          first | (go_simp; done) | (go_simp; with_reducible rfl)
        try simp only [Act.put, List.setIfInBounds_toArray, List.set_cons_zero, List.set_cons_succ]
        exact REST _ _ _ (by kernel_rfl) ⟨_, _, _, _, _, _, _, _, _, _, _, _, _, _, _, _, _, _, _, _, _, _, _, _, _, _, _, _, _, _, _, _, _, rfl, Lib.hid b35⟩
    rintro a zR34 ⟨y13, y14, y15, y16, y17, y18, y19, y20, y21, y22, y23, y24, y25, y26, y27, y28, y29, y30, y31, y32, y33, y34, y35, y36, y37, y38, y39, y40, y41, y42, y43, y44, y45, rfl, HZR34⟩
    have bR34 := HZR34.out
    have hHeld := HS.out _ bR34
    refine anyH_cut 15 #[true, true, true, true, true, true, true, true, true, true, true, true, true, true, true, true, true, true, true, true, true, true, true, true, true, true, true, true, true, true, true, true, true, true, true, true, true, true, true, true, true, true, true, true, true, true, true, false, false, false, false, false, false, false, false, false, false, false, false, false, false, false] (fun a z => ∃ y13 y14 y15 y16 y17 y18 y19 y20 y21 y22 y23 y24 y25 y26 y27 y28 y29 y30 y31 y32 y33 y34 y35 y36 y37 y38 y39 y40 y41 y42 y43 y44 y45 y46 y47 y48 y49 y50 y51 y52 y53 y54 y55 y56 y57 y58 : Value, a = ⟨#[.bool false, .pointer (some ⟨w.heap.size, 0, none⟩), .slice (some ⟨Ba, 0, none⟩) 1 1, .slice (some ⟨Bb, 0, none⟩) 1 1, u4, u5, u6, u7, u8, u9, u10, u11, u12, y13, y14, y15, y16, y17, y18, y19, y20, y21, y22, y23, y24, y25, y26, y27, y28, y29, y30, y31, y32, y33, y34, y35, y36, y37, y38, y39, y40, y41, y42, y43, y44, y45, y46, y47, y48, y49, y50, y51, y52, y53, y54, y55, y56, y57, y58, .bool true, u60, u61, u62, u63, u64, u65, u66, u67, u68, u69, u70, u71, u72, u73], []⟩ ∧ Hid (Below wc.heap.size wc z)) ?_ ?_
    rotate_left
    · intro REST
      refine take_ok (i := 34) (d := 47) (v := ?_) rfl rfl (by kernel_rfl) (by kernel_rfl) (by kernel_rfl) (fun _ _ _ h => h) (Or.inl ⟨by rfl, ?_⟩) (by assumption) ?_
      rotate_left
      · intro w9 hSw
        try dsimp only at hSw
        first | (go_simp; done) | (go_simp; with_reducible rfl)
      try simp only [Act.put, List.setIfInBounds_toArray, List.set_cons_zero, List.set_cons_succ]
      refine wpAnyH_ready (rs := [35]) (by kernel_rfl) (by simp) ?_
      refine AllReadyH.cons rfl (fun K hK => ?_) AllReadyH.nil
      go_simp
      refine (pmay_c _ _ _ (HPA.out _ bR34) (by simp) (by simp)).mono ?_
      rw [HMA.out]
      rintro e z36 ⟨rfl, c36⟩
      have b36 : Below wc.heap.size wc z36 := bn bR34 c36
      refine hK.out _ _ (HS.out _ b36) (fun hHeld => ?_)
      clear hK K
      try simp only [Act.put, List.setIfInBounds_toArray, List.set_cons_zero, List.set_cons_succ]
      refine take_ok (i := 36) (d := 49) (v := ?_) rfl rfl (by kernel_rfl) (by kernel_rfl) (by kernel_rfl) (fun _ _ _ h => h) (Or.inl ⟨by rfl, ?_⟩) (by assumption) ?_
      rotate_left
      · intro w9 hSw
        try dsimp only at hSw
        first | (go_simp; done) | (go_simp; with_reducible rfl)
      try simp only [Act.put, List.setIfInBounds_toArray, List.set_cons_zero, List.set_cons_succ]
      refine take_ok (i := 37) (d := 50) (v := ?_) rfl rfl (by kernel_rfl) (by kernel_rfl) (by kernel_rfl) (fun _ _ _ h => h) (Or.inl ⟨by rfl, ?_⟩) (by assumption) ?_
      rotate_left
      · intro w9 hSw
        try dsimp only at hSw
        first | (go_simp; done) | (go_simp; with_reducible rfl)
      try simp only [Act.put, List.setIfInBounds_toArray, List.set_cons_zero, List.set_cons_succ]
      refine take_ok (i := 38) (d := 51) (v := ?_) rfl rfl (by kernel_rfl) (by kernel_rfl) (by kernel_rfl) (fun _ _ _ h => h) (Or.inl ⟨by rfl, ?_⟩) (by assumption) ?_
      rotate_left
      · intro w9 hSw
        try dsimp only at hSw
        first | (go_simp; done) | (go_simp; with_reducible rfl)
      try simp only [Act.put, List.setIfInBounds_toArray, List.set_cons_zero, List.set_cons_succ]
      refine take_ok (i := 40) (d := 53) (v := ?_) rfl rfl (by kernel_rfl) (by kernel_rfl) (by kernel_rfl) (fun _ _ _ h => h) (Or.inl ⟨by rfl, ?_⟩) (by assumption) ?_
      rotate_left
      · intro w9 hSw
        try dsimp only at hSw
        first | (go_simp; done) | (go_simp; with_reducible rfl)
      try simp only [Act.put, List.setIfInBounds_toArray, List.set_cons_zero, List.set_cons_succ]
      refine wpAnyH_ready (rs := [39, 41]) (by kernel_rfl) (by simp) ?_
      refine AllReadyH.cons rfl (fun K hK => ?_) (AllReadyH.cons rfl (fun K hK => ?_) AllReadyH.nil)
      · go_simp
        have l37 := key_new z36 1 2
        have c37 := alloc_below z36 (.cells #[.int .i64 1, .int .i64 2] 34)
        generalize z36.alloc (.cells #[.int .i64 1, .int .i64 2] 34) = z37 at l37 c37 ⊢
        generalize (Value.slice (some ⟨z36.heap.size, 0, none⟩) 1 1) = v37 at l37 ⊢
        have b37 : Below wc.heap.size wc z37 := bn b36 c37
        refine hK.out _ _ (HS.out _ b37) (fun hHeld => ?_)
        clear hK K
        try simp only [Act.put, List.setIfInBounds_toArray, List.set_cons_zero, List.set_cons_succ]
        refine wpAnyH_ready (rs := [41]) (by kernel_rfl) (by simp) ?_
        refine AllReadyH.cons rfl (fun K hK => ?_) AllReadyH.nil
        go_simp
        have l38 := key_new z37 1 2
        have c38 := alloc_below z37 (.cells #[.int .i64 1, .int .i64 2] 34)
        generalize z37.alloc (.cells #[.int .i64 1, .int .i64 2] 34) = z38 at l38 c38 ⊢
        generalize (Value.slice (some ⟨z37.heap.size, 0, none⟩) 1 1) = v38 at l38 ⊢
        have b38 : Below wc.heap.size wc z38 := bn b37 c38
        refine hK.out _ _ (HS.out _ b38) (fun hHeld => ?_)
        clear hK K
        try simp only [Act.put, List.setIfInBounds_toArray, List.set_cons_zero, List.set_cons_succ]
        refine wpAnyH_ready (rs := [42]) (by kernel_rfl) (by simp) ?_
        refine AllReadyH.cons rfl (fun K hK => ?_) AllReadyH.nil
        go_simp
        refine (pless_c [(1, 2)] [(1, 2)] _ _ _ (l37.below c38) (l38.below (Below.refl _ _)) (by simp) (by simp) HKY.out HKY.out).mono ?_
        rintro e z39 ⟨v39, rfl, r39, c39⟩
        rw [HLE.out] at r39
        obtain ⟨A39, C39, e39, _⟩ := own_form r39
        simp only [List.length_nil] at e39
        subst e39
        clear r39
        have b39 : Below wc.heap.size wc z39 := bn b38 c39
        refine hK.out _ _ (HS.out _ b39) (fun hHeld => ?_)
        clear hK K
        try simp only [Act.put, List.setIfInBounds_toArray, List.set_cons_zero, List.set_cons_succ]
        refine take_ok (i := 43) (d := 56) (v := ?_) rfl rfl (by kernel_rfl) (by kernel_rfl) (by kernel_rfl) (fun _ _ _ h => h) (Or.inl ⟨by rfl, ?_⟩) (by assumption) ?_
        rotate_left
        · intro w9 hSw
          try dsimp only at hSw
          first | (go_simp; done) | (go_simp; with_reducible rfl)
        try simp only [Act.put, List.setIfInBounds_toArray, List.set_cons_zero, List.set_cons_succ]
        refine take_ok (i := 44) (d := 57) (v := ?_) rfl rfl (by kernel_rfl) (by kernel_rfl) (by kernel_rfl) (fun _ _ _ h => h) (Or.inl ⟨by rfl, ?_⟩) (by assumption) ?_
        rotate_left
        · intro w9 hSw
          try dsimp only at hSw
          first | (go_simp; done) | (go_simp; with_reducible rfl)
        try simp only [Act.put, List.setIfInBounds_toArray, List.set_cons_zero, List.set_cons_succ]
        refine take_ok (i := 45) (d := 58) (v := ?_) rfl rfl (by kernel_rfl) (by kernel_rfl) (by kernel_rfl) (fun _ _ _ h => h) (Or.inl ⟨by rfl, ?_⟩) (by assumption) ?_
        rotate_left
        · intro w9 hSw
          try dsimp only at hSw
          first | (go_simp; done) | (go_simp; with_reducible rfl)
        try simp only [Act.put, List.setIfInBounds_toArray, List.set_cons_zero, List.set_cons_succ]
        refine take_ok (i := 46) (d := 59) (v := ?_) rfl rfl (by kernel_rfl) (by kernel_rfl) (by kernel_rfl) (fun _ _ _ h => h) (Or.inl ⟨by rfl, ?_⟩) (by assumption) ?_
        rotate_left
        · intro w9 hSw
          try dsimp only at hSw
          first | (go_simp; done) | (go_simp; with_reducible rfl)
        try simp only [Act.put, List.setIfInBounds_toArray, List.set_cons_zero, List.set_cons_succ]
        exact REST _ _ _ (by kernel_rfl) ⟨_, _, _, _, _, _, _, _, _, _, _, _, _, _, _, _, _, _, _, _, _, _, _, _, _, _, _, _, _, _, _, _, _, _, _, _, _, _, _, _, _, _, _, _, _, _, rfl, Lib.hid b39⟩
      · go_simp
        have l40 := key_new z36 1 2
        have c40 := alloc_below z36 (.cells #[.int .i64 1, .int .i64 2] 34)
        generalize z36.alloc (.cells #[.int .i64 1, .int .i64 2] 34) = z40 at l40 c40 ⊢
        generalize (Value.slice (some ⟨z36.heap.size, 0, none⟩) 1 1) = v40 at l40 ⊢
        have b40 : Below wc.heap.size wc z40 := bn b36 c40
        refine hK.out _ _ (HS.out _ b40) (fun hHeld => ?_)
        clear hK K
        try simp only [Act.put, List.setIfInBounds_toArray, List.set_cons_zero, List.set_cons_succ]
        refine wpAnyH_ready (rs := [39]) (by kernel_rfl) (by simp) ?_
        refine AllReadyH.cons rfl (fun K hK => ?_) AllReadyH.nil
        go_simp
        have l41 := key_new z40 1 2
        have c41 := alloc_below z40 (.cells #[.int .i64 1, .int .i64 2] 34)
        generalize z40.alloc (.cells #[.int .i64 1, .int .i64 2] 34) = z41 at l41 c41 ⊢
        generalize (Value.slice (some ⟨z40.heap.size, 0, none⟩) 1 1) = v41 at l41 ⊢
        have b41 : Below wc.heap.size wc z41 := bn b40 c41
        refine hK.out _ _ (HS.out _ b41) (fun hHeld => ?_)
        clear hK K
        try simp only [Act.put, List.setIfInBounds_toArray, List.set_cons_zero, List.set_cons_succ]
        refine wpAnyH_ready (rs := [42]) (by kernel_rfl) (by simp) ?_
        refine AllReadyH.cons rfl (fun K hK => ?_) AllReadyH.nil
        go_simp
        refine (pless_c [(1, 2)] [(1, 2)] _ _ _ (l41.below (Below.refl _ _)) (l40.below c41) (by simp) (by simp) HKY.out HKY.out).mono ?_
        rintro e z42 ⟨v42, rfl, r42, c42⟩
        rw [HLE.out] at r42
        obtain ⟨A42, C42, e42, _⟩ := own_form r42
        simp only [List.length_nil] at e42
        subst e42
        clear r42
        have b42 : Below wc.heap.size wc z42 := bn b41 c42
        refine hK.out _ _ (HS.out _ b42) (fun hHeld => ?_)
        clear hK K
        try simp only [Act.put, List.setIfInBounds_toArray, List.set_cons_zero, List.set_cons_succ]
        refine take_ok (i := 43) (d := 56) (v := ?_) rfl rfl (by kernel_rfl) (by kernel_rfl) (by kernel_rfl) (fun _ _ _ h => h) (Or.inl ⟨by rfl, ?_⟩) (by assumption) ?_
        rotate_left
        · intro w9 hSw
          try dsimp only at hSw
          first | (go_simp; done) | (go_simp; with_reducible rfl)
        try simp only [Act.put, List.setIfInBounds_toArray, List.set_cons_zero, List.set_cons_succ]
        refine take_ok (i := 44) (d := 57) (v := ?_) rfl rfl (by kernel_rfl) (by kernel_rfl) (by kernel_rfl) (fun _ _ _ h => h) (Or.inl ⟨by rfl, ?_⟩) (by assumption) ?_
        rotate_left
        · intro w9 hSw
          try dsimp only at hSw
          first | (go_simp; done) | (go_simp; with_reducible rfl)
        try simp only [Act.put, List.setIfInBounds_toArray, List.set_cons_zero, List.set_cons_succ]
        refine take_ok (i := 45) (d := 58) (v := ?_) rfl rfl (by kernel_rfl) (by kernel_rfl) (by kernel_rfl) (fun _ _ _ h => h) (Or.inl ⟨by rfl, ?_⟩) (by assumption) ?_
        rotate_left
        · intro w9 hSw
          try dsimp only at hSw
          first | (go_simp; done) | (go_simp; with_reducible rfl)
        try simp only [Act.put, List.setIfInBounds_toArray, List.set_cons_zero, List.set_cons_succ]
        refine take_ok (i := 46) (d := 59) (v := ?_) rfl rfl (by kernel_rfl) (by kernel_rfl) (by kernel_rfl) (fun _ _ _ h => h) (Or.inl ⟨by rfl, ?_⟩) (by assumption) ?_
        rotate_left
        · intro w9 hSw
          try dsimp only at hSw
          first | (go_simp; done) | (go_simp; with_reducible rfl)
        try simp only [Act.put, List.setIfInBounds_toArray, List.set_cons_zero, List.set_cons_succ]
        exact REST _ _ _ (by kernel_rfl) ⟨_, _, _, _, _, _, _, _, _, _, _, _, _, _, _, _, _, _, _, _, _, _, _, _, _, _, _, _, _, _, _, _, _, _, _, _, _, _, _, _, _, _, _, _, _, _, rfl, Lib.hid b42⟩
    rintro a zR47 ⟨y13, y14, y15, y16, y17, y18, y19, y20, y21, y22, y23, y24, y25, y26, y27, y28, y29, y30, y31, y32, y33, y34, y35, y36, y37, y38, y39, y40, y41, y42, y43, y44, y45, y46, y47, y48, y49, y50, y51, y52, y53, y54, y55, y56, y57, y58, rfl, HZR47⟩
    have bR47 := HZR47.out
    have hHeld := HS.out _ bR47
    refine take_ok (i := 47) (d := 60) (v := ?_) rfl rfl (by kernel_rfl) (by kernel_rfl) (by kernel_rfl) (fun _ _ _ h => h) (Or.inl ⟨by rfl, ?_⟩) (by assumption) ?_
    rotate_left
    · intro w9 hSw
      try dsimp only at hSw
      first | (go_simp; done) | (go_simp; with_reducible rfl)
    try simp only [Act.put, List.setIfInBounds_toArray, List.set_cons_zero, List.set_cons_succ]
    refine take_ok (i := 48) (d := 61) (v := ?_) rfl rfl (by kernel_rfl) (by kernel_rfl) (by kernel_rfl) (fun _ _ _ h => h) (Or.inl ⟨by rfl, ?_⟩) (by assumption) ?_
    rotate_left
    · intro w9 hSw
      try dsimp only at hSw
      first | (go_simp; done) | (go_simp; with_reducible rfl)
    try simp only [Act.put, List.setIfInBounds_toArray, List.set_cons_zero, List.set_cons_succ]
    refine take_ok (i := 49) (d := 62) (v := ?_) rfl rfl (by kernel_rfl) (by kernel_rfl) (by kernel_rfl) (fun _ _ _ h => h) (Or.inl ⟨by rfl, ?_⟩) (by assumption) ?_
    rotate_left
    · intro w9 hSw
      try dsimp only at hSw
      first | (go_simp; done) | (go_simp; with_reducible rfl)
    try simp only [Act.put, List.setIfInBounds_toArray, List.set_cons_zero, List.set_cons_succ]
    refine wpAnyH_ready (rs := [50]) (by kernel_rfl) (by simp) ?_
    refine AllReadyH.cons rfl (fun K hK => ?_) AllReadyH.nil
    go_simp
    refine (pput_c [] 1 2 _ [0, 3] _ _ (prd_none _) (nl_bx2 (HA2.out.below (by first | exact bR47 | exact bR47.drew))) (by simp) (by simp) (by simp)).mono ?_
    rintro e z43 ⟨v43, q43, rfl, r43, s43, c43⟩
    obtain ⟨A43, C43, e43⟩ := r43.form
    rw [HPU.out _ s43] at e43
    subst e43
    clear r43 s43
    have b43 : Below wc.heap.size wc z43 := bn bR47 c43
    refine hK.out _ _ (HS.out _ b43) (fun hHeld => ?_)
    clear hK K
    try simp only [Act.put, List.setIfInBounds_toArray, List.set_cons_zero, List.set_cons_succ]
    refine take_ok (i := 51) (d := 64) (v := ?_) rfl rfl (by kernel_rfl) (by kernel_rfl) (by kernel_rfl) (fun _ _ _ h => h) (Or.inl ⟨by rfl, ?_⟩) (by assumption) ?_
    rotate_left
    · intro w9 hSw
      try dsimp only at hSw
      first | (go_simp; done) | (go_simp; with_reducible rfl)
    try simp only [Act.put, List.setIfInBounds_toArray, List.set_cons_zero, List.set_cons_succ]
    refine take_ok (i := 52) (d := 65) (v := ?_) rfl rfl (by kernel_rfl) (by kernel_rfl) (by kernel_rfl) (fun _ _ _ h => h) (Or.inl ⟨by rfl, ?_⟩) (by assumption) ?_
    rotate_left
    · intro w9 hSw
      try dsimp only at hSw
      first | (go_simp; done) | (go_simp; with_reducible rfl)
    try simp only [Act.put, List.setIfInBounds_toArray, List.set_cons_zero, List.set_cons_succ]
    refine take_ok (i := 53) (d := 66) (v := ?_) rfl rfl (by kernel_rfl) (by kernel_rfl) (by kernel_rfl) (fun _ _ _ h => h) (Or.inl ⟨by rfl, ?_⟩) (by assumption) ?_
    rotate_left
    · intro w9 hSw
      try dsimp only at hSw
      first | (go_simp; done) | (go_simp; with_reducible rfl)
    try simp only [Act.put, List.setIfInBounds_toArray, List.set_cons_zero, List.set_cons_succ]
    refine take_ok (i := 54) (d := 67) (v := ?_) rfl rfl (by kernel_rfl) (by kernel_rfl) (by kernel_rfl) (fun _ _ _ h => h) (Or.inl ⟨by rfl, ?_⟩) (by assumption) ?_
    rotate_left
    · intro w9 hSw
      try dsimp only at hSw
      first | (go_simp; done) | (go_simp; with_reducible rfl)
    try simp only [Act.put, List.setIfInBounds_toArray, List.set_cons_zero, List.set_cons_succ]
    refine take_ok (i := 55) (d := 68) (v := ?_) rfl rfl (by kernel_rfl) (by kernel_rfl) (by kernel_rfl) (fun _ _ _ h => h) (Or.inl ⟨by rfl, ?_⟩) (by assumption) ?_
    rotate_left
    · intro w9 hSw
      try dsimp only at hSw
      first | (go_simp; done) | (go_simp; with_reducible rfl)
    try simp only [Act.put, List.setIfInBounds_toArray, List.set_cons_zero, List.set_cons_succ]
    refine take_ok (i := 56) (d := 69) (v := ?_) rfl rfl (by kernel_rfl) (by kernel_rfl) (by kernel_rfl) (fun _ _ _ h => h) (Or.inl ⟨by rfl, ?_⟩) (by assumption) ?_
    rotate_left
    · intro w9 hSw
      try dsimp only at hSw
      first | (go_simp; done) | (go_simp; with_reducible rfl)
    try simp only [Act.put, List.setIfInBounds_toArray, List.set_cons_zero, List.set_cons_succ]
    refine wpAnyH_ready (rs := [57]) (by kernel_rfl) (by simp) ?_
    refine AllReadyH.cons rfl (fun K hK => ?_) AllReadyH.nil
    go_simp
    refine (pdrop_c _ 1 2 _ _ (HPA.out _ b43) (by simp) (by simp)).mono ?_
    rintro e z44 ⟨v44, q44, rfl, r44, s44, c44⟩
    obtain ⟨A44, C44, e44⟩ := r44.form
    rw [HDR.out _ s44] at e44
    subst e44
    clear r44 s44
    have b44 : Below wc.heap.size wc z44 := bn b43 c44
    refine hK.out _ _ (HS.out _ b44) (fun hHeld => ?_)
    clear hK K
    try simp only [Act.put, List.setIfInBounds_toArray, List.set_cons_zero, List.set_cons_succ]
    refine take_ok (i := 58) (d := 71) (v := ?_) rfl rfl (by kernel_rfl) (by kernel_rfl) (by kernel_rfl) (fun _ _ _ h => h) (Or.inl ⟨by rfl, ?_⟩) (by assumption) ?_
    rotate_left
    · intro w9 hSw
      try dsimp only at hSw
      first | (go_simp; done) | (go_simp; with_reducible rfl)
    try simp only [Act.put, List.setIfInBounds_toArray, List.set_cons_zero, List.set_cons_succ]
    refine take_ok (i := 59) (d := 72) (v := ?_) rfl rfl (by kernel_rfl) (by kernel_rfl) (by kernel_rfl) (fun _ _ _ h => h) (Or.inl ⟨by rfl, ?_⟩) (by assumption) ?_
    rotate_left
    · intro w9 hSw
      try dsimp only at hSw
      first | (go_simp; done) | (go_simp; with_reducible rfl)
    try simp only [Act.put, List.setIfInBounds_toArray, List.set_cons_zero, List.set_cons_succ]
    refine take_ok (i := 60) (d := 73) (v := ?_) rfl rfl (by kernel_rfl) (by kernel_rfl) (by kernel_rfl) (fun _ _ _ h => h) (Or.inl ⟨by rfl, ?_⟩) (by assumption) ?_
    rotate_left
    · intro w9 hSw
      try dsimp only at hSw
      first | (go_simp; done) | (go_simp; with_reducible rfl)
    try simp only [Act.put, List.setIfInBounds_toArray, List.set_cons_zero, List.set_cons_succ]
    refine take_ok (i := 61) (d := 0) (v := ?_) rfl rfl (by kernel_rfl) (by kernel_rfl) (by kernel_rfl) (fun _ _ _ h => h) (Or.inl ⟨by rfl, ?_⟩) (by assumption) ?_
    rotate_left
    · intro w9 hSw
      try dsimp only at hSw
      first | (go_simp; done) | (go_simp; with_reducible rfl)
    try simp only [Act.put, List.setIfInBounds_toArray, List.set_cons_zero, List.set_cons_succ]
    refine wpAnyH_done (by kernel_rfl) ?_ _
    go_wp2
    go_ret
    exact ⟨rfl, bn HB0.out b44⟩
end Go.Proofs.Ytgdajnjfkokmdaa
