/-
  Write by contract: what may not be written.
-/
import Derived.Test.YtjmkphnppegegaaGreatDoorPkLo
namespace Go.Proofs.YtjmkphnppegegaaGreatDoor
open Go.RowKit Go.Lib
set_option maxRecDepth 100000

theorem take_ok {P : Program} {ops : Array Oper} {Q : Exit → Act → World → Prop} {md : Region.Mode} {S : World → Prop} {i : Nat} {oi : Oper} {d : Nat} {v : Value} {fuel : Nat} {listed : Array Bool} {a : Act} {w : World} (hi : ops[i]? = some oi) (hd : oi.dst = some d)
    (hs : Region.noSelect ops = true) (hf : Region.free md ops listed i = true) (hr : (Region.ready md ops listed).contains i = true)
    (hQ : ∀ c a w, Q (.panic c) (a.put oi.dst v) w → Q (.panic c) a w) (hy : YieldsIf P ops S oi v a) (hS : S w)
    (h : wpAnyH P md ops Q S fuel (listed.setIfInBounds i true) (a.put (some d) v) w) : wpAnyH P md ops Q S (fuel + 1) listed a w :=
  wpAnyH_take hi hs hf hr hQ hy hS (by rw [hd]; exact h)
set_option maxHeartbeats 16000000 in
theorem write_no_c (w : World) (g p n : Nat) (k : Nat) (X z : Int) (d : En) (a b : Value) (vv ww : List Int) (c f : Value) (h : LB w g p n k X z) (ha : Nl w a d.v) (hb : Nl w b d.w) (hv : Nl w c vv) (hw : Nl w f ww) (hdl : d.v.length ≤ 1000000 ∧ d.w.length ≤ 1000000 ∧ d.r.t.size ≤ 9223372036854775807) (hvl : vv.length ≤ 1000000 ∧ ww.length ≤ 1000000) (hT : Tabs w) (hno : d.k = 1 ∨ mayE d n = false ∨ mayE (baseE vv ww) n = false) :
    Calls Tryz.prog 17 #[.pointer (some ⟨g, 0, none⟩), .agg #[.int .i64 d.k, a, b, .int .i64 d.r.o, .int .i64 d.r.s, .int .i64 d.r.w, .int .i64 d.r.c, .string d.r.t], c, f] w fun x w' => x = .returned (.int .i64 2) ∧ Below w.heap.size w w' := by
  obtain ⟨ad1, cap1, rfl, _⟩ := ha.form
  obtain ⟨ad2, cap2, rfl, _⟩ := hb.form
  obtain ⟨ad3, cap3, rfl, _⟩ := hv.form
  obtain ⟨ad4, cap4, rfl, _⟩ := hw.form
  obtain ⟨W2, hW2⟩ : ∃ W2, W2 = (w.alloc (.cells #[.int .i64 d.k, .slice ad1 d.v.length cap1, .slice ad2 d.w.length cap2, .int .i64 d.r.o, .int .i64 d.r.s, .int .i64 d.r.w, .int .i64 d.r.c, .string d.r.t] 43)).alloc (.cells #[.int .i64 1, .slice ad3 vv.length cap3, .slice ad4 ww.length cap4, .int .i64 0, .int .i64 0, .int .i64 0, .int .i64 0, .string ⟨#[]⟩] 43) := ⟨_, rfl⟩
  have HB2 : Hid (Below w.heap.size w W2) := Lib.hid (by rw [hW2]; exact bn (alloc_below _ _) (alloc_below _ _))
  have HX2 : Hid (Bx 43 W2 w.heap.size #[.int .i64 d.k, .slice ad1 d.v.length cap1, .slice ad2 d.w.length cap2, .int .i64 d.r.o, .int .i64 d.r.s, .int .i64 d.r.w, .int .i64 d.r.c, .string d.r.t]) := Lib.hid (by rw [hW2]; exact (Bx.new _ _ _).alloc _)
  have HY2 : Hid (Bx 43 W2 (w.heap.size + 1) #[.int .i64 1, .slice ad3 vv.length cap3, .slice ad4 ww.length cap4, .int .i64 0, .int .i64 0, .int .i64 0, .int .i64 0, .string ⟨#[]⟩]) := Lib.hid (by rw [hW2]; have := Bx.new 43 (w.alloc (.cells #[.int .i64 d.k, .slice ad1 d.v.length cap1, .slice ad2 d.w.length cap2, .int .i64 d.r.o, .int .i64 d.r.s, .int .i64 d.r.w, .int .i64 d.r.c, .string d.r.t] 43)) #[.int .i64 1, .slice ad3 vv.length cap3, .slice ad4 ww.length cap4, .int .i64 0, .int .i64 0, .int .i64 0, .int .i64 0, .string ⟨#[]⟩]; simpa using this)
  have HL2 : Hid (LB W2 g p n k X z) := Lib.hid (h.below HB2.out)
  have hg2 := HL2.out.lt
  have hx2 := HX2.out.lt
  have hy2 := HY2.out.lt
  have HS : Hid (∀ w' : World, Below W2.heap.size W2 w' → (w'.cell? ⟨g, 0, none⟩ = some (.pointer (some ⟨p, 0, none⟩)) ∧ w'.cell? ⟨g, 1, none⟩ = some (.int .i64 n) ∧ w'.cell? ⟨g, 2, none⟩ = some (.int .i64 k) ∧ w'.cell? ⟨g, 3, none⟩ = some (.int .i64 X) ∧ w'.cell? ⟨g, 4, none⟩ = some (.int .i64 z)) ∧ (w'.cell? ⟨w.heap.size, 0, none⟩ = some (.int .i64 d.k) ∧ w'.cell? ⟨w.heap.size, 1, none⟩ = some (.slice ad1 d.v.length cap1) ∧ w'.cell? ⟨w.heap.size, 2, none⟩ = some (.slice ad2 d.w.length cap2) ∧ w'.cell? ⟨w.heap.size, 3, none⟩ = some (.int .i64 d.r.o) ∧ w'.cell? ⟨w.heap.size, 4, none⟩ = some (.int .i64 d.r.s) ∧ w'.cell? ⟨w.heap.size, 5, none⟩ = some (.int .i64 d.r.w) ∧ w'.cell? ⟨w.heap.size, 6, none⟩ = some (.int .i64 d.r.c) ∧ w'.cell? ⟨w.heap.size, 7, none⟩ = some (.string d.r.t)) ∧ (w'.cell? ⟨w.heap.size + 1, 0, none⟩ = some (.int .i64 1) ∧ w'.cell? ⟨w.heap.size + 1, 1, none⟩ = some (.slice ad3 vv.length cap3) ∧ w'.cell? ⟨w.heap.size + 1, 2, none⟩ = some (.slice ad4 ww.length cap4) ∧ w'.cell? ⟨w.heap.size + 1, 3, none⟩ = some (.int .i64 0) ∧ w'.cell? ⟨w.heap.size + 1, 4, none⟩ = some (.int .i64 0) ∧ w'.cell? ⟨w.heap.size + 1, 5, none⟩ = some (.int .i64 0) ∧ w'.cell? ⟨w.heap.size + 1, 6, none⟩ = some (.int .i64 0) ∧ w'.cell? ⟨w.heap.size + 1, 7, none⟩ = some (.string ⟨#[]⟩))) := Lib.hid (fun w' hb => ⟨(HL2.out.below hb).cells, (HX2.out.below hb).eight, (HY2.out.below hb).eight⟩)
  have CM : Hid (∀ W, Below W2.heap.size W2 W → Calls Tryz.prog 35 #[.agg #[.int .i64 d.k, .slice ad1 d.v.length cap1, .slice ad2 d.w.length cap2, .int .i64 d.r.o, .int .i64 d.r.s, .int .i64 d.r.w, .int .i64 d.r.c, .string d.r.t], .int .i64 (n : Int)] W fun x w' => x = .returned (.bool (mayE d n)) ∧ Below W.heap.size W w') := Lib.hid (fun W hW => maye_c d _ _ n W (ha.below (bn HB2.out hW)) (hb.below (bn HB2.out hW)) hdl.1 hdl.2.1 hdl.2.2 (hT.below (bn HB2.out hW)))
  have CB : Hid (∀ W, Below W2.heap.size W2 W → Calls Tryz.prog 35 #[.agg #[.int .i64 1, .slice ad3 vv.length cap3, .slice ad4 ww.length cap4, .int .i64 0, .int .i64 0, .int .i64 0, .int .i64 0, .string ⟨#[]⟩], .int .i64 (n : Int)] W fun x w' => x = .returned (.bool (mayE (baseE vv ww) n)) ∧ Below W.heap.size W w') := Lib.hid (fun W hW => maye_c (baseE vv ww) _ _ n W (hv.below (bn HB2.out hW)) (hw.below (bn HB2.out hW)) hvl.1 hvl.2 (by show (0 : Nat) ≤ _; omega) (hT.below (bn HB2.out hW)))
  clear ha hb hv hw hT h
  by_cases hk : d.k = 1
  · have e1 : (d.k == 1) = true := by simpa using hk
    have hs2 := HS.out W2 (Below.refl _ _)
    obtain ⟨⟨c0, c1, c2, c3, c4⟩, ⟨p0, p1, p2, p3, p4, p5, p6, p7⟩, ⟨q0, q1, q2, q3, q4, q5, q6, q7⟩⟩ := hs2
    clear hk CM CB
    go_enter Tryz.func17, Tryz.ntmps17
    go_wp2_with fail
    rw [← hW2]
    clear hW2
    go_quiet (fail)
    go_wp2
    go_ret
    exact ⟨rfl, below_drewN HB2.out _⟩
  · have e1 : (d.k == 1) = false := by simpa using hk
    by_cases hm : mayE d n = false
    · rw [hm] at CM
      clear hk CB hm
      go_enter Tryz.func17, Tryz.ntmps17
      go_wp2_with fail
      rw [← hW2]
      clear hW2
      refine wp_region_held_drew (S := fun w' => (w'.cell? ⟨g, 0, none⟩ = some (.pointer (some ⟨p, 0, none⟩)) ∧ w'.cell? ⟨g, 1, none⟩ = some (.int .i64 n) ∧ w'.cell? ⟨g, 2, none⟩ = some (.int .i64 k) ∧ w'.cell? ⟨g, 3, none⟩ = some (.int .i64 X) ∧ w'.cell? ⟨g, 4, none⟩ = some (.int .i64 z)) ∧ (w'.cell? ⟨w.heap.size, 0, none⟩ = some (.int .i64 d.k) ∧ w'.cell? ⟨w.heap.size, 1, none⟩ = some (.slice ad1 d.v.length cap1) ∧ w'.cell? ⟨w.heap.size, 2, none⟩ = some (.slice ad2 d.w.length cap2) ∧ w'.cell? ⟨w.heap.size, 3, none⟩ = some (.int .i64 d.r.o) ∧ w'.cell? ⟨w.heap.size, 4, none⟩ = some (.int .i64 d.r.s) ∧ w'.cell? ⟨w.heap.size, 5, none⟩ = some (.int .i64 d.r.w) ∧ w'.cell? ⟨w.heap.size, 6, none⟩ = some (.int .i64 d.r.c) ∧ w'.cell? ⟨w.heap.size, 7, none⟩ = some (.string d.r.t)) ∧ (w'.cell? ⟨w.heap.size + 1, 0, none⟩ = some (.int .i64 1) ∧ w'.cell? ⟨w.heap.size + 1, 1, none⟩ = some (.slice ad3 vv.length cap3) ∧ w'.cell? ⟨w.heap.size + 1, 2, none⟩ = some (.slice ad4 ww.length cap4) ∧ w'.cell? ⟨w.heap.size + 1, 3, none⟩ = some (.int .i64 0) ∧ w'.cell? ⟨w.heap.size + 1, 4, none⟩ = some (.int .i64 0) ∧ w'.cell? ⟨w.heap.size + 1, 5, none⟩ = some (.int .i64 0) ∧ w'.cell? ⟨w.heap.size + 1, 6, none⟩ = some (.int .i64 0) ∧ w'.cell? ⟨w.heap.size + 1, 7, none⟩ = some (.string ⟨#[]⟩))) (by kernel_rfl) (HS.out _ (Below.refl _ _).drew) (fun hHeld => ?_)
      refine take_ok (i := 0) (d := 17) (v := ?_) rfl rfl (by kernel_rfl) (by kernel_rfl) (by kernel_rfl) (fun _ _ _ h => h) (Or.inl ⟨by rfl, ?_⟩) (by assumption) ?_
      rotate_left
      · intro w9 hSw
        try dsimp only at hSw
        first | (go_simp; done) | (go_simp; with_reducible rfl)
      try simp only [Act.put, List.setIfInBounds_toArray, List.set_cons_zero, List.set_cons_succ]
      refine take_ok (i := 1) (d := 18) (v := ?_) rfl rfl (by kernel_rfl) (by kernel_rfl) (by kernel_rfl) (fun _ _ _ h => h) (Or.inl ⟨by rfl, ?_⟩) (by assumption) ?_
      rotate_left
      · intro w9 hSw
        try dsimp only at hSw
        first | (go_simp; done) | (go_simp; with_reducible rfl)
      try simp only [Act.put, List.setIfInBounds_toArray, List.set_cons_zero, List.set_cons_succ]
      refine take_ok (i := 2) (d := 19) (v := ?_) rfl rfl (by kernel_rfl) (by kernel_rfl) (by kernel_rfl) (fun _ _ _ h => h) (Or.inl ⟨by rfl, ?_⟩) (by assumption) ?_
      rotate_left
      · intro w9 hSw
        try dsimp only at hSw
        first | (go_simp; done) | (go_simp; with_reducible rfl)
      try simp only [Act.put, List.setIfInBounds_toArray, List.set_cons_zero, List.set_cons_succ]
      refine take_ok (i := 3) (d := 20) (v := ?_) rfl rfl (by kernel_rfl) (by kernel_rfl) (by kernel_rfl) (fun _ _ _ h => h) (Or.inl ⟨by rfl, ?_⟩) (by assumption) ?_
      rotate_left
      · intro w9 hSw
        try dsimp only at hSw
        first | (go_simp; done) | (go_simp; with_reducible rfl)
      try simp only [Act.put, List.setIfInBounds_toArray, List.set_cons_zero, List.set_cons_succ]
      refine take_ok (i := 4) (d := 21) (v := ?_) rfl rfl (by kernel_rfl) (by kernel_rfl) (by kernel_rfl) (fun _ _ _ h => h) (Or.inl ⟨by rfl, ?_⟩) (by assumption) ?_
      rotate_left
      · intro w9 hSw
        try dsimp only at hSw
        first | (go_simp; done) | (go_simp; with_reducible rfl)
      try simp only [Act.put, List.setIfInBounds_toArray, List.set_cons_zero, List.set_cons_succ]
      refine take_ok (i := 5) (d := 22) (v := ?_) rfl rfl (by kernel_rfl) (by kernel_rfl) (by kernel_rfl) (fun _ _ _ h => h) (Or.inl ⟨by rfl, ?_⟩) (by assumption) ?_
      rotate_left
      · intro w9 hSw
        try dsimp only at hSw
        first | (go_simp; done) | (go_simp; with_reducible rfl)
      try simp only [Act.put, List.setIfInBounds_toArray, List.set_cons_zero, List.set_cons_succ]
      refine take_ok (i := 6) (d := 23) (v := ?_) rfl rfl (by kernel_rfl) (by kernel_rfl) (by kernel_rfl) (fun _ _ _ h => h) (Or.inl ⟨by rfl, ?_⟩) (by assumption) ?_
      rotate_left
      · intro w9 hSw
        try dsimp only at hSw
        first | (go_simp; done) | (go_simp; with_reducible rfl)
      try simp only [Act.put, List.setIfInBounds_toArray, List.set_cons_zero, List.set_cons_succ]
      refine take_ok (i := 7) (d := 24) (v := ?_) rfl rfl (by kernel_rfl) (by kernel_rfl) (by kernel_rfl) (fun _ _ _ h => h) (Or.inl ⟨by rfl, ?_⟩) (by assumption) ?_
      rotate_left
      · intro w9 hSw
        try dsimp only at hSw
        first | (go_simp; done) | (go_simp; with_reducible rfl)
      try simp only [Act.put, List.setIfInBounds_toArray, List.set_cons_zero, List.set_cons_succ]
      refine take_ok (i := 8) (d := 25) (v := ?_) rfl rfl (by kernel_rfl) (by kernel_rfl) (by kernel_rfl) (fun _ _ _ h => h) (Or.inl ⟨by rfl, ?_⟩) (by assumption) ?_
      rotate_left
      · intro w9 hSw
        try dsimp only at hSw
        first | (go_simp; done) | (go_simp; with_reducible rfl)
      try simp only [Act.put, List.setIfInBounds_toArray, List.set_cons_zero, List.set_cons_succ]
      refine wpAnyH_ready (rs := [9]) (by kernel_rfl) (by simp) ?_
      refine AllReadyH.cons rfl (fun K hK => ?_) AllReadyH.nil
      go_simp
      refine (CM.out _ (by first | exact (Below.refl _ _).drew | exact Below.refl _ _)).mono ?_
      rintro e w4 ⟨rfl, b4⟩
      have b4' : Below W2.heap.size W2 w4 := bn (by first | exact (Below.refl _ _).drew | exact Below.refl _ _) b4
      refine hK.out _ _ (HS.out _ b4') (fun hHeld => ?_)
      clear hK K
      try simp only [Act.put, List.setIfInBounds_toArray, List.set_cons_zero, List.set_cons_succ]
      refine take_ok (i := 10) (d := 27) (v := ?_) rfl rfl (by kernel_rfl) (by kernel_rfl) (by kernel_rfl) (fun _ _ _ h => h) (Or.inl ⟨by rfl, ?_⟩) (by assumption) ?_
      rotate_left
      · intro w9 hSw
        try dsimp only at hSw
        first | (go_simp; done) | (go_simp; with_reducible rfl)
      try simp only [Act.put, List.setIfInBounds_toArray, List.set_cons_zero, List.set_cons_succ]
      refine take_ok (i := 11) (d := 28) (v := ?_) rfl rfl (by kernel_rfl) (by kernel_rfl) (by kernel_rfl) (fun _ _ _ h => h) (Or.inl ⟨by rfl, ?_⟩) (by assumption) ?_
      rotate_left
      · intro w9 hSw
        try dsimp only at hSw
        first | (go_simp; done) | (go_simp; with_reducible rfl)
      try simp only [Act.put, List.setIfInBounds_toArray, List.set_cons_zero, List.set_cons_succ]
      refine take_ok (i := 12) (d := 29) (v := ?_) rfl rfl (by kernel_rfl) (by kernel_rfl) (by kernel_rfl) (fun _ _ _ h => h) (Or.inl ⟨by rfl, ?_⟩) (by assumption) ?_
      rotate_left
      · intro w9 hSw
        try dsimp only at hSw
        first | (go_simp; done) | (go_simp; with_reducible rfl)
      try simp only [Act.put, List.setIfInBounds_toArray, List.set_cons_zero, List.set_cons_succ]
      refine take_ok (i := 13) (d := 30) (v := undef) rfl rfl (by kernel_rfl) (by kernel_rfl) (by kernel_rfl) (fun _ _ _ h => h) (Or.inr ⟨by rfl, rfl⟩) (by assumption) ?_
      try simp only [Act.put, List.setIfInBounds_toArray, List.set_cons_zero, List.set_cons_succ]
      refine take_ok (i := 14) (d := 31) (v := undef) rfl rfl (by kernel_rfl) (by kernel_rfl) (by kernel_rfl) (fun _ _ _ h => h) (Or.inr ⟨by rfl, rfl⟩) (by assumption) ?_
      try simp only [Act.put, List.setIfInBounds_toArray, List.set_cons_zero, List.set_cons_succ]
      refine take_ok (i := 15) (d := 32) (v := undef) rfl rfl (by kernel_rfl) (by kernel_rfl) (by kernel_rfl) (fun _ _ _ h => h) (Or.inr ⟨by rfl, rfl⟩) (by assumption) ?_
      try simp only [Act.put, List.setIfInBounds_toArray, List.set_cons_zero, List.set_cons_succ]
      refine take_ok (i := 16) (d := 33) (v := undef) rfl rfl (by kernel_rfl) (by kernel_rfl) (by kernel_rfl) (fun _ _ _ h => h) (Or.inr ⟨by rfl, rfl⟩) (by assumption) ?_
      try simp only [Act.put, List.setIfInBounds_toArray, List.set_cons_zero, List.set_cons_succ]
      refine take_ok (i := 17) (d := 34) (v := undef) rfl rfl (by kernel_rfl) (by kernel_rfl) (by kernel_rfl) (fun _ _ _ h => h) (Or.inr ⟨by rfl, rfl⟩) (by assumption) ?_
      try simp only [Act.put, List.setIfInBounds_toArray, List.set_cons_zero, List.set_cons_succ]
      refine take_ok (i := 18) (d := 35) (v := undef) rfl rfl (by kernel_rfl) (by kernel_rfl) (by kernel_rfl) (fun _ _ _ h => h) (Or.inr ⟨by rfl, rfl⟩) (by assumption) ?_
      try simp only [Act.put, List.setIfInBounds_toArray, List.set_cons_zero, List.set_cons_succ]
      refine take_ok (i := 19) (d := 36) (v := undef) rfl rfl (by kernel_rfl) (by kernel_rfl) (by kernel_rfl) (fun _ _ _ h => h) (Or.inr ⟨by rfl, rfl⟩) (by assumption) ?_
      try simp only [Act.put, List.setIfInBounds_toArray, List.set_cons_zero, List.set_cons_succ]
      refine take_ok (i := 20) (d := 37) (v := ?_) rfl rfl (by kernel_rfl) (by kernel_rfl) (by kernel_rfl) (fun _ _ _ h => h) (Or.inl ⟨by rfl, ?_⟩) (by assumption) ?_
      rotate_left
      · intro w9 hSw
        try dsimp only at hSw
        first | (go_simp; done) | (go_simp; with_reducible rfl)
      try simp only [Act.put, List.setIfInBounds_toArray, List.set_cons_zero, List.set_cons_succ]
      refine wpAnyH_done (by kernel_rfl) ?_ _
      go_wp2
      go_ret
      exact ⟨rfl, bn HB2.out b4'⟩
    · have hm' : mayE d n = true := by simpa using hm
      have hb' : mayE (baseE vv ww) n = false := by
        rcases hno with h | h | h
        · exact absurd h hk
        · exact absurd h hm
        · exact h
      rw [hm'] at CM
      rw [hb'] at CB
      clear hk hm hm' hb' hno
      go_enter Tryz.func17, Tryz.ntmps17
      go_wp2_with fail
      rw [← hW2]
      clear hW2
      go_region_held3 (fun w' => (w'.cell? ⟨g, 0, none⟩ = some (.pointer (some ⟨p, 0, none⟩)) ∧ w'.cell? ⟨g, 1, none⟩ = some (.int .i64 n) ∧ w'.cell? ⟨g, 2, none⟩ = some (.int .i64 k) ∧ w'.cell? ⟨g, 3, none⟩ = some (.int .i64 X) ∧ w'.cell? ⟨g, 4, none⟩ = some (.int .i64 z)) ∧ (w'.cell? ⟨w.heap.size, 0, none⟩ = some (.int .i64 d.k) ∧ w'.cell? ⟨w.heap.size, 1, none⟩ = some (.slice ad1 d.v.length cap1) ∧ w'.cell? ⟨w.heap.size, 2, none⟩ = some (.slice ad2 d.w.length cap2) ∧ w'.cell? ⟨w.heap.size, 3, none⟩ = some (.int .i64 d.r.o) ∧ w'.cell? ⟨w.heap.size, 4, none⟩ = some (.int .i64 d.r.s) ∧ w'.cell? ⟨w.heap.size, 5, none⟩ = some (.int .i64 d.r.w) ∧ w'.cell? ⟨w.heap.size, 6, none⟩ = some (.int .i64 d.r.c) ∧ w'.cell? ⟨w.heap.size, 7, none⟩ = some (.string d.r.t)) ∧ (w'.cell? ⟨w.heap.size + 1, 0, none⟩ = some (.int .i64 1) ∧ w'.cell? ⟨w.heap.size + 1, 1, none⟩ = some (.slice ad3 vv.length cap3) ∧ w'.cell? ⟨w.heap.size + 1, 2, none⟩ = some (.slice ad4 ww.length cap4) ∧ w'.cell? ⟨w.heap.size + 1, 3, none⟩ = some (.int .i64 0) ∧ w'.cell? ⟨w.heap.size + 1, 4, none⟩ = some (.int .i64 0) ∧ w'.cell? ⟨w.heap.size + 1, 5, none⟩ = some (.int .i64 0) ∧ w'.cell? ⟨w.heap.size + 1, 6, none⟩ = some (.int .i64 0) ∧ w'.cell? ⟨w.heap.size + 1, 7, none⟩ = some (.string ⟨#[]⟩))) (exact HS.out _ (by first | assumption | exact (Below.refl _ _).drew | exact Below.refl _ _))
        (first
        | (go_at_call 35; refine (CB.out _ b4').mono ?_; rintro e w5 ⟨rfl, b5⟩; have b5' : Below W2.heap.size W2 w5 := bn b4' b5; clear b5)
        | (go_at_call 35; refine (CM.out _ (by first | assumption | exact (Below.refl _ _).drew | exact Below.refl _ _)).mono ?_; rintro e w4 ⟨rfl, b4⟩; have b4' : Below W2.heap.size W2 w4 := bn (by first | assumption | exact (Below.refl _ _).drew | exact Below.refl _ _) b4; clear b4)
        | fail)
      all_goals
        go_wp2
        go_ret
        exact ⟨rfl, bn HB2.out (by assumption)⟩
end Go.Proofs.YtjmkphnppegegaaGreatDoor
/-
  Write by contract: into the last segment.
-/
namespace Go.Proofs.YtjmkphnppegegaaGreatDoor
open Go.RowKit Go.Lib
set_option maxRecDepth 100000

set_option maxHeartbeats 16000000 in
theorem write_same_c (w : World) (g p n : Nat) (k : Nat) (K : Nat) (z : Int) (m : Nat) (P : List Pf) (own : Nat → Prop) (d : En) (a b : Value) (vv ww : List Int) (c f : Value) (h : LB w g p n k K z) (ha : Nl w a d.v) (hb : Nl w b d.w) (hv : Nl w c vv) (hw : Nl w f ww) (hdl : d.v.length ≤ 1000000 ∧ d.w.length ≤ 1000000 ∧ d.r.t.size ≤ 9223372036854775807) (hvl : vv.length ≤ 1000000 ∧ ww.length ≤ 1000000) (hT : Tabs w) (hd : Dr w p P m own) (hng : ¬ own g) (hn : n ≤ 8) (hK : K < 99) (hL : P.length ≤ 1000) (hz : 0 ≤ z ∧ z ≤ 1048576) (hgood : d.k ≠ 1 ∧ mayE d n = true ∧ mayE (baseE vv ww) n = true) (hzs : z < 400) :
    Calls Tryz.prog 17 #[.pointer (some ⟨g, 0, none⟩), .agg #[.int .i64 d.k, a, b, .int .i64 d.r.o, .int .i64 d.r.s, .int .i64 d.r.w, .int .i64 d.r.c, .string d.r.t], c, f] w (putT w g p n K m k K z P own [d]) := by
  obtain ⟨ad1, cap1, rfl, _⟩ := ha.form
  obtain ⟨ad2, cap2, rfl, _⟩ := hb.form
  obtain ⟨ad3, cap3, rfl, _⟩ := hv.form
  obtain ⟨ad4, cap4, rfl, _⟩ := hw.form
  obtain ⟨W2, hW2⟩ : ∃ W2, W2 = (w.alloc (.cells #[.int .i64 d.k, .slice ad1 d.v.length cap1, .slice ad2 d.w.length cap2, .int .i64 d.r.o, .int .i64 d.r.s, .int .i64 d.r.w, .int .i64 d.r.c, .string d.r.t] 43)).alloc (.cells #[.int .i64 1, .slice ad3 vv.length cap3, .slice ad4 ww.length cap4, .int .i64 0, .int .i64 0, .int .i64 0, .int .i64 0, .string ⟨#[]⟩] 43) := ⟨_, rfl⟩
  have HB2 : Hid (Below w.heap.size w W2) := Lib.hid (by rw [hW2]; exact bn (alloc_below _ _) (alloc_below _ _))
  have HX2 : Hid (Bx 43 W2 w.heap.size #[.int .i64 d.k, .slice ad1 d.v.length cap1, .slice ad2 d.w.length cap2, .int .i64 d.r.o, .int .i64 d.r.s, .int .i64 d.r.w, .int .i64 d.r.c, .string d.r.t]) := Lib.hid (by rw [hW2]; exact (Bx.new _ _ _).alloc _)
  have HY2 : Hid (Bx 43 W2 (w.heap.size + 1) #[.int .i64 1, .slice ad3 vv.length cap3, .slice ad4 ww.length cap4, .int .i64 0, .int .i64 0, .int .i64 0, .int .i64 0, .string ⟨#[]⟩]) := Lib.hid (by rw [hW2]; have := Bx.new 43 (w.alloc (.cells #[.int .i64 d.k, .slice ad1 d.v.length cap1, .slice ad2 d.w.length cap2, .int .i64 d.r.o, .int .i64 d.r.s, .int .i64 d.r.w, .int .i64 d.r.c, .string d.r.t] 43)) #[.int .i64 1, .slice ad3 vv.length cap3, .slice ad4 ww.length cap4, .int .i64 0, .int .i64 0, .int .i64 0, .int .i64 0, .string ⟨#[]⟩]; simpa using this)
  have HL2 : Hid (LB W2 g p n k K z) := Lib.hid (h.below HB2.out)
  have hg2 := HL2.out.lt
  have hx2 := HX2.out.lt
  have hy2 := HY2.out.lt
  have HS : Hid (∀ w' : World, Below W2.heap.size W2 w' → (w'.cell? ⟨g, 0, none⟩ = some (.pointer (some ⟨p, 0, none⟩)) ∧ w'.cell? ⟨g, 1, none⟩ = some (.int .i64 n) ∧ w'.cell? ⟨g, 2, none⟩ = some (.int .i64 k) ∧ w'.cell? ⟨g, 3, none⟩ = some (.int .i64 K) ∧ w'.cell? ⟨g, 4, none⟩ = some (.int .i64 z)) ∧ (w'.cell? ⟨w.heap.size, 0, none⟩ = some (.int .i64 d.k) ∧ w'.cell? ⟨w.heap.size, 1, none⟩ = some (.slice ad1 d.v.length cap1) ∧ w'.cell? ⟨w.heap.size, 2, none⟩ = some (.slice ad2 d.w.length cap2) ∧ w'.cell? ⟨w.heap.size, 3, none⟩ = some (.int .i64 d.r.o) ∧ w'.cell? ⟨w.heap.size, 4, none⟩ = some (.int .i64 d.r.s) ∧ w'.cell? ⟨w.heap.size, 5, none⟩ = some (.int .i64 d.r.w) ∧ w'.cell? ⟨w.heap.size, 6, none⟩ = some (.int .i64 d.r.c) ∧ w'.cell? ⟨w.heap.size, 7, none⟩ = some (.string d.r.t)) ∧ (w'.cell? ⟨w.heap.size + 1, 0, none⟩ = some (.int .i64 1) ∧ w'.cell? ⟨w.heap.size + 1, 1, none⟩ = some (.slice ad3 vv.length cap3) ∧ w'.cell? ⟨w.heap.size + 1, 2, none⟩ = some (.slice ad4 ww.length cap4) ∧ w'.cell? ⟨w.heap.size + 1, 3, none⟩ = some (.int .i64 0) ∧ w'.cell? ⟨w.heap.size + 1, 4, none⟩ = some (.int .i64 0) ∧ w'.cell? ⟨w.heap.size + 1, 5, none⟩ = some (.int .i64 0) ∧ w'.cell? ⟨w.heap.size + 1, 6, none⟩ = some (.int .i64 0) ∧ w'.cell? ⟨w.heap.size + 1, 7, none⟩ = some (.string ⟨#[]⟩))) := Lib.hid (fun w' hb => ⟨(HL2.out.below hb).cells, (HX2.out.below hb).eight, (HY2.out.below hb).eight⟩)
  have CM : Hid (∀ W, Below W2.heap.size W2 W → Calls Tryz.prog 35 #[.agg #[.int .i64 d.k, .slice ad1 d.v.length cap1, .slice ad2 d.w.length cap2, .int .i64 d.r.o, .int .i64 d.r.s, .int .i64 d.r.w, .int .i64 d.r.c, .string d.r.t], .int .i64 (n : Int)] W fun x w' => x = .returned (.bool (mayE d n)) ∧ Below W.heap.size W w') := Lib.hid (fun W hW => maye_c d _ _ n W (ha.below (bn HB2.out hW)) (hb.below (bn HB2.out hW)) hdl.1 hdl.2.1 hdl.2.2 (hT.below (bn HB2.out hW)))
  have CB : Hid (∀ W, Below W2.heap.size W2 W → Calls Tryz.prog 35 #[.agg #[.int .i64 1, .slice ad3 vv.length cap3, .slice ad4 ww.length cap4, .int .i64 0, .int .i64 0, .int .i64 0, .int .i64 0, .string ⟨#[]⟩], .int .i64 (n : Int)] W fun x w' => x = .returned (.bool (mayE (baseE vv ww) n)) ∧ Below W.heap.size W w') := Lib.hid (fun W hW => maye_c (baseE vv ww) _ _ n W (hv.below (bn HB2.out hW)) (hw.below (bn HB2.out hW)) hvl.1 hvl.2 (by show (0 : Nat) ≤ _; omega) (hT.below (bn HB2.out hW)))
  have hm := hgood.2.1
  have hmb := hgood.2.2
  have hsm := mayE_some hm
  have hsb := mayE_some hmb
  have e1 : (d.k == 1) = false := by simpa using hgood.1
  rw [hm] at CM
  rw [hmb] at CB
  have HD2 := Lib.hid (hd.below HB2.out)
  have HT2 := Lib.hid (hT.below HB2.out)
  have HNL : Hid ((Nl W2 (.slice ad1 d.v.length cap1) d.v ∧ Nl W2 (.slice ad2 d.w.length cap2) d.w) ∧ (Nl W2 (.slice ad3 vv.length cap3) vv ∧ Nl W2 (.slice ad4 ww.length cap4) ww)) := Lib.hid ⟨⟨ha.below HB2.out, hb.below HB2.out⟩, hv.below HB2.out, hw.below HB2.out⟩
  have HG := Lib.hid hng
  have HUP : Hid (∀ i, own i → i < w.heap.size) := Lib.hid (fun i hi => hd.up hi)
  have HGL : Hid (g < w.heap.size) := Lib.hid h.lt
  have CP : Hid (∀ W T, Below W2.heap.size W2 W → Calls Tryz.prog 36 #[.pointer (some ⟨g, 0, none⟩), .int .i64 (K : Int), .slice (some ⟨W.heap.size, 0, none⟩) 1 1] (W.alloc (.cells #[.int .i64 d.k, .slice ad1 d.v.length cap1, .slice ad2 d.w.length cap2, .int .i64 d.r.o, .int .i64 d.r.s, .int .i64 d.r.w, .int .i64 d.r.c, .string d.r.t] T)) (putT W2 g p n K m k K z P own [d])) := Lib.hid (fun W T hW => (putOne W T g p n K m k K z P own ⟨d, .slice ad1 d.v.length cap1, .slice ad2 d.w.length cap2⟩ (HL2.out.below hW) (HD2.out.below hW) HG.out hn (by omega) hL (HNL.out.1.1.below hW) (HNL.out.1.2.below hW) hsm hz (HT2.out.below hW)).mono (fun e w' hh => hh.back hW))
  have CPd : Hid (∀ W T, Below W2.heap.size W2 W → Calls Tryz.prog 36 #[.pointer (some ⟨g, 0, none⟩), .int .i64 (K : Int), .slice (some ⟨W.heap.size, 0, none⟩) 1 1] (W.alloc (.cells #[.int .i64 d.k, .slice ad1 d.v.length cap1, .slice ad2 d.w.length cap2, .int .i64 d.r.o, .int .i64 d.r.s, .int .i64 d.r.w, .int .i64 d.r.c, .string d.r.t] T)).drew (putT W2 g p n K m k K z P own [d])) := Lib.hid (fun W T hW => CP.out W.drew T hW.drew)
  have HCE : Hid (∀ w', (∃ e, putT W2 g p n K m k K z P own [d] e w') → (w'.cell? ⟨g, 0, none⟩ = some (.pointer (some ⟨p, 0, none⟩)) ∧ w'.cell? ⟨g, 1, none⟩ = some (.int .i64 n) ∧ w'.cell? ⟨g, 2, none⟩ = some (.int .i64 k) ∧ w'.cell? ⟨g, 3, none⟩ = some (.int .i64 K)) ∧ (w'.cell? ⟨w.heap.size, 0, none⟩ = some (.int .i64 d.k) ∧ w'.cell? ⟨w.heap.size, 1, none⟩ = some (.slice ad1 d.v.length cap1) ∧ w'.cell? ⟨w.heap.size, 2, none⟩ = some (.slice ad2 d.w.length cap2) ∧ w'.cell? ⟨w.heap.size, 3, none⟩ = some (.int .i64 d.r.o) ∧ w'.cell? ⟨w.heap.size, 4, none⟩ = some (.int .i64 d.r.s) ∧ w'.cell? ⟨w.heap.size, 5, none⟩ = some (.int .i64 d.r.w) ∧ w'.cell? ⟨w.heap.size, 6, none⟩ = some (.int .i64 d.r.c) ∧ w'.cell? ⟨w.heap.size, 7, none⟩ = some (.string d.r.t)) ∧ (w'.cell? ⟨w.heap.size + 1, 0, none⟩ = some (.int .i64 1) ∧ w'.cell? ⟨w.heap.size + 1, 1, none⟩ = some (.slice ad3 vv.length cap3) ∧ w'.cell? ⟨w.heap.size + 1, 2, none⟩ = some (.slice ad4 ww.length cap4) ∧ w'.cell? ⟨w.heap.size + 1, 3, none⟩ = some (.int .i64 0) ∧ w'.cell? ⟨w.heap.size + 1, 4, none⟩ = some (.int .i64 0) ∧ w'.cell? ⟨w.heap.size + 1, 5, none⟩ = some (.int .i64 0) ∧ w'.cell? ⟨w.heap.size + 1, 6, none⟩ = some (.int .i64 0) ∧ w'.cell? ⟨w.heap.size + 1, 7, none⟩ = some (.string ⟨#[]⟩))) := Lib.hid (fun w' hx => by
    obtain ⟨e, hx⟩ := hx
    by_cases hf : usedP P + (rowsE [d]).length ≤ m
    · obtain ⟨_, own', _, hst, _, hl⟩ := hx.1 hf
      have far : ∀ {y : Nat} {cs : Array Value}, Bx 43 W2 y cs → w.heap.size ≤ y → Bx 43 w' y cs := fun {y cs} hb hy => (hst.turn.block y hb.lt (fun q => by
        rcases q with q | q
        · have := HUP.out y q; omega
        · have := HGL.out; omega)).trans hb
      have lc := hl.cells
      exact ⟨⟨lc.1, lc.2.1, lc.2.2.1, lc.2.2.2.1⟩, (far HX2.out (Nat.le_refl _)).eight, (far HY2.out (by omega)).eight⟩
    · have hb := (hx.2 (by omega)).2
      have lc := (HL2.out.below hb).cells
      exact ⟨⟨lc.1, lc.2.1, lc.2.2.1, lc.2.2.2.1⟩, (HX2.out.below hb).eight, (HY2.out.below hb).eight⟩)
  have hz4 : decide (z < 400) = true := by simpa using hzs
  clear ha hb hv hw hT h hm hmb hgood hzs hng
  go_enter Tryz.func17, Tryz.ntmps17
  go_wp2_with fail
  rw [← hW2]
  clear hW2
  go_region_held3 (fun w' => (w'.cell? ⟨g, 0, none⟩ = some (.pointer (some ⟨p, 0, none⟩)) ∧ w'.cell? ⟨g, 1, none⟩ = some (.int .i64 n) ∧ w'.cell? ⟨g, 2, none⟩ = some (.int .i64 k) ∧ w'.cell? ⟨g, 3, none⟩ = some (.int .i64 K) ∧ w'.cell? ⟨g, 4, none⟩ = some (.int .i64 z)) ∧ (w'.cell? ⟨w.heap.size, 0, none⟩ = some (.int .i64 d.k) ∧ w'.cell? ⟨w.heap.size, 1, none⟩ = some (.slice ad1 d.v.length cap1) ∧ w'.cell? ⟨w.heap.size, 2, none⟩ = some (.slice ad2 d.w.length cap2) ∧ w'.cell? ⟨w.heap.size, 3, none⟩ = some (.int .i64 d.r.o) ∧ w'.cell? ⟨w.heap.size, 4, none⟩ = some (.int .i64 d.r.s) ∧ w'.cell? ⟨w.heap.size, 5, none⟩ = some (.int .i64 d.r.w) ∧ w'.cell? ⟨w.heap.size, 6, none⟩ = some (.int .i64 d.r.c) ∧ w'.cell? ⟨w.heap.size, 7, none⟩ = some (.string d.r.t)) ∧ (w'.cell? ⟨w.heap.size + 1, 0, none⟩ = some (.int .i64 1) ∧ w'.cell? ⟨w.heap.size + 1, 1, none⟩ = some (.slice ad3 vv.length cap3) ∧ w'.cell? ⟨w.heap.size + 1, 2, none⟩ = some (.slice ad4 ww.length cap4) ∧ w'.cell? ⟨w.heap.size + 1, 3, none⟩ = some (.int .i64 0) ∧ w'.cell? ⟨w.heap.size + 1, 4, none⟩ = some (.int .i64 0) ∧ w'.cell? ⟨w.heap.size + 1, 5, none⟩ = some (.int .i64 0) ∧ w'.cell? ⟨w.heap.size + 1, 6, none⟩ = some (.int .i64 0) ∧ w'.cell? ⟨w.heap.size + 1, 7, none⟩ = some (.string ⟨#[]⟩))) (exact HS.out _ (by first | assumption | exact (Below.refl _ _).drew | exact Below.refl _ _))
    (first
    | (go_at_call 35; refine (CB.out _ b4').mono ?_; rintro e w5 ⟨rfl, b5⟩; have b5' : Below W2.heap.size W2 w5 := bn b4' b5; clear b5)
    | (go_at_call 35; refine (CM.out _ (by first | assumption | exact (Below.refl _ _).drew | exact Below.refl _ _)).mono ?_; rintro e w4 ⟨rfl, b4⟩; have b4' : Below W2.heap.size W2 w4 := bn (by first | assumption | exact (Below.refl _ _).drew | exact Below.refl _ _) b4; clear b4)
    | fail)
  obtain ⟨⟨c0, c1, c2, c3, c4⟩, ⟨p0, p1, p2, p3, p4, p5, p6, p7⟩, ⟨q0, q1, q2, q3, q4, q5, q6, q7⟩⟩ := HS.out w5 b5'
  have hg5 : g < w5.heap.size := Nat.lt_of_lt_of_le hg2 b5'.size
  have HB5 := Lib.hid b5'
  clear b4'
  go_wp2_with fail
  clear c0 c1 c2 c3 c4 p0 p1 p2 p3 p4 p5 p6 p7 q0 q1 q2 q3 q4 q5 q6 q7
  have HS5 : Hid (∀ w' : World, Below w5.heap.size w5 w' → (w'.cell? ⟨g, 0, none⟩ = some (.pointer (some ⟨p, 0, none⟩)) ∧ w'.cell? ⟨g, 1, none⟩ = some (.int .i64 n) ∧ w'.cell? ⟨g, 2, none⟩ = some (.int .i64 k) ∧ w'.cell? ⟨g, 3, none⟩ = some (.int .i64 K)) ∧ (w'.cell? ⟨w.heap.size, 0, none⟩ = some (.int .i64 d.k) ∧ w'.cell? ⟨w.heap.size, 1, none⟩ = some (.slice ad1 d.v.length cap1) ∧ w'.cell? ⟨w.heap.size, 2, none⟩ = some (.slice ad2 d.w.length cap2) ∧ w'.cell? ⟨w.heap.size, 3, none⟩ = some (.int .i64 d.r.o) ∧ w'.cell? ⟨w.heap.size, 4, none⟩ = some (.int .i64 d.r.s) ∧ w'.cell? ⟨w.heap.size, 5, none⟩ = some (.int .i64 d.r.w) ∧ w'.cell? ⟨w.heap.size, 6, none⟩ = some (.int .i64 d.r.c) ∧ w'.cell? ⟨w.heap.size, 7, none⟩ = some (.string d.r.t)) ∧ (w'.cell? ⟨w.heap.size + 1, 0, none⟩ = some (.int .i64 1) ∧ w'.cell? ⟨w.heap.size + 1, 1, none⟩ = some (.slice ad3 vv.length cap3) ∧ w'.cell? ⟨w.heap.size + 1, 2, none⟩ = some (.slice ad4 ww.length cap4) ∧ w'.cell? ⟨w.heap.size + 1, 3, none⟩ = some (.int .i64 0) ∧ w'.cell? ⟨w.heap.size + 1, 4, none⟩ = some (.int .i64 0) ∧ w'.cell? ⟨w.heap.size + 1, 5, none⟩ = some (.int .i64 0) ∧ w'.cell? ⟨w.heap.size + 1, 6, none⟩ = some (.int .i64 0) ∧ w'.cell? ⟨w.heap.size + 1, 7, none⟩ = some (.string ⟨#[]⟩))) := Lib.hid (fun w' hb => by
    have := HS.out w' (bn HB5.out hb)
    exact ⟨⟨this.1.1, this.1.2.1, this.1.2.2.1, this.1.2.2.2.1⟩, this.2⟩)
  by_cases hf : usedP P + (rowsE [d]).length ≤ m
  · go_region_held3 (fun w' => (w'.cell? ⟨g, 0, none⟩ = some (.pointer (some ⟨p, 0, none⟩)) ∧ w'.cell? ⟨g, 1, none⟩ = some (.int .i64 n) ∧ w'.cell? ⟨g, 2, none⟩ = some (.int .i64 k) ∧ w'.cell? ⟨g, 3, none⟩ = some (.int .i64 K)) ∧ (w'.cell? ⟨w.heap.size, 0, none⟩ = some (.int .i64 d.k) ∧ w'.cell? ⟨w.heap.size, 1, none⟩ = some (.slice ad1 d.v.length cap1) ∧ w'.cell? ⟨w.heap.size, 2, none⟩ = some (.slice ad2 d.w.length cap2) ∧ w'.cell? ⟨w.heap.size, 3, none⟩ = some (.int .i64 d.r.o) ∧ w'.cell? ⟨w.heap.size, 4, none⟩ = some (.int .i64 d.r.s) ∧ w'.cell? ⟨w.heap.size, 5, none⟩ = some (.int .i64 d.r.w) ∧ w'.cell? ⟨w.heap.size, 6, none⟩ = some (.int .i64 d.r.c) ∧ w'.cell? ⟨w.heap.size, 7, none⟩ = some (.string d.r.t)) ∧ (w'.cell? ⟨w.heap.size + 1, 0, none⟩ = some (.int .i64 1) ∧ w'.cell? ⟨w.heap.size + 1, 1, none⟩ = some (.slice ad3 vv.length cap3) ∧ w'.cell? ⟨w.heap.size + 1, 2, none⟩ = some (.slice ad4 ww.length cap4) ∧ w'.cell? ⟨w.heap.size + 1, 3, none⟩ = some (.int .i64 0) ∧ w'.cell? ⟨w.heap.size + 1, 4, none⟩ = some (.int .i64 0) ∧ w'.cell? ⟨w.heap.size + 1, 5, none⟩ = some (.int .i64 0) ∧ w'.cell? ⟨w.heap.size + 1, 6, none⟩ = some (.int .i64 0) ∧ w'.cell? ⟨w.heap.size + 1, 7, none⟩ = some (.string ⟨#[]⟩))) (first | exact HS5.out _ (by first | assumption | exact (Below.refl _ _).drew | exact Below.refl _ _ | exact alloc_below _ _ | exact bn (Below.refl _ _).drew (alloc_below _ _)) | exact s6)
      (first
      | (go_at_call 36; (first | refine (CPd.out _ _ HB5.out).mono ?_ | refine (CP.out _ _ HB5.out).mono ?_); intro e w6 h6; have s6 := HCE.out w6 ⟨e, h6⟩; obtain rfl := (h6.1 hf).1)
      | fail)
    all_goals
      go_wp2
      go_ret
      exact h6.back HB2.out
  · go_region_held3 (fun w' => (w'.cell? ⟨g, 0, none⟩ = some (.pointer (some ⟨p, 0, none⟩)) ∧ w'.cell? ⟨g, 1, none⟩ = some (.int .i64 n) ∧ w'.cell? ⟨g, 2, none⟩ = some (.int .i64 k) ∧ w'.cell? ⟨g, 3, none⟩ = some (.int .i64 K)) ∧ (w'.cell? ⟨w.heap.size, 0, none⟩ = some (.int .i64 d.k) ∧ w'.cell? ⟨w.heap.size, 1, none⟩ = some (.slice ad1 d.v.length cap1) ∧ w'.cell? ⟨w.heap.size, 2, none⟩ = some (.slice ad2 d.w.length cap2) ∧ w'.cell? ⟨w.heap.size, 3, none⟩ = some (.int .i64 d.r.o) ∧ w'.cell? ⟨w.heap.size, 4, none⟩ = some (.int .i64 d.r.s) ∧ w'.cell? ⟨w.heap.size, 5, none⟩ = some (.int .i64 d.r.w) ∧ w'.cell? ⟨w.heap.size, 6, none⟩ = some (.int .i64 d.r.c) ∧ w'.cell? ⟨w.heap.size, 7, none⟩ = some (.string d.r.t)) ∧ (w'.cell? ⟨w.heap.size + 1, 0, none⟩ = some (.int .i64 1) ∧ w'.cell? ⟨w.heap.size + 1, 1, none⟩ = some (.slice ad3 vv.length cap3) ∧ w'.cell? ⟨w.heap.size + 1, 2, none⟩ = some (.slice ad4 ww.length cap4) ∧ w'.cell? ⟨w.heap.size + 1, 3, none⟩ = some (.int .i64 0) ∧ w'.cell? ⟨w.heap.size + 1, 4, none⟩ = some (.int .i64 0) ∧ w'.cell? ⟨w.heap.size + 1, 5, none⟩ = some (.int .i64 0) ∧ w'.cell? ⟨w.heap.size + 1, 6, none⟩ = some (.int .i64 0) ∧ w'.cell? ⟨w.heap.size + 1, 7, none⟩ = some (.string ⟨#[]⟩))) (first | exact HS5.out _ (by first | assumption | exact (Below.refl _ _).drew | exact Below.refl _ _ | exact alloc_below _ _ | exact bn (Below.refl _ _).drew (alloc_below _ _)) | exact s6)
      (first
      | (go_at_call 36; (first | refine (CPd.out _ _ HB5.out).mono ?_ | refine (CP.out _ _ HB5.out).mono ?_); intro e w6 h6; have s6 := HCE.out w6 ⟨e, h6⟩; obtain rfl := (h6.2 (by omega)).1)
      | fail)
    all_goals
      go_wp2
      go_ret
      exact h6.back HB2.out
end Go.Proofs.YtjmkphnppegegaaGreatDoor
/-
  Write by contract: a new segment.
-/
namespace Go.Proofs.YtjmkphnppegegaaGreatDoor
open Go.RowKit Go.Lib
set_option maxRecDepth 100000

/-- What Write leaves where a new segment is due. -/
def nextW (w : World) (g p n K m : Nat) (k : Int) (P : List Pf) (own : Nat → Prop) (es : List En) (x : Ending) (w' : World) : Prop :=
  (usedP P + (rowsE es).length ≤ m → x = .returned (.int .i64 0) ∧ ∃ own', Dr w' p (syncs [nameN n K] (appP (nameN n (K + 1)) (rowsE es) P)) m own' ∧ Step w (plusB own g) w' (plusB own' g) ∧ ¬ own' g ∧ LB w' g p n k ((K + 1 : Nat) : Int) ((rowsE es).length : Int)) ∧
  (m < usedP P + (rowsE es).length → x = .returned (.int .i64 8) ∧ Below w.heap.size w w')
set_option maxHeartbeats 16000000 in
theorem write_next_c (w : World) (g p n : Nat) (k : Nat) (K : Nat) (z : Int) (m : Nat) (P : List Pf) (own : Nat → Prop) (d : En) (a b : Value) (vv ww : List Int) (c f : Value) (h : LB w g p n k K z) (ha : Nl w a d.v) (hb : Nl w b d.w) (hv : Nl w c vv) (hw : Nl w f ww) (hdl : d.v.length ≤ 1000000 ∧ d.w.length ≤ 1000000 ∧ d.r.t.size ≤ 9223372036854775807) (hvl : vv.length ≤ 1000000 ∧ ww.length ≤ 1000000) (hT : Tabs w) (hd : Dr w p P m own) (hng : ¬ own g) (hn : n ≤ 8) (hK : K < 99) (hL : P.length ≤ 1000) (hz : 0 ≤ z ∧ z ≤ 1048576) (hgood : d.k ≠ 1 ∧ mayE d n = true ∧ mayE (baseE vv ww) n = true) (hzs : ¬ z < 400) (hyl : ∀ l, (lookP (nameN n K) (appP (nameN n (K + 1)) l P)).isSome = true) :
    Calls Tryz.prog 17 #[.pointer (some ⟨g, 0, none⟩), .agg #[.int .i64 d.k, a, b, .int .i64 d.r.o, .int .i64 d.r.s, .int .i64 d.r.w, .int .i64 d.r.c, .string d.r.t], c, f] w (nextW w g p n K m k P own [baseE vv ww, d]) := by
  obtain ⟨ad1, cap1, rfl, _⟩ := ha.form
  obtain ⟨ad2, cap2, rfl, _⟩ := hb.form
  obtain ⟨ad3, cap3, rfl, _⟩ := hv.form
  obtain ⟨ad4, cap4, rfl, _⟩ := hw.form
  obtain ⟨W2, hW2⟩ : ∃ W2, W2 = (w.alloc (.cells #[.int .i64 d.k, .slice ad1 d.v.length cap1, .slice ad2 d.w.length cap2, .int .i64 d.r.o, .int .i64 d.r.s, .int .i64 d.r.w, .int .i64 d.r.c, .string d.r.t] 43)).alloc (.cells #[.int .i64 1, .slice ad3 vv.length cap3, .slice ad4 ww.length cap4, .int .i64 0, .int .i64 0, .int .i64 0, .int .i64 0, .string ⟨#[]⟩] 43) := ⟨_, rfl⟩
  have HB2 : Hid (Below w.heap.size w W2) := Lib.hid (by rw [hW2]; exact bn (alloc_below _ _) (alloc_below _ _))
  have HX2 : Hid (Bx 43 W2 w.heap.size #[.int .i64 d.k, .slice ad1 d.v.length cap1, .slice ad2 d.w.length cap2, .int .i64 d.r.o, .int .i64 d.r.s, .int .i64 d.r.w, .int .i64 d.r.c, .string d.r.t]) := Lib.hid (by rw [hW2]; exact (Bx.new _ _ _).alloc _)
  have HY2 : Hid (Bx 43 W2 (w.heap.size + 1) #[.int .i64 1, .slice ad3 vv.length cap3, .slice ad4 ww.length cap4, .int .i64 0, .int .i64 0, .int .i64 0, .int .i64 0, .string ⟨#[]⟩]) := Lib.hid (by rw [hW2]; have := Bx.new 43 (w.alloc (.cells #[.int .i64 d.k, .slice ad1 d.v.length cap1, .slice ad2 d.w.length cap2, .int .i64 d.r.o, .int .i64 d.r.s, .int .i64 d.r.w, .int .i64 d.r.c, .string d.r.t] 43)) #[.int .i64 1, .slice ad3 vv.length cap3, .slice ad4 ww.length cap4, .int .i64 0, .int .i64 0, .int .i64 0, .int .i64 0, .string ⟨#[]⟩]; simpa using this)
  have HL2 : Hid (LB W2 g p n k K z) := Lib.hid (h.below HB2.out)
  have hg2 := HL2.out.lt
  have hx2 := HX2.out.lt
  have hy2 := HY2.out.lt
  have HS : Hid (∀ w' : World, Below W2.heap.size W2 w' → (w'.cell? ⟨g, 0, none⟩ = some (.pointer (some ⟨p, 0, none⟩)) ∧ w'.cell? ⟨g, 1, none⟩ = some (.int .i64 n) ∧ w'.cell? ⟨g, 2, none⟩ = some (.int .i64 k) ∧ w'.cell? ⟨g, 3, none⟩ = some (.int .i64 K) ∧ w'.cell? ⟨g, 4, none⟩ = some (.int .i64 z)) ∧ (w'.cell? ⟨w.heap.size, 0, none⟩ = some (.int .i64 d.k) ∧ w'.cell? ⟨w.heap.size, 1, none⟩ = some (.slice ad1 d.v.length cap1) ∧ w'.cell? ⟨w.heap.size, 2, none⟩ = some (.slice ad2 d.w.length cap2) ∧ w'.cell? ⟨w.heap.size, 3, none⟩ = some (.int .i64 d.r.o) ∧ w'.cell? ⟨w.heap.size, 4, none⟩ = some (.int .i64 d.r.s) ∧ w'.cell? ⟨w.heap.size, 5, none⟩ = some (.int .i64 d.r.w) ∧ w'.cell? ⟨w.heap.size, 6, none⟩ = some (.int .i64 d.r.c) ∧ w'.cell? ⟨w.heap.size, 7, none⟩ = some (.string d.r.t)) ∧ (w'.cell? ⟨w.heap.size + 1, 0, none⟩ = some (.int .i64 1) ∧ w'.cell? ⟨w.heap.size + 1, 1, none⟩ = some (.slice ad3 vv.length cap3) ∧ w'.cell? ⟨w.heap.size + 1, 2, none⟩ = some (.slice ad4 ww.length cap4) ∧ w'.cell? ⟨w.heap.size + 1, 3, none⟩ = some (.int .i64 0) ∧ w'.cell? ⟨w.heap.size + 1, 4, none⟩ = some (.int .i64 0) ∧ w'.cell? ⟨w.heap.size + 1, 5, none⟩ = some (.int .i64 0) ∧ w'.cell? ⟨w.heap.size + 1, 6, none⟩ = some (.int .i64 0) ∧ w'.cell? ⟨w.heap.size + 1, 7, none⟩ = some (.string ⟨#[]⟩))) := Lib.hid (fun w' hb => ⟨(HL2.out.below hb).cells, (HX2.out.below hb).eight, (HY2.out.below hb).eight⟩)
  have CM : Hid (∀ W, Below W2.heap.size W2 W → Calls Tryz.prog 35 #[.agg #[.int .i64 d.k, .slice ad1 d.v.length cap1, .slice ad2 d.w.length cap2, .int .i64 d.r.o, .int .i64 d.r.s, .int .i64 d.r.w, .int .i64 d.r.c, .string d.r.t], .int .i64 (n : Int)] W fun x w' => x = .returned (.bool (mayE d n)) ∧ Below W.heap.size W w') := Lib.hid (fun W hW => maye_c d _ _ n W (ha.below (bn HB2.out hW)) (hb.below (bn HB2.out hW)) hdl.1 hdl.2.1 hdl.2.2 (hT.below (bn HB2.out hW)))
  have CB : Hid (∀ W, Below W2.heap.size W2 W → Calls Tryz.prog 35 #[.agg #[.int .i64 1, .slice ad3 vv.length cap3, .slice ad4 ww.length cap4, .int .i64 0, .int .i64 0, .int .i64 0, .int .i64 0, .string ⟨#[]⟩], .int .i64 (n : Int)] W fun x w' => x = .returned (.bool (mayE (baseE vv ww) n)) ∧ Below W.heap.size W w') := Lib.hid (fun W hW => maye_c (baseE vv ww) _ _ n W (hv.below (bn HB2.out hW)) (hw.below (bn HB2.out hW)) hvl.1 hvl.2 (by show (0 : Nat) ≤ _; omega) (hT.below (bn HB2.out hW)))
  have hm := hgood.2.1
  have hmb := hgood.2.2
  have hsm := mayE_some hm
  have hsb := mayE_some hmb
  have e1 : (d.k == 1) = false := by simpa using hgood.1
  rw [hm] at CM
  rw [hmb] at CB
  have HD2 := Lib.hid (hd.below HB2.out)
  have HT2 := Lib.hid (hT.below HB2.out)
  have HNL : Hid ((Nl W2 (.slice ad1 d.v.length cap1) d.v ∧ Nl W2 (.slice ad2 d.w.length cap2) d.w) ∧ (Nl W2 (.slice ad3 vv.length cap3) vv ∧ Nl W2 (.slice ad4 ww.length cap4) ww)) := Lib.hid ⟨⟨ha.below HB2.out, hb.below HB2.out⟩, hv.below HB2.out, hw.below HB2.out⟩
  have HG := Lib.hid hng
  have HUP : Hid (∀ i, own i → i < w.heap.size) := Lib.hid (fun i hi => hd.up hi)
  have HGL : Hid (g < w.heap.size) := Lib.hid h.lt
  have hKe : ((K : Int) + 1) = ((K + 1 : Nat) : Int) := by omega
  have CP : Hid (∀ W T, Below W2.heap.size W2 W → Calls Tryz.prog 36 #[.pointer (some ⟨g, 0, none⟩), .int .i64 ((K : Int) + 1), .slice (some ⟨W.heap.size, 0, none⟩) 2 2] (W.alloc (.cells #[.int .i64 1, .slice ad3 vv.length cap3, .slice ad4 ww.length cap4, .int .i64 0, .int .i64 0, .int .i64 0, .int .i64 0, .string ⟨#[]⟩, .int .i64 d.k, .slice ad1 d.v.length cap1, .slice ad2 d.w.length cap2, .int .i64 d.r.o, .int .i64 d.r.s, .int .i64 d.r.w, .int .i64 d.r.c, .string d.r.t] T)) (putT W2 g p n (K + 1) m k K z P own [baseE vv ww, d])) := Lib.hid (fun W T hW => by
    rw [hKe]
    exact (putTwo W T g p n (K + 1) m k K z P own ⟨baseE vv ww, .slice ad3 vv.length cap3, .slice ad4 ww.length cap4⟩ ⟨d, .slice ad1 d.v.length cap1, .slice ad2 d.w.length cap2⟩ (HL2.out.below hW) (HD2.out.below hW) HG.out hn (by omega) hL (HNL.out.2.1.below hW) (HNL.out.2.2.below hW) hsb (HNL.out.1.1.below hW) (HNL.out.1.2.below hW) hsm hz (HT2.out.below hW)).mono (fun e w' hh => hh.back hW))
  have CPd : Hid (∀ W T, Below W2.heap.size W2 W → Calls Tryz.prog 36 #[.pointer (some ⟨g, 0, none⟩), .int .i64 ((K : Int) + 1), .slice (some ⟨W.heap.size, 0, none⟩) 2 2] (W.alloc (.cells #[.int .i64 1, .slice ad3 vv.length cap3, .slice ad4 ww.length cap4, .int .i64 0, .int .i64 0, .int .i64 0, .int .i64 0, .string ⟨#[]⟩, .int .i64 d.k, .slice ad1 d.v.length cap1, .slice ad2 d.w.length cap2, .int .i64 d.r.o, .int .i64 d.r.s, .int .i64 d.r.w, .int .i64 d.r.c, .string d.r.t] T)).drew (putT W2 g p n (K + 1) m k K z P own [baseE vv ww, d])) := Lib.hid (fun W T hW => CP.out W.drew T hW.drew)
  have CN : Hid (∀ W, Below W2.heap.size W2 W → Calls Tryz.prog 37 #[.pointer (some ⟨g, 0, none⟩), .int .i64 (K : Int)] W fun e w' => e = .returned (.string (nmS n K)) ∧ Below W.heap.size W w') := Lib.hid (fun W hW => nname_c W g p n k K z (HL2.out.below hW) (by omega) K (by omega))
  have HCE : Hid (∀ w', (∃ e, putT W2 g p n (K + 1) m k K z P own [baseE vv ww, d] e w') → (w'.cell? ⟨w.heap.size, 0, none⟩ = some (.int .i64 d.k) ∧ w'.cell? ⟨w.heap.size, 1, none⟩ = some (.slice ad1 d.v.length cap1) ∧ w'.cell? ⟨w.heap.size, 2, none⟩ = some (.slice ad2 d.w.length cap2) ∧ w'.cell? ⟨w.heap.size, 3, none⟩ = some (.int .i64 d.r.o) ∧ w'.cell? ⟨w.heap.size, 4, none⟩ = some (.int .i64 d.r.s) ∧ w'.cell? ⟨w.heap.size, 5, none⟩ = some (.int .i64 d.r.w) ∧ w'.cell? ⟨w.heap.size, 6, none⟩ = some (.int .i64 d.r.c) ∧ w'.cell? ⟨w.heap.size, 7, none⟩ = some (.string d.r.t)) ∧ (w'.cell? ⟨w.heap.size + 1, 0, none⟩ = some (.int .i64 1) ∧ w'.cell? ⟨w.heap.size + 1, 1, none⟩ = some (.slice ad3 vv.length cap3) ∧ w'.cell? ⟨w.heap.size + 1, 2, none⟩ = some (.slice ad4 ww.length cap4) ∧ w'.cell? ⟨w.heap.size + 1, 3, none⟩ = some (.int .i64 0) ∧ w'.cell? ⟨w.heap.size + 1, 4, none⟩ = some (.int .i64 0) ∧ w'.cell? ⟨w.heap.size + 1, 5, none⟩ = some (.int .i64 0) ∧ w'.cell? ⟨w.heap.size + 1, 6, none⟩ = some (.int .i64 0) ∧ w'.cell? ⟨w.heap.size + 1, 7, none⟩ = some (.string ⟨#[]⟩))) := Lib.hid (fun w' hx => by
    obtain ⟨e, hx⟩ := hx
    by_cases hf : usedP P + (rowsE [baseE vv ww, d]).length ≤ m
    · obtain ⟨_, own', _, hst, _, _⟩ := hx.1 hf
      have far : ∀ {y : Nat} {cs : Array Value}, Bx 43 W2 y cs → w.heap.size ≤ y → Bx 43 w' y cs := fun {y cs} hb hy => (hst.turn.block y hb.lt (fun q => by
        rcases q with q | q
        · have := HUP.out y q; omega
        · have := HGL.out; omega)).trans hb
      exact ⟨(far HX2.out (Nat.le_refl _)).eight, (far HY2.out (by omega)).eight⟩
    · have hb := (hx.2 (by omega)).2
      exact ⟨(HX2.out.below hb).eight, (HY2.out.below hb).eight⟩)
  have hz4 : decide (z < 400) = false := by simpa using hzs
  have HYL := Lib.hid hyl
  clear ha hb hv hw hT h hm hmb hgood hzs hng hyl hKe
  go_enter Tryz.func17, Tryz.ntmps17
  go_wp2_with fail
  rw [← hW2]
  clear hW2
  go_region_held3 (fun w' => (w'.cell? ⟨g, 0, none⟩ = some (.pointer (some ⟨p, 0, none⟩)) ∧ w'.cell? ⟨g, 1, none⟩ = some (.int .i64 n) ∧ w'.cell? ⟨g, 2, none⟩ = some (.int .i64 k) ∧ w'.cell? ⟨g, 3, none⟩ = some (.int .i64 K) ∧ w'.cell? ⟨g, 4, none⟩ = some (.int .i64 z)) ∧ (w'.cell? ⟨w.heap.size, 0, none⟩ = some (.int .i64 d.k) ∧ w'.cell? ⟨w.heap.size, 1, none⟩ = some (.slice ad1 d.v.length cap1) ∧ w'.cell? ⟨w.heap.size, 2, none⟩ = some (.slice ad2 d.w.length cap2) ∧ w'.cell? ⟨w.heap.size, 3, none⟩ = some (.int .i64 d.r.o) ∧ w'.cell? ⟨w.heap.size, 4, none⟩ = some (.int .i64 d.r.s) ∧ w'.cell? ⟨w.heap.size, 5, none⟩ = some (.int .i64 d.r.w) ∧ w'.cell? ⟨w.heap.size, 6, none⟩ = some (.int .i64 d.r.c) ∧ w'.cell? ⟨w.heap.size, 7, none⟩ = some (.string d.r.t)) ∧ (w'.cell? ⟨w.heap.size + 1, 0, none⟩ = some (.int .i64 1) ∧ w'.cell? ⟨w.heap.size + 1, 1, none⟩ = some (.slice ad3 vv.length cap3) ∧ w'.cell? ⟨w.heap.size + 1, 2, none⟩ = some (.slice ad4 ww.length cap4) ∧ w'.cell? ⟨w.heap.size + 1, 3, none⟩ = some (.int .i64 0) ∧ w'.cell? ⟨w.heap.size + 1, 4, none⟩ = some (.int .i64 0) ∧ w'.cell? ⟨w.heap.size + 1, 5, none⟩ = some (.int .i64 0) ∧ w'.cell? ⟨w.heap.size + 1, 6, none⟩ = some (.int .i64 0) ∧ w'.cell? ⟨w.heap.size + 1, 7, none⟩ = some (.string ⟨#[]⟩))) (exact HS.out _ (by first | assumption | exact (Below.refl _ _).drew | exact Below.refl _ _))
    (first
    | (go_at_call 35; refine (CB.out _ b4').mono ?_; rintro e w5 ⟨rfl, b5⟩; have b5' : Below W2.heap.size W2 w5 := bn b4' b5; clear b5)
    | (go_at_call 35; refine (CM.out _ (by first | assumption | exact (Below.refl _ _).drew | exact Below.refl _ _)).mono ?_; rintro e w4 ⟨rfl, b4⟩; have b4' : Below W2.heap.size W2 w4 := bn (by first | assumption | exact (Below.refl _ _).drew | exact Below.refl _ _) b4; clear b4)
    | fail)
  obtain ⟨⟨c0, c1, c2, c3, c4⟩, ⟨p0, p1, p2, p3, p4, p5, p6, p7⟩, ⟨q0, q1, q2, q3, q4, q5, q6, q7⟩⟩ := HS.out w5 b5'
  have hg5 : g < w5.heap.size := Nat.lt_of_lt_of_le hg2 b5'.size
  have HB5 := Lib.hid b5'
  clear b4'
  go_wp2_with fail
  refine (CN.out w5 HB5.out).mono ?_
  rintro e w6 ⟨rfl, b6⟩
  clear c0 c1 c2 c3 c4 p0 p1 p2 p3 p4 p5 p6 p7 q0 q1 q2 q3 q4 q5 q6 q7
  have HB6 := Lib.hid (bn HB5.out b6)
  have hg6 : g < w6.heap.size := Nat.lt_of_lt_of_le hg5 b6.size
  obtain ⟨⟨c0, c1, c2, c3, c4⟩, ⟨p0, p1, p2, p3, p4, p5, p6, p7⟩, ⟨q0, q1, q2, q3, q4, q5, q6, q7⟩⟩ := HS.out w6 HB6.out
  have hx6 : w.heap.size < w6.heap.size := Nat.lt_of_lt_of_le hx2 HB6.out.size
  have hy6 : w.heap.size + 1 < w6.heap.size := Nat.lt_of_lt_of_le hy2 HB6.out.size
  have HS6 : Hid (∀ w' : World, Below w6.heap.size w6 w' → (w'.cell? ⟨w.heap.size, 0, none⟩ = some (.int .i64 d.k) ∧ w'.cell? ⟨w.heap.size, 1, none⟩ = some (.slice ad1 d.v.length cap1) ∧ w'.cell? ⟨w.heap.size, 2, none⟩ = some (.slice ad2 d.w.length cap2) ∧ w'.cell? ⟨w.heap.size, 3, none⟩ = some (.int .i64 d.r.o) ∧ w'.cell? ⟨w.heap.size, 4, none⟩ = some (.int .i64 d.r.s) ∧ w'.cell? ⟨w.heap.size, 5, none⟩ = some (.int .i64 d.r.w) ∧ w'.cell? ⟨w.heap.size, 6, none⟩ = some (.int .i64 d.r.c) ∧ w'.cell? ⟨w.heap.size, 7, none⟩ = some (.string d.r.t)) ∧ (w'.cell? ⟨w.heap.size + 1, 0, none⟩ = some (.int .i64 1) ∧ w'.cell? ⟨w.heap.size + 1, 1, none⟩ = some (.slice ad3 vv.length cap3) ∧ w'.cell? ⟨w.heap.size + 1, 2, none⟩ = some (.slice ad4 ww.length cap4) ∧ w'.cell? ⟨w.heap.size + 1, 3, none⟩ = some (.int .i64 0) ∧ w'.cell? ⟨w.heap.size + 1, 4, none⟩ = some (.int .i64 0) ∧ w'.cell? ⟨w.heap.size + 1, 5, none⟩ = some (.int .i64 0) ∧ w'.cell? ⟨w.heap.size + 1, 6, none⟩ = some (.int .i64 0) ∧ w'.cell? ⟨w.heap.size + 1, 7, none⟩ = some (.string ⟨#[]⟩))) := Lib.hid (fun w' hb => (HS.out w' (bn HB6.out hb)).2)
  clear b6 b5' CN CM CB HS c0 c1 c2 c4 p0 p1 p2 p3 p4 p5 p6 p7 q0 q1 q2 q3 q4 q5 q6 q7
  have hwK : IntKind.i64.wrap ((K : Int) + 1) = (K : Int) + 1 := by rw [IntKind.wrap_i64]; omega
  by_cases hf : usedP P + (rowsE [baseE vv ww, d]).length ≤ m
  · have HPF : Hid (∀ e w', putT W2 g p n (K + 1) m k K z P own [baseE vv ww, d] e w' → ∃ own', Dr w' p (appP (nameN n (K + 1)) (rowsE [baseE vv ww, d]) P) m own' ∧ Step W2 (plusB own g) w' (plusB own' g) ∧ ¬ own' g ∧ LB w' g p n k ((K + 1 : Nat) : Int) ((rowsE [baseE vv ww, d]).length : Int)) := Lib.hid (fun e w' hh => by
      obtain ⟨_, own', h2, h3, h4, h5⟩ := hh.1 hf
      rw [if_neg (by omega)] at h5
      exact ⟨own', h2, h3, h4, h5⟩)
    have HCD : Hid (∀ e w', putT W2 g p n (K + 1) m k K z P own [baseE vv ww, d] e w' → e = .returned (.int .i64 0)) := Lib.hid (fun e w' hh => (hh.1 hf).1)
    have HF := Lib.hid hf
    clear hf
    go_wp2_with fail
    refine wp_region_held_drew (S := fun w' => (w'.cell? ⟨w.heap.size, 0, none⟩ = some (.int .i64 d.k) ∧ w'.cell? ⟨w.heap.size, 1, none⟩ = some (.slice ad1 d.v.length cap1) ∧ w'.cell? ⟨w.heap.size, 2, none⟩ = some (.slice ad2 d.w.length cap2) ∧ w'.cell? ⟨w.heap.size, 3, none⟩ = some (.int .i64 d.r.o) ∧ w'.cell? ⟨w.heap.size, 4, none⟩ = some (.int .i64 d.r.s) ∧ w'.cell? ⟨w.heap.size, 5, none⟩ = some (.int .i64 d.r.w) ∧ w'.cell? ⟨w.heap.size, 6, none⟩ = some (.int .i64 d.r.c) ∧ w'.cell? ⟨w.heap.size, 7, none⟩ = some (.string d.r.t)) ∧ (w'.cell? ⟨w.heap.size + 1, 0, none⟩ = some (.int .i64 1) ∧ w'.cell? ⟨w.heap.size + 1, 1, none⟩ = some (.slice ad3 vv.length cap3) ∧ w'.cell? ⟨w.heap.size + 1, 2, none⟩ = some (.slice ad4 ww.length cap4) ∧ w'.cell? ⟨w.heap.size + 1, 3, none⟩ = some (.int .i64 0) ∧ w'.cell? ⟨w.heap.size + 1, 4, none⟩ = some (.int .i64 0) ∧ w'.cell? ⟨w.heap.size + 1, 5, none⟩ = some (.int .i64 0) ∧ w'.cell? ⟨w.heap.size + 1, 6, none⟩ = some (.int .i64 0) ∧ w'.cell? ⟨w.heap.size + 1, 7, none⟩ = some (.string ⟨#[]⟩))) (by kernel_rfl) (HS6.out _ (Below.refl _ _).drew) (fun hHeld => ?_)
    refine take_ok (i := 0) (d := 57) (v := ?_) rfl rfl (by kernel_rfl) (by kernel_rfl) (by kernel_rfl) (fun _ _ _ h => h) (Or.inl ⟨by rfl, ?_⟩) (by assumption) ?_
    rotate_left
    · intro w9 hSw
      try dsimp only at hSw
      first | (go_simp; done) | (go_simp; with_reducible rfl)
    try simp only [Act.put, List.setIfInBounds_toArray, List.set_cons_zero, List.set_cons_succ]
    refine take_ok (i := 1) (d := 58) (v := ?_) rfl rfl (by kernel_rfl) (by kernel_rfl) (by kernel_rfl) (fun _ _ _ h => h) (Or.inl ⟨by rfl, ?_⟩) (by assumption) ?_
    rotate_left
    · intro w9 hSw
      try dsimp only at hSw
      first | (go_simp; done) | (go_simp; with_reducible rfl)
    try simp only [Act.put, List.setIfInBounds_toArray, List.set_cons_zero, List.set_cons_succ]
    refine take_ok (i := 2) (d := 59) (v := ?_) rfl rfl (by kernel_rfl) (by kernel_rfl) (by kernel_rfl) (fun _ _ _ h => h) (Or.inl ⟨by rfl, ?_⟩) (by assumption) ?_
    rotate_left
    · intro w9 hSw
      try dsimp only at hSw
      first | (go_simp; done) | (go_simp; with_reducible rfl)
    try simp only [Act.put, List.setIfInBounds_toArray, List.set_cons_zero, List.set_cons_succ]
    refine take_ok (i := 3) (d := 60) (v := ?_) rfl rfl (by kernel_rfl) (by kernel_rfl) (by kernel_rfl) (fun _ _ _ h => h) (Or.inl ⟨by rfl, ?_⟩) (by assumption) ?_
    rotate_left
    · intro w9 hSw
      try dsimp only at hSw
      first | (go_simp; done) | (go_simp; with_reducible rfl)
    try simp only [Act.put, List.setIfInBounds_toArray, List.set_cons_zero, List.set_cons_succ]
    refine take_ok (i := 6) (d := 63) (v := ?_) rfl rfl (by kernel_rfl) (by kernel_rfl) (by kernel_rfl) (fun _ _ _ h => h) (Or.inl ⟨by rfl, ?_⟩) (by assumption) ?_
    rotate_left
    · intro w9 hSw
      try dsimp only at hSw
      first | (go_simp; done) | (go_simp; with_reducible rfl)
    try simp only [Act.put, List.setIfInBounds_toArray, List.set_cons_zero, List.set_cons_succ]
    refine take_ok (i := 7) (d := 64) (v := ?_) rfl rfl (by kernel_rfl) (by kernel_rfl) (by kernel_rfl) (fun _ _ _ h => h) (Or.inl ⟨by rfl, ?_⟩) (by assumption) ?_
    rotate_left
    · intro w9 hSw
      try dsimp only at hSw
      first | (go_simp; done) | (go_simp; with_reducible rfl)
    try simp only [Act.put, List.setIfInBounds_toArray, List.set_cons_zero, List.set_cons_succ]
    refine wpAnyH_ready (rs := [4, 8]) (by kernel_rfl) (by simp) ?_
    refine AllReadyH.cons rfl (fun Kc hK => ?_) (AllReadyH.cons rfl (fun Kc hK => ?_) AllReadyH.nil)
    · go_simp
      refine hK.out _ _ (HS6.out _ (Below.refl _ _).drew) (fun hHeld => ?_)
      clear hK Kc
      try simp only [Act.put, List.setIfInBounds_toArray, List.set_cons_zero, List.set_cons_succ]
      refine take_ok (i := 5) (d := 62) (v := ?_) rfl rfl (by kernel_rfl) (by kernel_rfl) (by kernel_rfl) (fun _ _ _ h => h) (Or.inl ⟨by rfl, ?_⟩) (by assumption) ?_
      rotate_left
      · intro w9 hSw
        try dsimp only at hSw
        first | (go_simp; done) | (go_simp; with_reducible rfl)
      try simp only [Act.put, List.setIfInBounds_toArray, List.set_cons_zero, List.set_cons_succ]
      refine wpAnyH_ready (rs := [8]) (by kernel_rfl) (by simp) ?_
      refine AllReadyH.cons rfl (fun Kc hK => ?_) AllReadyH.nil
      go_simp
      refine hK.out _ _ (HS6.out _ (bn (Below.refl _ _).drew (alloc_below _ _))) (fun hHeld => ?_)
      clear hK Kc
      try simp only [Act.put, List.setIfInBounds_toArray, List.set_cons_zero, List.set_cons_succ]
      refine wpAnyH_ready (rs := [9]) (by kernel_rfl) (by simp) ?_
      refine AllReadyH.cons rfl (fun Kc hK => ?_) AllReadyH.nil
      go_simp
      try simp only [hwK]
      (with_reducible refine (CPd.out _ _ HB6.out).mono ?_)
      intro e w7 h7
      obtain rfl := HCD.out _ _ h7
      refine hK.out _ _ (HCE.out _ ⟨_, h7⟩) (fun hHeld => ?_)
      clear hK Kc
      try simp only [Act.put, List.setIfInBounds_toArray, List.set_cons_zero, List.set_cons_succ]
      refine take_ok (i := 10) (d := 11) (v := ?_) rfl rfl (by kernel_rfl) (by kernel_rfl) (by kernel_rfl) (fun _ _ _ h => h) (Or.inl ⟨by rfl, ?_⟩) (by assumption) ?_
      rotate_left
      · intro w9 hSw
        try dsimp only at hSw
        first | (go_simp; done) | (go_simp; with_reducible rfl)
      try simp only [Act.put, List.setIfInBounds_toArray, List.set_cons_zero, List.set_cons_succ]
      refine wpAnyH_done (by kernel_rfl) ?_ _
      obtain ⟨own7, d7, s7, n7, l7⟩ := HPF.out _ _ h7
      have HSY : Hid (∀ T, Calls Tryz.prog 38 #[.pointer (some ⟨p, 0, none⟩), .slice (some ⟨w7.heap.size, 0, none⟩) 1 1] (w7.alloc (.cells #[.string (nmS n K)] T)) fun e w' => e = .returned (.int .i64 0) ∧ ∃ own', Dr w' p (syncs [nameN n K] (appP (nameN n (K + 1)) (rowsE [baseE vv ww, d]) P)) m own' ∧ Step w7 own7 w' own') := Lib.hid (fun T => dSync1 d7 n K T (HYL.out _))
      have hlt7 := l7.lt
      have HS7 := Lib.hid s7
      have HN7 := Lib.hid n7
      have HL7 := Lib.hid l7
      clear c3 hHeld
      have c0 := l7.cells.1
      clear d7 s7 n7 l7 h7
      go_wp2_with fail
      refine (HSY.out _).mono ?_
      rintro e w8 ⟨rfl, own8, d8, s8⟩
      have HD8 := Lib.hid d8
      have HS8 := Lib.hid s8
      clear d8 s8
      go_wp2
      go_ret
      refine ⟨fun _ => ⟨rfl, own8, HD8.out, (HS7.out.trans (HS8.out.plus g)).beside HB2.out, HS8.out.not HN7.out hlt7, HL7.out.turn HS8.out.turn HN7.out⟩, fun hx => by have := HF.out; omega⟩
    · go_simp
      refine hK.out _ _ (HS6.out _ (bn (Below.refl _ _).drew (alloc_below _ _))) (fun hHeld => ?_)
      clear hK Kc
      try simp only [Act.put, List.setIfInBounds_toArray, List.set_cons_zero, List.set_cons_succ]
      refine wpAnyH_ready (rs := [4]) (by kernel_rfl) (by simp) ?_
      refine AllReadyH.cons rfl (fun Kc hK => ?_) AllReadyH.nil
      go_simp
      refine hK.out _ _ (HS6.out _ (bn (Below.refl _ _).drew (alloc_below _ _))) (fun hHeld => ?_)
      clear hK Kc
      try simp only [Act.put, List.setIfInBounds_toArray, List.set_cons_zero, List.set_cons_succ]
      refine take_ok (i := 5) (d := 62) (v := ?_) rfl rfl (by kernel_rfl) (by kernel_rfl) (by kernel_rfl) (fun _ _ _ h => h) (Or.inl ⟨by rfl, ?_⟩) (by assumption) ?_
      rotate_left
      · intro w9 hSw
        try dsimp only at hSw
        first | (go_simp; done) | (go_simp; with_reducible rfl)
      try simp only [Act.put, List.setIfInBounds_toArray, List.set_cons_zero, List.set_cons_succ]
      refine wpAnyH_ready (rs := [9]) (by kernel_rfl) (by simp) ?_
      refine AllReadyH.cons rfl (fun Kc hK => ?_) AllReadyH.nil
      go_simp
      try simp only [hwK]
      (with_reducible refine (CPd.out _ _ HB6.out).mono ?_)
      intro e w7 h7
      obtain rfl := HCD.out _ _ h7
      refine hK.out _ _ (HCE.out _ ⟨_, h7⟩) (fun hHeld => ?_)
      clear hK Kc
      try simp only [Act.put, List.setIfInBounds_toArray, List.set_cons_zero, List.set_cons_succ]
      refine take_ok (i := 10) (d := 11) (v := ?_) rfl rfl (by kernel_rfl) (by kernel_rfl) (by kernel_rfl) (fun _ _ _ h => h) (Or.inl ⟨by rfl, ?_⟩) (by assumption) ?_
      rotate_left
      · intro w9 hSw
        try dsimp only at hSw
        first | (go_simp; done) | (go_simp; with_reducible rfl)
      try simp only [Act.put, List.setIfInBounds_toArray, List.set_cons_zero, List.set_cons_succ]
      refine wpAnyH_done (by kernel_rfl) ?_ _
      obtain ⟨own7, d7, s7, n7, l7⟩ := HPF.out _ _ h7
      have HSY : Hid (∀ T, Calls Tryz.prog 38 #[.pointer (some ⟨p, 0, none⟩), .slice (some ⟨w7.heap.size, 0, none⟩) 1 1] (w7.alloc (.cells #[.string (nmS n K)] T)) fun e w' => e = .returned (.int .i64 0) ∧ ∃ own', Dr w' p (syncs [nameN n K] (appP (nameN n (K + 1)) (rowsE [baseE vv ww, d]) P)) m own' ∧ Step w7 own7 w' own') := Lib.hid (fun T => dSync1 d7 n K T (HYL.out _))
      have hlt7 := l7.lt
      have HS7 := Lib.hid s7
      have HN7 := Lib.hid n7
      have HL7 := Lib.hid l7
      clear c3 hHeld
      have c0 := l7.cells.1
      clear d7 s7 n7 l7 h7
      go_wp2_with fail
      refine (HSY.out _).mono ?_
      rintro e w8 ⟨rfl, own8, d8, s8⟩
      have HD8 := Lib.hid d8
      have HS8 := Lib.hid s8
      clear d8 s8
      go_wp2
      go_ret
      refine ⟨fun _ => ⟨rfl, own8, HD8.out, (HS7.out.trans (HS8.out.plus g)).beside HB2.out, HS8.out.not HN7.out hlt7, HL7.out.turn HS8.out.turn HN7.out⟩, fun hx => by have := HF.out; omega⟩
  · have HCD : Hid (∀ e w', putT W2 g p n (K + 1) m k K z P own [baseE vv ww, d] e w' → e = .returned (.int .i64 8) ∧ Below W2.heap.size W2 w') := Lib.hid (fun e w' hh => hh.2 (by omega))
    have HF := Lib.hid hf
    clear hf
    go_wp2_with fail
    refine wp_region_held_drew (S := fun w' => (w'.cell? ⟨w.heap.size, 0, none⟩ = some (.int .i64 d.k) ∧ w'.cell? ⟨w.heap.size, 1, none⟩ = some (.slice ad1 d.v.length cap1) ∧ w'.cell? ⟨w.heap.size, 2, none⟩ = some (.slice ad2 d.w.length cap2) ∧ w'.cell? ⟨w.heap.size, 3, none⟩ = some (.int .i64 d.r.o) ∧ w'.cell? ⟨w.heap.size, 4, none⟩ = some (.int .i64 d.r.s) ∧ w'.cell? ⟨w.heap.size, 5, none⟩ = some (.int .i64 d.r.w) ∧ w'.cell? ⟨w.heap.size, 6, none⟩ = some (.int .i64 d.r.c) ∧ w'.cell? ⟨w.heap.size, 7, none⟩ = some (.string d.r.t)) ∧ (w'.cell? ⟨w.heap.size + 1, 0, none⟩ = some (.int .i64 1) ∧ w'.cell? ⟨w.heap.size + 1, 1, none⟩ = some (.slice ad3 vv.length cap3) ∧ w'.cell? ⟨w.heap.size + 1, 2, none⟩ = some (.slice ad4 ww.length cap4) ∧ w'.cell? ⟨w.heap.size + 1, 3, none⟩ = some (.int .i64 0) ∧ w'.cell? ⟨w.heap.size + 1, 4, none⟩ = some (.int .i64 0) ∧ w'.cell? ⟨w.heap.size + 1, 5, none⟩ = some (.int .i64 0) ∧ w'.cell? ⟨w.heap.size + 1, 6, none⟩ = some (.int .i64 0) ∧ w'.cell? ⟨w.heap.size + 1, 7, none⟩ = some (.string ⟨#[]⟩))) (by kernel_rfl) (HS6.out _ (Below.refl _ _).drew) (fun hHeld => ?_)
    refine take_ok (i := 0) (d := 57) (v := ?_) rfl rfl (by kernel_rfl) (by kernel_rfl) (by kernel_rfl) (fun _ _ _ h => h) (Or.inl ⟨by rfl, ?_⟩) (by assumption) ?_
    rotate_left
    · intro w9 hSw
      try dsimp only at hSw
      first | (go_simp; done) | (go_simp; with_reducible rfl)
    try simp only [Act.put, List.setIfInBounds_toArray, List.set_cons_zero, List.set_cons_succ]
    refine take_ok (i := 1) (d := 58) (v := ?_) rfl rfl (by kernel_rfl) (by kernel_rfl) (by kernel_rfl) (fun _ _ _ h => h) (Or.inl ⟨by rfl, ?_⟩) (by assumption) ?_
    rotate_left
    · intro w9 hSw
      try dsimp only at hSw
      first | (go_simp; done) | (go_simp; with_reducible rfl)
    try simp only [Act.put, List.setIfInBounds_toArray, List.set_cons_zero, List.set_cons_succ]
    refine take_ok (i := 2) (d := 59) (v := ?_) rfl rfl (by kernel_rfl) (by kernel_rfl) (by kernel_rfl) (fun _ _ _ h => h) (Or.inl ⟨by rfl, ?_⟩) (by assumption) ?_
    rotate_left
    · intro w9 hSw
      try dsimp only at hSw
      first | (go_simp; done) | (go_simp; with_reducible rfl)
    try simp only [Act.put, List.setIfInBounds_toArray, List.set_cons_zero, List.set_cons_succ]
    refine take_ok (i := 3) (d := 60) (v := ?_) rfl rfl (by kernel_rfl) (by kernel_rfl) (by kernel_rfl) (fun _ _ _ h => h) (Or.inl ⟨by rfl, ?_⟩) (by assumption) ?_
    rotate_left
    · intro w9 hSw
      try dsimp only at hSw
      first | (go_simp; done) | (go_simp; with_reducible rfl)
    try simp only [Act.put, List.setIfInBounds_toArray, List.set_cons_zero, List.set_cons_succ]
    refine take_ok (i := 6) (d := 63) (v := ?_) rfl rfl (by kernel_rfl) (by kernel_rfl) (by kernel_rfl) (fun _ _ _ h => h) (Or.inl ⟨by rfl, ?_⟩) (by assumption) ?_
    rotate_left
    · intro w9 hSw
      try dsimp only at hSw
      first | (go_simp; done) | (go_simp; with_reducible rfl)
    try simp only [Act.put, List.setIfInBounds_toArray, List.set_cons_zero, List.set_cons_succ]
    refine take_ok (i := 7) (d := 64) (v := ?_) rfl rfl (by kernel_rfl) (by kernel_rfl) (by kernel_rfl) (fun _ _ _ h => h) (Or.inl ⟨by rfl, ?_⟩) (by assumption) ?_
    rotate_left
    · intro w9 hSw
      try dsimp only at hSw
      first | (go_simp; done) | (go_simp; with_reducible rfl)
    try simp only [Act.put, List.setIfInBounds_toArray, List.set_cons_zero, List.set_cons_succ]
    refine wpAnyH_ready (rs := [4, 8]) (by kernel_rfl) (by simp) ?_
    refine AllReadyH.cons rfl (fun Kc hK => ?_) (AllReadyH.cons rfl (fun Kc hK => ?_) AllReadyH.nil)
    · go_simp
      refine hK.out _ _ (HS6.out _ (Below.refl _ _).drew) (fun hHeld => ?_)
      clear hK Kc
      try simp only [Act.put, List.setIfInBounds_toArray, List.set_cons_zero, List.set_cons_succ]
      refine take_ok (i := 5) (d := 62) (v := ?_) rfl rfl (by kernel_rfl) (by kernel_rfl) (by kernel_rfl) (fun _ _ _ h => h) (Or.inl ⟨by rfl, ?_⟩) (by assumption) ?_
      rotate_left
      · intro w9 hSw
        try dsimp only at hSw
        first | (go_simp; done) | (go_simp; with_reducible rfl)
      try simp only [Act.put, List.setIfInBounds_toArray, List.set_cons_zero, List.set_cons_succ]
      refine wpAnyH_ready (rs := [8]) (by kernel_rfl) (by simp) ?_
      refine AllReadyH.cons rfl (fun Kc hK => ?_) AllReadyH.nil
      go_simp
      refine hK.out _ _ (HS6.out _ (bn (Below.refl _ _).drew (alloc_below _ _))) (fun hHeld => ?_)
      clear hK Kc
      try simp only [Act.put, List.setIfInBounds_toArray, List.set_cons_zero, List.set_cons_succ]
      refine wpAnyH_ready (rs := [9]) (by kernel_rfl) (by simp) ?_
      refine AllReadyH.cons rfl (fun Kc hK => ?_) AllReadyH.nil
      go_simp
      try simp only [hwK]
      (with_reducible refine (CPd.out _ _ HB6.out).mono ?_)
      intro e w7 h7
      obtain ⟨rfl, b7⟩ := HCD.out _ _ h7
      refine hK.out _ _ (HCE.out _ ⟨_, h7⟩) (fun hHeld => ?_)
      clear hK Kc
      try simp only [Act.put, List.setIfInBounds_toArray, List.set_cons_zero, List.set_cons_succ]
      refine take_ok (i := 10) (d := 11) (v := ?_) rfl rfl (by kernel_rfl) (by kernel_rfl) (by kernel_rfl) (fun _ _ _ h => h) (Or.inl ⟨by rfl, ?_⟩) (by assumption) ?_
      rotate_left
      · intro w9 hSw
        try dsimp only at hSw
        first | (go_simp; done) | (go_simp; with_reducible rfl)
      try simp only [Act.put, List.setIfInBounds_toArray, List.set_cons_zero, List.set_cons_succ]
      refine wpAnyH_done (by kernel_rfl) ?_ _
      have HB7 := Lib.hid b7
      clear b7 h7
      go_wp2
      go_ret
      exact ⟨fun hx => absurd hx HF.out, fun _ => ⟨rfl, bn HB2.out HB7.out⟩⟩
    · go_simp
      refine hK.out _ _ (HS6.out _ (bn (Below.refl _ _).drew (alloc_below _ _))) (fun hHeld => ?_)
      clear hK Kc
      try simp only [Act.put, List.setIfInBounds_toArray, List.set_cons_zero, List.set_cons_succ]
      refine wpAnyH_ready (rs := [4]) (by kernel_rfl) (by simp) ?_
      refine AllReadyH.cons rfl (fun Kc hK => ?_) AllReadyH.nil
      go_simp
      refine hK.out _ _ (HS6.out _ (bn (Below.refl _ _).drew (alloc_below _ _))) (fun hHeld => ?_)
      clear hK Kc
      try simp only [Act.put, List.setIfInBounds_toArray, List.set_cons_zero, List.set_cons_succ]
      refine take_ok (i := 5) (d := 62) (v := ?_) rfl rfl (by kernel_rfl) (by kernel_rfl) (by kernel_rfl) (fun _ _ _ h => h) (Or.inl ⟨by rfl, ?_⟩) (by assumption) ?_
      rotate_left
      · intro w9 hSw
        try dsimp only at hSw
        first | (go_simp; done) | (go_simp; with_reducible rfl)
      try simp only [Act.put, List.setIfInBounds_toArray, List.set_cons_zero, List.set_cons_succ]
      refine wpAnyH_ready (rs := [9]) (by kernel_rfl) (by simp) ?_
      refine AllReadyH.cons rfl (fun Kc hK => ?_) AllReadyH.nil
      go_simp
      try simp only [hwK]
      (with_reducible refine (CPd.out _ _ HB6.out).mono ?_)
      intro e w7 h7
      obtain ⟨rfl, b7⟩ := HCD.out _ _ h7
      refine hK.out _ _ (HCE.out _ ⟨_, h7⟩) (fun hHeld => ?_)
      clear hK Kc
      try simp only [Act.put, List.setIfInBounds_toArray, List.set_cons_zero, List.set_cons_succ]
      refine take_ok (i := 10) (d := 11) (v := ?_) rfl rfl (by kernel_rfl) (by kernel_rfl) (by kernel_rfl) (fun _ _ _ h => h) (Or.inl ⟨by rfl, ?_⟩) (by assumption) ?_
      rotate_left
      · intro w9 hSw
        try dsimp only at hSw
        first | (go_simp; done) | (go_simp; with_reducible rfl)
      try simp only [Act.put, List.setIfInBounds_toArray, List.set_cons_zero, List.set_cons_succ]
      refine wpAnyH_done (by kernel_rfl) ?_ _
      have HB7 := Lib.hid b7
      clear b7 h7
      go_wp2
      go_ret
      exact ⟨fun hx => absurd hx HF.out, fun _ => ⟨rfl, bn HB2.out HB7.out⟩⟩
end Go.Proofs.YtjmkphnppegegaaGreatDoor
