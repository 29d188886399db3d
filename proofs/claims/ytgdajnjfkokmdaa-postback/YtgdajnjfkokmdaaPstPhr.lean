/-
  Phrase of chapter 10's own answer, by contract.
-/
import Derived.Test.YtgdajnjfkokmdaaPstPut
namespace Go.Proofs.Ytgdajnjfkokmdaa
open Go.RowKit Go.Lib
set_option maxRecDepth 100000

theorem nsOf_fnd (o s : Int) : ∀ (l : List Pv) (j : Nat) (hj : j < l.length), l[j].p.k = (o, s) → (∀ t, (ht : t < l.length) → t < j → l[t].p.k ≠ (o, s)) → nsOf (ps l) (o, s) = l[j].ns
  | [], j, hj, _, _ => by simp at hj
  | x :: r, 0, hj, h, _ => by
    have h' : x.p.k = (o, s) := h
    show ((List.find? (fun p => p.k == (o, s)) (x.p :: ps r)).map Po.ns).getD [] = x.ns
    rw [List.find?_cons_of_pos (by rw [h']; simp)]
    rfl
  | x :: r, j + 1, hj, h, hno => by
    have h0 : x.p.k ≠ (o, s) := hno 0 (by simp) (by omega)
    have hj' : j < r.length := by simpa using hj
    have ih := nsOf_fnd o s r j hj' h (fun t ht htj => hno (t + 1) (by simpa using ht) (by omega))
    show ((List.find? (fun p => p.k == (o, s)) (x.p :: ps r)).map Po.ns).getD [] = r[j].ns
    rw [List.find?_cons_of_neg (by simpa using h0)]
    exact ih
/-- Does x stand in each list, as many places further on as the list stands behind? -/
def hitF (o s x : Int) : Nat → List Lv → Bool
  | _, [] => true
  | k, y :: r => inL (nsOf (ps y.l) (o, s)) (IntKind.i64.wrap (x + (k : Int))) && hitF o s x (k + 1) r
theorem hitF_range (o s x : Int) : ∀ (ls : List Lv) (k : Nat), hitF o s x k ls = (List.range ls.length).all fun j => (nsOf ((pls ls).getD j []) (o, s)).contains (IntKind.i64.wrap (x + ((k + j : Nat) : Int)))
  | [], k => rfl
  | y :: r, k => by
    have ih := hitF_range o s x r (k + 1)
    rw [hitF, ih, List.length_cons, List.range_succ_eq_map, List.all_cons, List.all_map]
    congr 1
    congr 1
    funext j
    show (nsOf ((pls r).getD j []) (o, s)).contains (IntKind.i64.wrap (x + ((k + 1 + j : Nat) : Int))) = (nsOf ((pls r).getD j []) (o, s)).contains (IntKind.i64.wrap (x + ((k + (j + 1) : Nat) : Int)))
    rw [show k + 1 + j = k + (j + 1) by omega]
theorem runs_hit (ls : List Lv) (o s : Int) : runs (pls ls) (o, s) = (nsOf ((pls ls).headD []) (o, s)).any fun x => hitF o s x 0 ls := by
  unfold runs
  congr 1
  funext x
  rw [hitF_range]
  have e : (pls ls).length = ls.length := by simp [pls]
  rw [e]
  congr 1
  funext j
  rw [Nat.zero_add]
/-- Where a Key that stands there stands. -/
theorem fnd_at {l : List Pv} {o s : Int} (h : (o, s) ∈ (ps l).map Po.k) : ∃ j : Nat, ∃ hj : j < l.length, fndI 0 l o s = (j : Int) ∧ nsOf (ps l) (o, s) = l[j].ns := by
  rcases fndI_spec l 0 o s with ⟨_, h2⟩ | ⟨j, hj, h1, h2, h3⟩
  · rw [ps, List.map_map] at h
    obtain ⟨x, hx, e⟩ := List.mem_map.1 h
    exact absurd e (h2 x hx)
  · exact ⟨j, hj, by rw [h1, Nat.zero_add], nsOf_fnd o s l j hj h2 h3⟩
theorem phK_take {ls : List (List Po)} {i : Nat} (hi : i < (andK ls).length) : ((andK ls).take (i + 1)).filter (runs ls) = if runs ls (andK ls)[i] then ((andK ls).take i).filter (runs ls) ++ [(andK ls)[i]] else ((andK ls).take i).filter (runs ls) := by
  rw [List.take_succ_eq_append_getElem hi, List.filter_append]
  cases h : runs ls (andK ls)[i] with
  | true => rw [List.filter_cons_of_pos h]; rfl
  | false => rw [List.filter_cons_of_neg (by rw [h]; simp)]; simp
theorem andK_all {ls : List (List Po)} {k : Ky} (h : k ∈ andK ls) : ls ≠ [] ∧ ∀ l ∈ ls, k ∈ l.map Po.k := by
  cases ls with
  | nil => cases h
  | cons l r =>
    cases h1 : allMay (l :: r) with
    | true => exact ⟨by simp, (andK_mem h1 (by simp) k).1 h⟩
    | false => rw [andK_no h1] at h; cases h
theorem headD_pls (ls : List Lv) (h : 0 < ls.length) : (pls ls).headD [] = ps ls[0].l := by
  cases ls with
  | nil => simp at h
  | cons y r => rfl
theorem andK_len (ls : List Lv) (n : Nat) (hm : ∀ y ∈ ls, y.l.length ≤ n) : (andK (pls ls)).length ≤ n := by
  cases ls with
  | nil => simp [pls, andK]
  | cons y r =>
    cases h1 : allMay (pls (y :: r)) with
    | true =>
      rw [andK_andL y r h1]
      exact Nat.le_trans (andL_len _ _) (hm y (by simp))
    | false => rw [andK_no h1]; simp
set_option maxRecDepth 100000 in
set_option maxHeartbeats 16000000 in
theorem phr_c (ls : List Lv) (v : Value) (w : World) (h : LRd w v ls) (hn : ls.length ≤ 1000) (hm : ∀ y ∈ ls, y.l.length ≤ 10000 ∧ ∀ x ∈ y.l, x.ns.length ≤ 1000000) :
    Calls Try.prog 16 #[v] w (keysT (phK (pls ls)) w) := by
  have HM := Lib.hid hm
  have HL := Lib.hid h
  have CA := Lib.hid (and_c ls _ w h hn hm)
  have HKL := Lib.hid (andK_len ls 10000 (fun y hy => (hm y hy).1))
  obtain ⟨⟨ad, cap, rfl, _, k1⟩, k2⟩ := h
  have H1 := Lib.hid k1
  have H2 := Lib.hid k2
  clear k1 k2 hm
  unfold keysT at CA
  go_enter Try.func16, Try.ntmps16
  go_wp2_with fail
  refine CA.out.mono ?_
  rintro e w2 ⟨vk, rfl, rk, bk⟩
  have HKR := Lib.hid rk.rd
  obtain ⟨adk', capk', rfl, _⟩ := own_form rk
  have HB2 := Lib.hid bk
  obtain ⟨KS, hKS⟩ : ∃ KS, KS = andK (pls ls) := ⟨_, rfl⟩
  rw [← hKS] at HKR HKL
  have HPH : Hid (phK (pls ls) = KS.filter (runs (pls ls))) := Lib.hid (by rw [hKS]; rfl)
  have HTAKE : Hid (∀ i (hi : i < KS.length), (KS.take (i + 1)).filter (runs (pls ls)) = if runs (pls ls) KS[i] then (KS.take i).filter (runs (pls ls)) ++ [KS[i]] else (KS.take i).filter (runs (pls ls))) := Lib.hid (by rw [hKS]; exact fun i hi => phK_take hi)
  have HALL : Hid (∀ k ∈ KS, ls ≠ [] ∧ ∀ y ∈ ls, k ∈ (ps y.l).map Po.k) := Lib.hid (fun k hk => by
    rw [hKS] at hk
    have h1 := andK_all hk
    refine ⟨fun e => h1.1 (by rw [e]; rfl), fun y hy => h1.2 _ (List.mem_map.2 ⟨y, hy, rfl⟩)⟩)
  rw [← hKS]
  clear rk bk CA hKS
  have hkl := HKL.out
  go_wp2
  go_loopw [4, 5] (fun v4 v5 wr => ∃ i : Nat, i ≤ KS.length ∧ v5 = .int .i64 (i : Int) ∧ Hid (KRow wr w2.heap.size v4 ((KS.take i).filter (runs (pls ls)))) ∧ Hid (Below w2.heap.size w2 wr)) (fun _ v5 _ => KS.length - (intOf v5).toNat)
  case atStart => exact ⟨0, by omega, rfl, Lib.hid (KRow.nil _ _), Lib.hid (Below.refl _ _)⟩
  case round =>
    obtain ⟨i, hi, rfl, HR, HX⟩ := hrel
    have HW := Lib.hid (bn HB2.out HX.out)
    obtain ⟨w0, rfl⟩ : ∃ w0, w0 = wr := ⟨_, rfl⟩
    by_cases hp : i < KS.length
    · obtain ⟨adk2, capk2, e1, _, ck⟩ := HKR.out.below HX.out
      simp only [Value.slice.injEq, true_and] at e1
      obtain ⟨rfl, rfl⟩ := e1
      obtain ⟨gk, ok, rfl, dk⟩ := ck (by omega)
      have a1 := dk i hp
      have HTK := Lib.hid (HTAKE.out i hp)
      have HAL := Lib.hid (HALL.out _ (List.getElem_mem hp))
      have HP := Lib.hid hp
      generalize KS[i] = z at a1 HTK HAL
      obtain ⟨zo, zs⟩ := z
      have z0 := a1.1
      have z1 := a1.2
      simp only at z0 z1
      have HZ := Lib.hid (And.intro z0 z1)
      have hglz := World.block_lt_of_cell? _ _ z0
      have h0 : 0 < ls.length := List.length_pos_iff.2 HAL.out.1
      obtain ⟨g1, o1, rfl, c1⟩ := H1.out h0
      have HC1 := Lib.hid c1
      have a0 := c1 0 h0
      rw [Nat.add_zero] at a0
      have p0 := H2.out _ (List.getElem_mem h0)
      have m0 := HM.out _ (List.getElem_mem h0)
      have kk0 := HAL.out.2 _ (List.getElem_mem h0)
      have HHD : Hid ((pls ls).headD [] = ps ls[0].l) := Lib.hid (headD_pls ls h0)
      generalize ls[0] = y at a0 p0 m0 kk0 HHD
      obtain ⟨yv, l0⟩ := y
      simp only at a0 p0 m0 kk0
      obtain ⟨j0, hj0, hf0, hn0⟩ := fnd_at kk0
      have HP0 := Lib.hid p0
      obtain ⟨ad0, cap0, rfl, _, q0⟩ := p0
      obtain ⟨g2, o2, rfl, d2⟩ := q0 (by omega)
      have b0 := d2 j0 hj0
      have hns0 := m0.2 _ (List.getElem_mem hj0)
      have hm0 := m0.1
      generalize l0[j0] = u at b0 hn0 hns0
      obtain ⟨uo, us, fa, fn⟩ := u
      have hfa := b0.nl
      have b2c := b0.c2
      simp only at hn0 hns0 hfa b2c
      obtain ⟨adf, capf, rfl, hff⟩ := id hfa.form
      have HFN : Hid (runs (pls ls) (zo, zs) = fn.any fun x => hitF zo zs x 0 ls) := Lib.hid (by rw [runs_hit, HHD.out, hn0])
      have HFF := Lib.hid hff
      have blw : ∀ {W : World} {p : Addr} {u : Value}, w.cell? p = some u → Below w0.heap.size w0 W → W.cell? p = some u := fun {W p u} hc hb => ((bn HW.out hb).cell (World.block_lt_of_cell? _ _ hc)).trans hc
      have blz : ∀ {W : World} {p : Addr} {u : Value}, w0.cell? p = some u → Below w0.heap.size w0 W → W.cell? p = some u := fun {W p u} hc hb => (hb.cell (World.block_lt_of_cell? _ _ hc)).trans hc
      have HS : Hid (∀ W, Below w0.heap.size w0 W → W.cell? ⟨g1, o1, none⟩ = some (.slice (some ⟨g2, o2, none⟩) l0.length cap0) ∧ W.cell? ⟨gk, ok + i * 2, none⟩ = some (.int .i64 zo) ∧ W.cell? ⟨gk, ok + i * 2 + 1, none⟩ = some (.int .i64 zs) ∧ W.cell? ⟨g2, o2 + j0 * 3 + 2, none⟩ = some (.slice adf fn.length capf)) := Lib.hid (fun W hb => ⟨blw a0 hb, blz z0 hb, blz z1 hb, blw b2c hb⟩)
      have CF : Hid (∀ W, Below w0.heap.size w0 W → Calls Try.prog 40 #[.slice (some ⟨g2, o2, none⟩) l0.length cap0, .agg #[.int .i64 zo, .int .i64 zs]] W fun e w' => e = .returned (.int .i64 (j0 : Int)) ∧ Below W.heap.size W w') := Lib.hid (fun W hb => by rw [← hf0]; exact find_c l0 zo zs _ W (HP0.out.below (bn HW.out hb)) (by omega))
      have hfn := hns0
      have hjl : j0 < l0.length := hj0
      clear ck dk a1 a0 c1 m0 kk0 HHD q0 d2 b0 hn0 hf0 hff blw blz b2c z0 z1 hfa
      go_wp2_with fail
      refine wp_region_held_drew (S := fun W => W.cell? ⟨g1, o1, none⟩ = some (.slice (some ⟨g2, o2, none⟩) l0.length cap0) ∧ W.cell? ⟨gk, ok + i * 2, none⟩ = some (.int .i64 zo) ∧ W.cell? ⟨gk, ok + i * 2 + 1, none⟩ = some (.int .i64 zs) ∧ W.cell? ⟨g2, o2 + j0 * 3 + 2, none⟩ = some (.slice adf fn.length capf)) (by kernel_rfl) (HS.out _ (Below.refl _ _).drew) (fun hHeld => ?_)
      refine take_ok (i := 0) (d := 19) (v := ?_) rfl rfl (by kernel_rfl) (by kernel_rfl) (by kernel_rfl) (fun _ _ _ h => h) (Or.inl ⟨by rfl, ?_⟩) (by assumption) ?_
      rotate_left
      · intro w9 hSw
        try dsimp only at hSw
        first | (go_simp; done) | (go_simp; with_reducible rfl)
      try simp only [Act.put, List.setIfInBounds_toArray, List.set_cons_zero, List.set_cons_succ]
      refine take_ok (i := 1) (d := 20) (v := ?_) rfl rfl (by kernel_rfl) (by kernel_rfl) (by kernel_rfl) (fun _ _ _ h => h) (Or.inl ⟨by rfl, ?_⟩) (by assumption) ?_
      rotate_left
      · intro w9 hSw
        try dsimp only at hSw
        first | (go_simp; done) | (go_simp; with_reducible rfl)
      try simp only [Act.put, List.setIfInBounds_toArray, List.set_cons_zero, List.set_cons_succ]
      refine take_ok (i := 2) (d := 21) (v := ?_) rfl rfl (by kernel_rfl) (by kernel_rfl) (by kernel_rfl) (fun _ _ _ h => h) (Or.inl ⟨by rfl, ?_⟩) (by assumption) ?_
      rotate_left
      · intro w9 hSw
        try dsimp only at hSw
        first | (go_simp; done) | (go_simp; with_reducible rfl)
      try simp only [Act.put, List.setIfInBounds_toArray, List.set_cons_zero, List.set_cons_succ]
      refine take_ok (i := 3) (d := 22) (v := ?_) rfl rfl (by kernel_rfl) (by kernel_rfl) (by kernel_rfl) (fun _ _ _ h => h) (Or.inl ⟨by rfl, ?_⟩) (by assumption) ?_
      rotate_left
      · intro w9 hSw
        try dsimp only at hSw
        first | (go_simp; done) | (go_simp; with_reducible rfl)
      try simp only [Act.put, List.setIfInBounds_toArray, List.set_cons_zero, List.set_cons_succ]
      refine take_ok (i := 4) (d := 23) (v := ?_) rfl rfl (by kernel_rfl) (by kernel_rfl) (by kernel_rfl) (fun _ _ _ h => h) (Or.inl ⟨by rfl, ?_⟩) (by assumption) ?_
      rotate_left
      · intro w9 hSw
        try dsimp only at hSw
        first | (go_simp; done) | (go_simp; with_reducible rfl)
      try simp only [Act.put, List.setIfInBounds_toArray, List.set_cons_zero, List.set_cons_succ]
      refine take_ok (i := 5) (d := 24) (v := ?_) rfl rfl (by kernel_rfl) (by kernel_rfl) (by kernel_rfl) (fun _ _ _ h => h) (Or.inl ⟨by rfl, ?_⟩) (by assumption) ?_
      rotate_left
      · intro w9 hSw
        try dsimp only at hSw
        first | (go_simp; done) | (go_simp; with_reducible rfl)
      try simp only [Act.put, List.setIfInBounds_toArray, List.set_cons_zero, List.set_cons_succ]
      refine take_ok (i := 6) (d := 25) (v := ?_) rfl rfl (by kernel_rfl) (by kernel_rfl) (by kernel_rfl) (fun _ _ _ h => h) (Or.inl ⟨by rfl, ?_⟩) (by assumption) ?_
      rotate_left
      · intro w9 hSw
        try dsimp only at hSw
        first | (go_simp; done) | (go_simp; with_reducible rfl)
      try simp only [Act.put, List.setIfInBounds_toArray, List.set_cons_zero, List.set_cons_succ]
      refine take_ok (i := 7) (d := 26) (v := ?_) rfl rfl (by kernel_rfl) (by kernel_rfl) (by kernel_rfl) (fun _ _ _ h => h) (Or.inl ⟨by rfl, ?_⟩) (by assumption) ?_
      rotate_left
      · intro w9 hSw
        try dsimp only at hSw
        first | (go_simp; done) | (go_simp; with_reducible rfl)
      try simp only [Act.put, List.setIfInBounds_toArray, List.set_cons_zero, List.set_cons_succ]
      refine take_ok (i := 8) (d := 27) (v := ?_) rfl rfl (by kernel_rfl) (by kernel_rfl) (by kernel_rfl) (fun _ _ _ h => h) (Or.inl ⟨by rfl, ?_⟩) (by assumption) ?_
      rotate_left
      · intro w9 hSw
        try dsimp only at hSw
        first | (go_simp; done) | (go_simp; with_reducible rfl)
      try simp only [Act.put, List.setIfInBounds_toArray, List.set_cons_zero, List.set_cons_succ]
      refine take_ok (i := 9) (d := 28) (v := ?_) rfl rfl (by kernel_rfl) (by kernel_rfl) (by kernel_rfl) (fun _ _ _ h => h) (Or.inl ⟨by rfl, ?_⟩) (by assumption) ?_
      rotate_left
      · intro w9 hSw
        try dsimp only at hSw
        first | (go_simp; done) | (go_simp; with_reducible rfl)
      try simp only [Act.put, List.setIfInBounds_toArray, List.set_cons_zero, List.set_cons_succ]
      refine wpAnyH_ready (rs := [10]) (by kernel_rfl) (by simp) ?_
      refine AllReadyH.cons rfl (fun K hK => ?_) AllReadyH.nil
      go_simp
      refine (CF.out _ (by first | exact (Below.refl _ _).drew | exact Below.refl _ _)).mono ?_
      rintro e w5 ⟨rfl, b5⟩
      have b5' : Below w0.heap.size w0 w5 := bn (by first | exact (Below.refl _ _).drew | exact Below.refl _ _) b5
      refine hK.out _ _ (HS.out _ b5') (fun hHeld => ?_)
      clear hK K
      try simp only [Act.put, List.setIfInBounds_toArray, List.set_cons_zero, List.set_cons_succ]
      refine take_ok (i := 11) (d := 30) (v := ?_) rfl rfl (by kernel_rfl) (by kernel_rfl) (by kernel_rfl) (fun _ _ _ h => h) (Or.inl ⟨by rfl, ?_⟩) (by assumption) ?_
      rotate_left
      · intro w9 hSw
        try dsimp only at hSw
        first | (go_simp; done) | (go_simp; with_reducible rfl)
      try simp only [Act.put, List.setIfInBounds_toArray, List.set_cons_zero, List.set_cons_succ]
      refine take_ok (i := 12) (d := 31) (v := ?_) rfl rfl (by kernel_rfl) (by kernel_rfl) (by kernel_rfl) (fun _ _ _ h => h) (Or.inl ⟨by rfl, ?_⟩) (by assumption) ?_
      rotate_left
      · intro w9 hSw
        try dsimp only at hSw
        first | (go_simp; done) | (go_simp; with_reducible rfl)
      try simp only [Act.put, List.setIfInBounds_toArray, List.set_cons_zero, List.set_cons_succ]
      refine take_ok (i := 13) (d := 32) (v := ?_) rfl rfl (by kernel_rfl) (by kernel_rfl) (by kernel_rfl) (fun _ _ _ h => h) (Or.inl ⟨by rfl, ?_⟩) (by assumption) ?_
      rotate_left
      · intro w9 hSw
        try dsimp only at hSw
        first | (go_simp; done) | (go_simp; with_reducible rfl)
      try simp only [Act.put, List.setIfInBounds_toArray, List.set_cons_zero, List.set_cons_succ]
      refine take_ok (i := 14) (d := 6) (v := ?_) rfl rfl (by kernel_rfl) (by kernel_rfl) (by kernel_rfl) (fun _ _ _ h => h) (Or.inl ⟨by rfl, ?_⟩) (by assumption) ?_
      rotate_left
      · intro w9 hSw
        try dsimp only at hSw
        first | (go_simp; done) | (go_simp; with_reducible rfl)
      try simp only [Act.put, List.setIfInBounds_toArray, List.set_cons_zero, List.set_cons_succ]
      refine wpAnyH_done (by kernel_rfl) ?_ _
      have HB5 := Lib.hid b5'
      clear b5 b5' hHeld HS CF
      go_wp2
      go_loopw [7, 8] (fun v7 v8 wr => ∃ (a : Nat) (SM : Bool), a ≤ fn.length ∧ v8 = .int .i64 (a : Int) ∧ v7 = .bool SM ∧ Hid ((SM || (fn.drop a).any fun x => hitF zo zs x 0 ls) = fn.any fun x => hitF zo zs x 0 ls) ∧ Hid (Below w0.heap.size w0 wr)) (fun _ v8 _ => fn.length - (intOf v8).toNat)
      case atStart => exact ⟨0, false, by omega, rfl, rfl, Lib.hid (by rw [Bool.false_or, List.drop_zero]), HB5⟩
      case round =>
        clear HB5
        obtain ⟨a, SM, ha, rfl, rfl, HSM, HV⟩ := hrel
        obtain ⟨w7, rfl⟩ : ∃ w7, w7 = wr := ⟨_, rfl⟩
        by_cases haf : a < fn.length
        · obtain ⟨gf, of', rfl, nf⟩ := HFF.out (by omega)
          have x0 := nf a haf
          have hsm := HSM.out
          rw [List.drop_eq_getElem_cons haf, List.any_cons] at hsm
          have HAF := Lib.hid haf
          generalize fn[a] = x at x0 hsm
          have HX0 := Lib.hid x0
          clear nf x0 HSM
          go_wp2
          go_loopw [9, 10] (fun v9 v10 wr => ∃ (k : Nat) (IN : Bool), k ≤ ls.length ∧ v10 = .int .i64 (k : Int) ∧ v9 = .bool IN ∧ Hid ((IN && hitF zo zs x k (ls.drop k)) = hitF zo zs x 0 ls) ∧ Hid (Below w0.heap.size w0 wr)) (fun _ v10 _ => ls.length - (intOf v10).toNat)
          case atStart => exact ⟨0, true, by omega, rfl, rfl, Lib.hid (by rw [Bool.true_and, List.drop_zero]), HV⟩
          case round =>
            clear HV
            obtain ⟨k, IN, hk, rfl, rfl, HI, HV2⟩ := hrel
            by_cases hq : k < ls.length
            · have HW2 := Lib.hid (bn HW.out HV2.out)
              have ak := HC1.out k hq
              have pk := (HL.out.below HW2.out).2 _ (List.getElem_mem hq)
              have mk := HM.out _ (List.getElem_mem hq)
              have kk := HAL.out.2 _ (List.getElem_mem hq)
              have hi2 := HI.out
              rw [List.drop_eq_getElem_cons hq, hitF] at hi2
              have HQ := Lib.hid hq
              generalize ls[k] = y at ak pk mk kk hi2
              obtain ⟨yv, lk⟩ := y
              simp only at ak pk mk kk hi2
              obtain ⟨jk, hjk, hfk, hnk⟩ := fnd_at kk
              have HPK := Lib.hid pk
              obtain ⟨adk, capk, rfl, _, qk⟩ := pk
              obtain ⟨g3, o3, rfl, d3⟩ := qk (by omega)
              have b3 := d3 jk hjk
              have hnsk := mk.2 _ (List.getElem_mem hjk)
              have hmk := mk.1
              rw [hnk] at hi2
              generalize lk[jk] = u at b3 hi2 hnsk
              obtain ⟨uo, us, ya, yn⟩ := u
              have hya := b3.nl
              have b3c := b3.c2
              simp only at hi2 hnsk hya b3c
              obtain ⟨ady, capy, rfl, _⟩ := id hya.form
              have HYA := Lib.hid hya
              have ak' := (HW2.out.cell (World.block_lt_of_cell? _ _ ak)).trans ak
              have x0' := (HW2.out.cell (World.block_lt_of_cell? _ _ HX0.out)).trans HX0.out
              have z0' := (HV2.out.cell (World.block_lt_of_cell? _ _ HZ.out.1)).trans HZ.out.1
              have z1' := (HV2.out.cell (World.block_lt_of_cell? _ _ HZ.out.2)).trans HZ.out.2
              have bl : ∀ {W : World} {p : Addr} {u : Value}, wr.cell? p = some u → Below wr.heap.size wr W → W.cell? p = some u := fun {W p u} hc hb => (hb.cell (World.block_lt_of_cell? _ _ hc)).trans hc
              have HS2 : Hid (∀ W, Below wr.heap.size wr W → W.cell? ⟨g1, o1 + k, none⟩ = some (.slice (some ⟨g3, o3, none⟩) lk.length capk) ∧ W.cell? ⟨gk, ok + i * 2, none⟩ = some (.int .i64 zo) ∧ W.cell? ⟨gk, ok + i * 2 + 1, none⟩ = some (.int .i64 zs) ∧ W.cell? ⟨g3, o3 + jk * 3 + 2, none⟩ = some (.slice ady yn.length capy) ∧ W.cell? ⟨gf, of' + a, none⟩ = some (.int .i64 x)) := Lib.hid (fun W hb => ⟨bl ak' hb, bl z0' hb, bl z1' hb, bl b3c hb, bl x0' hb⟩)
              have HS0 : Hid (∀ W, Below wr.heap.size wr W → W.cell? ⟨gk, ok + i * 2, none⟩ = some (.int .i64 zo)) := Lib.hid (fun W hb => bl z0' hb)
              have CF2 : Hid (∀ W, Below wr.heap.size wr W → Calls Try.prog 40 #[.slice (some ⟨g3, o3, none⟩) lk.length capk, .agg #[.int .i64 zo, .int .i64 zs]] W fun e w' => e = .returned (.int .i64 (jk : Int)) ∧ Below W.heap.size W w') := Lib.hid (fun W hb => by rw [← hfk]; exact find_c lk zo zs _ W (HPK.out.below hb) (by omega))
              obtain ⟨AT, hAT⟩ : ∃ AT, AT = inL yn (IntKind.i64.wrap (x + (k : Int))) := ⟨_, rfl⟩
              have CT2 : Hid (∀ W, Below wr.heap.size wr W → Calls Try.prog 42 #[.slice ady yn.length capy, .int .i64 (IntKind.i64.wrap (x + (k : Int)))] W fun e w' => e = .returned (.bool AT) ∧ W = w') := Lib.hid (fun W hb => by rw [hAT]; exact at_c yn _ _ W (HYA.out.below hb) hnsk)
              have hjkl : jk < lk.length := hjk
              have haf2 : a < fn.length := HAF.out
              have hi3 : (IN && (AT && hitF zo zs x (k + 1) (ls.drop (k + 1)))) = hitF zo zs x 0 ls := by rw [hAT]; exact hi2
              clear ak mk kk hfk hnk qk d3 b3 b3c hya ak' x0' z0' z1' bl hAT hi2 HI
              cases IN with
              | true =>
                rw [Bool.true_and] at hi3
                have HI3 := Lib.hid hi3
                clear hi3 HS0
                go_wp2_with fail
                refine wp_region_held_drew (S := fun W => W.cell? ⟨g1, o1 + k, none⟩ = some (.slice (some ⟨g3, o3, none⟩) lk.length capk) ∧ W.cell? ⟨gk, ok + i * 2, none⟩ = some (.int .i64 zo) ∧ W.cell? ⟨gk, ok + i * 2 + 1, none⟩ = some (.int .i64 zs) ∧ W.cell? ⟨g3, o3 + jk * 3 + 2, none⟩ = some (.slice ady yn.length capy) ∧ W.cell? ⟨gf, of' + a, none⟩ = some (.int .i64 x)) (by kernel_rfl) (HS2.out _ (Below.refl _ _).drew) (fun hHeld => ?_)
                refine take_ok (i := 0) (d := 45) (v := ?_) rfl rfl (by kernel_rfl) (by kernel_rfl) (by kernel_rfl) (fun _ _ _ h => h) (Or.inl ⟨by rfl, ?_⟩) (by assumption) ?_
                rotate_left
                · intro w9 hSw
                  try dsimp only at hSw
                  first | (go_simp; done) | (go_simp; with_reducible rfl)
                try simp only [Act.put, List.setIfInBounds_toArray, List.set_cons_zero, List.set_cons_succ]
                refine take_ok (i := 1) (d := 46) (v := ?_) rfl rfl (by kernel_rfl) (by kernel_rfl) (by kernel_rfl) (fun _ _ _ h => h) (Or.inl ⟨by rfl, ?_⟩) (by assumption) ?_
                rotate_left
                · intro w9 hSw
                  try dsimp only at hSw
                  first | (go_simp; done) | (go_simp; with_reducible rfl)
                try simp only [Act.put, List.setIfInBounds_toArray, List.set_cons_zero, List.set_cons_succ]
                refine take_ok (i := 2) (d := 47) (v := ?_) rfl rfl (by kernel_rfl) (by kernel_rfl) (by kernel_rfl) (fun _ _ _ h => h) (Or.inl ⟨by rfl, ?_⟩) (by assumption) ?_
                rotate_left
                · intro w9 hSw
                  try dsimp only at hSw
                  first | (go_simp; done) | (go_simp; with_reducible rfl)
                try simp only [Act.put, List.setIfInBounds_toArray, List.set_cons_zero, List.set_cons_succ]
                refine take_ok (i := 3) (d := 48) (v := ?_) rfl rfl (by kernel_rfl) (by kernel_rfl) (by kernel_rfl) (fun _ _ _ h => h) (Or.inl ⟨by rfl, ?_⟩) (by assumption) ?_
                rotate_left
                · intro w9 hSw
                  try dsimp only at hSw
                  first | (go_simp; done) | (go_simp; with_reducible rfl)
                try simp only [Act.put, List.setIfInBounds_toArray, List.set_cons_zero, List.set_cons_succ]
                refine take_ok (i := 4) (d := 49) (v := ?_) rfl rfl (by kernel_rfl) (by kernel_rfl) (by kernel_rfl) (fun _ _ _ h => h) (Or.inl ⟨by rfl, ?_⟩) (by assumption) ?_
                rotate_left
                · intro w9 hSw
                  try dsimp only at hSw
                  first | (go_simp; done) | (go_simp; with_reducible rfl)
                try simp only [Act.put, List.setIfInBounds_toArray, List.set_cons_zero, List.set_cons_succ]
                refine take_ok (i := 5) (d := 50) (v := ?_) rfl rfl (by kernel_rfl) (by kernel_rfl) (by kernel_rfl) (fun _ _ _ h => h) (Or.inl ⟨by rfl, ?_⟩) (by assumption) ?_
                rotate_left
                · intro w9 hSw
                  try dsimp only at hSw
                  first | (go_simp; done) | (go_simp; with_reducible rfl)
                try simp only [Act.put, List.setIfInBounds_toArray, List.set_cons_zero, List.set_cons_succ]
                refine take_ok (i := 6) (d := 51) (v := ?_) rfl rfl (by kernel_rfl) (by kernel_rfl) (by kernel_rfl) (fun _ _ _ h => h) (Or.inl ⟨by rfl, ?_⟩) (by assumption) ?_
                rotate_left
                · intro w9 hSw
                  try dsimp only at hSw
                  first | (go_simp; done) | (go_simp; with_reducible rfl)
                try simp only [Act.put, List.setIfInBounds_toArray, List.set_cons_zero, List.set_cons_succ]
                refine take_ok (i := 7) (d := 52) (v := ?_) rfl rfl (by kernel_rfl) (by kernel_rfl) (by kernel_rfl) (fun _ _ _ h => h) (Or.inl ⟨by rfl, ?_⟩) (by assumption) ?_
                rotate_left
                · intro w9 hSw
                  try dsimp only at hSw
                  first | (go_simp; done) | (go_simp; with_reducible rfl)
                try simp only [Act.put, List.setIfInBounds_toArray, List.set_cons_zero, List.set_cons_succ]
                refine take_ok (i := 8) (d := 53) (v := ?_) rfl rfl (by kernel_rfl) (by kernel_rfl) (by kernel_rfl) (fun _ _ _ h => h) (Or.inl ⟨by rfl, ?_⟩) (by assumption) ?_
                rotate_left
                · intro w9 hSw
                  try dsimp only at hSw
                  first | (go_simp; done) | (go_simp; with_reducible rfl)
                try simp only [Act.put, List.setIfInBounds_toArray, List.set_cons_zero, List.set_cons_succ]
                refine take_ok (i := 9) (d := 54) (v := ?_) rfl rfl (by kernel_rfl) (by kernel_rfl) (by kernel_rfl) (fun _ _ _ h => h) (Or.inl ⟨by rfl, ?_⟩) (by assumption) ?_
                rotate_left
                · intro w9 hSw
                  try dsimp only at hSw
                  first | (go_simp; done) | (go_simp; with_reducible rfl)
                try simp only [Act.put, List.setIfInBounds_toArray, List.set_cons_zero, List.set_cons_succ]
                refine take_ok (i := 10) (d := 55) (v := ?_) rfl rfl (by kernel_rfl) (by kernel_rfl) (by kernel_rfl) (fun _ _ _ h => h) (Or.inl ⟨by rfl, ?_⟩) (by assumption) ?_
                rotate_left
                · intro w9 hSw
                  try dsimp only at hSw
                  first | (go_simp; done) | (go_simp; with_reducible rfl)
                try simp only [Act.put, List.setIfInBounds_toArray, List.set_cons_zero, List.set_cons_succ]
                refine take_ok (i := 11) (d := 56) (v := ?_) rfl rfl (by kernel_rfl) (by kernel_rfl) (by kernel_rfl) (fun _ _ _ h => h) (Or.inl ⟨by rfl, ?_⟩) (by assumption) ?_
                rotate_left
                · intro w9 hSw
                  try dsimp only at hSw
                  first | (go_simp; done) | (go_simp; with_reducible rfl)
                try simp only [Act.put, List.setIfInBounds_toArray, List.set_cons_zero, List.set_cons_succ]
                refine take_ok (i := 12) (d := 57) (v := ?_) rfl rfl (by kernel_rfl) (by kernel_rfl) (by kernel_rfl) (fun _ _ _ h => h) (Or.inl ⟨by rfl, ?_⟩) (by assumption) ?_
                rotate_left
                · intro w9 hSw
                  try dsimp only at hSw
                  first | (go_simp; done) | (go_simp; with_reducible rfl)
                try simp only [Act.put, List.setIfInBounds_toArray, List.set_cons_zero, List.set_cons_succ]
                refine take_ok (i := 13) (d := 58) (v := ?_) rfl rfl (by kernel_rfl) (by kernel_rfl) (by kernel_rfl) (fun _ _ _ h => h) (Or.inl ⟨by rfl, ?_⟩) (by assumption) ?_
                rotate_left
                · intro w9 hSw
                  try dsimp only at hSw
                  first | (go_simp; done) | (go_simp; with_reducible rfl)
                try simp only [Act.put, List.setIfInBounds_toArray, List.set_cons_zero, List.set_cons_succ]
                refine take_ok (i := 18) (d := 63) (v := ?_) rfl rfl (by kernel_rfl) (by kernel_rfl) (by kernel_rfl) (fun _ _ _ h => h) (Or.inl ⟨by rfl, ?_⟩) (by assumption) ?_
                rotate_left
                · intro w9 hSw
                  try dsimp only at hSw
                  first | (go_simp; done) | (go_simp; with_reducible rfl)
                try simp only [Act.put, List.setIfInBounds_toArray, List.set_cons_zero, List.set_cons_succ]
                refine take_ok (i := 19) (d := 64) (v := ?_) rfl rfl (by kernel_rfl) (by kernel_rfl) (by kernel_rfl) (fun _ _ _ h => h) (Or.inl ⟨by rfl, ?_⟩) (by assumption) ?_
                rotate_left
                · intro w9 hSw
                  try dsimp only at hSw
                  first | (go_simp; done) | (go_simp; with_reducible rfl)
                try simp only [Act.put, List.setIfInBounds_toArray, List.set_cons_zero, List.set_cons_succ]
                refine take_ok (i := 20) (d := 65) (v := ?_) rfl rfl (by kernel_rfl) (by kernel_rfl) (by kernel_rfl) (fun _ _ _ h => h) (Or.inl ⟨by rfl, ?_⟩) (by assumption) ?_
                rotate_left
                · intro w9 hSw
                  try dsimp only at hSw
                  first | (go_simp; done) | (go_simp; with_reducible rfl)
                try simp only [Act.put, List.setIfInBounds_toArray, List.set_cons_zero, List.set_cons_succ]
                refine take_ok (i := 21) (d := 66) (v := ?_) rfl rfl (by kernel_rfl) (by kernel_rfl) (by kernel_rfl) (fun _ _ _ h => h) (Or.inl ⟨by rfl, ?_⟩) (by assumption) ?_
                rotate_left
                · intro w9 hSw
                  try dsimp only at hSw
                  first | (go_simp; done) | (go_simp; with_reducible rfl)
                try simp only [Act.put, List.setIfInBounds_toArray, List.set_cons_zero, List.set_cons_succ]
                refine take_ok (i := 22) (d := 67) (v := ?_) rfl rfl (by kernel_rfl) (by kernel_rfl) (by kernel_rfl) (fun _ _ _ h => h) (Or.inl ⟨by rfl, ?_⟩) (by assumption) ?_
                rotate_left
                · intro w9 hSw
                  try dsimp only at hSw
                  first | (go_simp; done) | (go_simp; with_reducible rfl)
                try simp only [Act.put, List.setIfInBounds_toArray, List.set_cons_zero, List.set_cons_succ]
                refine take_ok (i := 23) (d := 68) (v := ?_) rfl rfl (by kernel_rfl) (by kernel_rfl) (by kernel_rfl) (fun _ _ _ h => h) (Or.inl ⟨by rfl, ?_⟩) (by assumption) ?_
                rotate_left
                · intro w9 hSw
                  try dsimp only at hSw
                  first | (go_simp; done) | (go_simp; with_reducible rfl)
                try simp only [Act.put, List.setIfInBounds_toArray, List.set_cons_zero, List.set_cons_succ]
                refine wpAnyH_ready (rs := [14]) (by kernel_rfl) (by simp) ?_
                refine AllReadyH.cons rfl (fun K hK => ?_) AllReadyH.nil
                go_simp
                refine (CF2.out _ (by first | exact (Below.refl _ _).drew | exact Below.refl _ _)).mono ?_
                rintro e w5 ⟨rfl, b5⟩
                have b5' : Below wr.heap.size wr w5 := bn (by first | exact (Below.refl _ _).drew | exact Below.refl _ _) b5
                refine hK.out _ _ (HS2.out _ b5') (fun hHeld => ?_)
                clear hK K
                try simp only [Act.put, List.setIfInBounds_toArray, List.set_cons_zero, List.set_cons_succ]
                refine take_ok (i := 15) (d := 60) (v := ?_) rfl rfl (by kernel_rfl) (by kernel_rfl) (by kernel_rfl) (fun _ _ _ h => h) (Or.inl ⟨by rfl, ?_⟩) (by assumption) ?_
                rotate_left
                · intro w9 hSw
                  try dsimp only at hSw
                  first | (go_simp; done) | (go_simp; with_reducible rfl)
                try simp only [Act.put, List.setIfInBounds_toArray, List.set_cons_zero, List.set_cons_succ]
                refine take_ok (i := 16) (d := 61) (v := ?_) rfl rfl (by kernel_rfl) (by kernel_rfl) (by kernel_rfl) (fun _ _ _ h => h) (Or.inl ⟨by rfl, ?_⟩) (by assumption) ?_
                rotate_left
                · intro w9 hSw
                  try dsimp only at hSw
                  first | (go_simp; done) | (go_simp; with_reducible rfl)
                try simp only [Act.put, List.setIfInBounds_toArray, List.set_cons_zero, List.set_cons_succ]
                refine take_ok (i := 17) (d := 62) (v := ?_) rfl rfl (by kernel_rfl) (by kernel_rfl) (by kernel_rfl) (fun _ _ _ h => h) (Or.inl ⟨by rfl, ?_⟩) (by assumption) ?_
                rotate_left
                · intro w9 hSw
                  try dsimp only at hSw
                  first | (go_simp; done) | (go_simp; with_reducible rfl)
                try simp only [Act.put, List.setIfInBounds_toArray, List.set_cons_zero, List.set_cons_succ]
                refine wpAnyH_ready (rs := [24]) (by kernel_rfl) (by simp) ?_
                refine AllReadyH.cons rfl (fun K hK => ?_) AllReadyH.nil
                go_simp
                refine (CT2.out _ b5').mono ?_
                rintro e w6 ⟨rfl, rfl⟩
                refine hK.out _ _ (HS2.out _ b5') (fun hHeld => ?_)
                clear hK K
                try simp only [Act.put, List.setIfInBounds_toArray, List.set_cons_zero, List.set_cons_succ]
                refine take_ok (i := 25) (d := 70) (v := ?_) rfl rfl (by kernel_rfl) (by kernel_rfl) (by kernel_rfl) (fun _ _ _ h => h) (Or.inl ⟨by rfl, ?_⟩) (by assumption) ?_
                rotate_left
                · intro w9 hSw
                  try dsimp only at hSw
                  first | (go_simp; done) | (go_simp; with_reducible rfl)
                try simp only [Act.put, List.setIfInBounds_toArray, List.set_cons_zero, List.set_cons_succ]
                refine take_ok (i := 26) (d := 9) (v := ?_) rfl rfl (by kernel_rfl) (by kernel_rfl) (by kernel_rfl) (fun _ _ _ h => h) (Or.inl ⟨by rfl, ?_⟩) (by assumption) ?_
                rotate_left
                · intro w9 hSw
                  try dsimp only at hSw
                  first | (go_simp; done) | (go_simp; with_reducible rfl)
                try simp only [Act.put, List.setIfInBounds_toArray, List.set_cons_zero, List.set_cons_succ]
                refine wpAnyH_done (by kernel_rfl) ?_ _
                have HB6 := Lib.hid (bn HV2.out b5')
                clear b5 b5' hHeld HS2 CF2 CT2
                go_wp2
                go_roundw
                case rel => exact ⟨k + 1, AT, HQ.out, by go_num, by first | rfl | simp, HI3, HB6⟩
                case measure => have := HQ.out; simp [intOf]; omega
              | false =>
                rw [Bool.false_and] at hi3
                have HI3 : Hid ((false && hitF zo zs x (k + 1) (ls.drop (k + 1))) = hitF zo zs x 0 ls) := Lib.hid (by rw [Bool.false_and]; exact hi3)
                clear hi3 HS2 CF2 CT2
                go_wp2_with fail
                refine wp_region_held_drew (S := fun W => W.cell? ⟨gk, ok + i * 2, none⟩ = some (.int .i64 zo)) (by kernel_rfl) (HS0.out _ (Below.refl _ _).drew) (fun hHeld => ?_)
                refine take_ok (i := 0) (d := 45) (v := ?_) rfl rfl (by kernel_rfl) (by kernel_rfl) (by kernel_rfl) (fun _ _ _ h => h) (Or.inl ⟨by rfl, ?_⟩) (by assumption) ?_
                rotate_left
                · intro w9 hSw
                  try dsimp only at hSw
                  first | (go_simp; done) | (go_simp; with_reducible rfl)
                try simp only [Act.put, List.setIfInBounds_toArray, List.set_cons_zero, List.set_cons_succ]
                refine take_ok (i := 1) (d := 46) (v := ?_) rfl rfl (by kernel_rfl) (by kernel_rfl) (by kernel_rfl) (fun _ _ _ h => h) (Or.inl ⟨by rfl, ?_⟩) (by assumption) ?_
                rotate_left
                · intro w9 hSw
                  try dsimp only at hSw
                  first | (go_simp; done) | (go_simp; with_reducible rfl)
                try simp only [Act.put, List.setIfInBounds_toArray, List.set_cons_zero, List.set_cons_succ]
                refine take_ok (i := 2) (d := 47) (v := undef) rfl rfl (by kernel_rfl) (by kernel_rfl) (by kernel_rfl) (fun _ _ _ h => h) (Or.inr ⟨by rfl, rfl⟩) (by assumption) ?_
                try simp only [Act.put, List.setIfInBounds_toArray, List.set_cons_zero, List.set_cons_succ]
                refine take_ok (i := 3) (d := 48) (v := undef) rfl rfl (by kernel_rfl) (by kernel_rfl) (by kernel_rfl) (fun _ _ _ h => h) (Or.inr ⟨by rfl, rfl⟩) (by assumption) ?_
                try simp only [Act.put, List.setIfInBounds_toArray, List.set_cons_zero, List.set_cons_succ]
                refine take_ok (i := 4) (d := 49) (v := undef) rfl rfl (by kernel_rfl) (by kernel_rfl) (by kernel_rfl) (fun _ _ _ h => h) (Or.inr ⟨by rfl, rfl⟩) (by assumption) ?_
                try simp only [Act.put, List.setIfInBounds_toArray, List.set_cons_zero, List.set_cons_succ]
                refine take_ok (i := 5) (d := 50) (v := undef) rfl rfl (by kernel_rfl) (by kernel_rfl) (by kernel_rfl) (fun _ _ _ h => h) (Or.inr ⟨by rfl, rfl⟩) (by assumption) ?_
                try simp only [Act.put, List.setIfInBounds_toArray, List.set_cons_zero, List.set_cons_succ]
                refine take_ok (i := 6) (d := 51) (v := undef) rfl rfl (by kernel_rfl) (by kernel_rfl) (by kernel_rfl) (fun _ _ _ h => h) (Or.inr ⟨by rfl, rfl⟩) (by assumption) ?_
                try simp only [Act.put, List.setIfInBounds_toArray, List.set_cons_zero, List.set_cons_succ]
                refine take_ok (i := 7) (d := 52) (v := undef) rfl rfl (by kernel_rfl) (by kernel_rfl) (by kernel_rfl) (fun _ _ _ h => h) (Or.inr ⟨by rfl, rfl⟩) (by assumption) ?_
                try simp only [Act.put, List.setIfInBounds_toArray, List.set_cons_zero, List.set_cons_succ]
                refine take_ok (i := 8) (d := 53) (v := undef) rfl rfl (by kernel_rfl) (by kernel_rfl) (by kernel_rfl) (fun _ _ _ h => h) (Or.inr ⟨by rfl, rfl⟩) (by assumption) ?_
                try simp only [Act.put, List.setIfInBounds_toArray, List.set_cons_zero, List.set_cons_succ]
                refine take_ok (i := 9) (d := 54) (v := undef) rfl rfl (by kernel_rfl) (by kernel_rfl) (by kernel_rfl) (fun _ _ _ h => h) (Or.inr ⟨by rfl, rfl⟩) (by assumption) ?_
                try simp only [Act.put, List.setIfInBounds_toArray, List.set_cons_zero, List.set_cons_succ]
                refine take_ok (i := 10) (d := 55) (v := undef) rfl rfl (by kernel_rfl) (by kernel_rfl) (by kernel_rfl) (fun _ _ _ h => h) (Or.inr ⟨by rfl, rfl⟩) (by assumption) ?_
                try simp only [Act.put, List.setIfInBounds_toArray, List.set_cons_zero, List.set_cons_succ]
                refine take_ok (i := 11) (d := 56) (v := undef) rfl rfl (by kernel_rfl) (by kernel_rfl) (by kernel_rfl) (fun _ _ _ h => h) (Or.inr ⟨by rfl, rfl⟩) (by assumption) ?_
                try simp only [Act.put, List.setIfInBounds_toArray, List.set_cons_zero, List.set_cons_succ]
                refine take_ok (i := 12) (d := 57) (v := undef) rfl rfl (by kernel_rfl) (by kernel_rfl) (by kernel_rfl) (fun _ _ _ h => h) (Or.inr ⟨by rfl, rfl⟩) (by assumption) ?_
                try simp only [Act.put, List.setIfInBounds_toArray, List.set_cons_zero, List.set_cons_succ]
                refine take_ok (i := 13) (d := 58) (v := undef) rfl rfl (by kernel_rfl) (by kernel_rfl) (by kernel_rfl) (fun _ _ _ h => h) (Or.inr ⟨by rfl, rfl⟩) (by assumption) ?_
                try simp only [Act.put, List.setIfInBounds_toArray, List.set_cons_zero, List.set_cons_succ]
                refine take_ok (i := 14) (d := 59) (v := undef) rfl rfl (by kernel_rfl) (by kernel_rfl) (by kernel_rfl) (fun _ _ _ h => h) (Or.inr ⟨by rfl, rfl⟩) (by assumption) ?_
                try simp only [Act.put, List.setIfInBounds_toArray, List.set_cons_zero, List.set_cons_succ]
                refine take_ok (i := 15) (d := 60) (v := undef) rfl rfl (by kernel_rfl) (by kernel_rfl) (by kernel_rfl) (fun _ _ _ h => h) (Or.inr ⟨by rfl, rfl⟩) (by assumption) ?_
                try simp only [Act.put, List.setIfInBounds_toArray, List.set_cons_zero, List.set_cons_succ]
                refine take_ok (i := 16) (d := 61) (v := undef) rfl rfl (by kernel_rfl) (by kernel_rfl) (by kernel_rfl) (fun _ _ _ h => h) (Or.inr ⟨by rfl, rfl⟩) (by assumption) ?_
                try simp only [Act.put, List.setIfInBounds_toArray, List.set_cons_zero, List.set_cons_succ]
                refine take_ok (i := 17) (d := 62) (v := undef) rfl rfl (by kernel_rfl) (by kernel_rfl) (by kernel_rfl) (fun _ _ _ h => h) (Or.inr ⟨by rfl, rfl⟩) (by assumption) ?_
                try simp only [Act.put, List.setIfInBounds_toArray, List.set_cons_zero, List.set_cons_succ]
                refine take_ok (i := 18) (d := 63) (v := undef) rfl rfl (by kernel_rfl) (by kernel_rfl) (by kernel_rfl) (fun _ _ _ h => h) (Or.inr ⟨by rfl, rfl⟩) (by assumption) ?_
                try simp only [Act.put, List.setIfInBounds_toArray, List.set_cons_zero, List.set_cons_succ]
                refine take_ok (i := 19) (d := 64) (v := undef) rfl rfl (by kernel_rfl) (by kernel_rfl) (by kernel_rfl) (fun _ _ _ h => h) (Or.inr ⟨by rfl, rfl⟩) (by assumption) ?_
                try simp only [Act.put, List.setIfInBounds_toArray, List.set_cons_zero, List.set_cons_succ]
                refine take_ok (i := 20) (d := 65) (v := undef) rfl rfl (by kernel_rfl) (by kernel_rfl) (by kernel_rfl) (fun _ _ _ h => h) (Or.inr ⟨by rfl, rfl⟩) (by assumption) ?_
                try simp only [Act.put, List.setIfInBounds_toArray, List.set_cons_zero, List.set_cons_succ]
                refine take_ok (i := 21) (d := 66) (v := undef) rfl rfl (by kernel_rfl) (by kernel_rfl) (by kernel_rfl) (fun _ _ _ h => h) (Or.inr ⟨by rfl, rfl⟩) (by assumption) ?_
                try simp only [Act.put, List.setIfInBounds_toArray, List.set_cons_zero, List.set_cons_succ]
                refine take_ok (i := 22) (d := 67) (v := undef) rfl rfl (by kernel_rfl) (by kernel_rfl) (by kernel_rfl) (fun _ _ _ h => h) (Or.inr ⟨by rfl, rfl⟩) (by assumption) ?_
                try simp only [Act.put, List.setIfInBounds_toArray, List.set_cons_zero, List.set_cons_succ]
                refine take_ok (i := 23) (d := 68) (v := undef) rfl rfl (by kernel_rfl) (by kernel_rfl) (by kernel_rfl) (fun _ _ _ h => h) (Or.inr ⟨by rfl, rfl⟩) (by assumption) ?_
                try simp only [Act.put, List.setIfInBounds_toArray, List.set_cons_zero, List.set_cons_succ]
                refine take_ok (i := 24) (d := 69) (v := undef) rfl rfl (by kernel_rfl) (by kernel_rfl) (by kernel_rfl) (fun _ _ _ h => h) (Or.inr ⟨by rfl, rfl⟩) (by assumption) ?_
                try simp only [Act.put, List.setIfInBounds_toArray, List.set_cons_zero, List.set_cons_succ]
                refine take_ok (i := 25) (d := 70) (v := ?_) rfl rfl (by kernel_rfl) (by kernel_rfl) (by kernel_rfl) (fun _ _ _ h => h) (Or.inl ⟨by rfl, ?_⟩) (by assumption) ?_
                rotate_left
                · intro w9 hSw
                  try dsimp only at hSw
                  first | (go_simp; done) | (go_simp; with_reducible rfl)
                try simp only [Act.put, List.setIfInBounds_toArray, List.set_cons_zero, List.set_cons_succ]
                refine take_ok (i := 26) (d := 9) (v := ?_) rfl rfl (by kernel_rfl) (by kernel_rfl) (by kernel_rfl) (fun _ _ _ h => h) (Or.inl ⟨by rfl, ?_⟩) (by assumption) ?_
                rotate_left
                · intro w9 hSw
                  try dsimp only at hSw
                  first | (go_simp; done) | (go_simp; with_reducible rfl)
                try simp only [Act.put, List.setIfInBounds_toArray, List.set_cons_zero, List.set_cons_succ]
                refine wpAnyH_done (by kernel_rfl) ?_ _
                have HB6 : Hid (Below w0.heap.size w0 wr.drew) := Lib.hid HV2.out.drew
                clear hHeld HS0
                go_wp2
                go_roundw
                case rel => exact ⟨k + 1, false, HQ.out, by go_num, rfl, HI3, HB6⟩
                case measure => have := HQ.out; simp [intOf]; omega
            · have hi2 := HI.out
              rw [List.drop_of_length_le (by omega), hitF, Bool.and_true] at hi2
              rw [← hi2] at hsm
              have HSM2 : Hid (((SM || IN) || (fn.drop (a + 1)).any fun x => hitF zo zs x 0 ls) = fn.any fun x => hitF zo zs x 0 ls) := Lib.hid (by rw [Bool.or_assoc]; exact hsm)
              clear hi2 hsm HI
              cases SM with
              | true =>
                go_wp2
                go_roundw
                case rel => exact ⟨a + 1, true, HAF.out, by go_num, rfl, Lib.hid (by have h := HSM2.out; rwa [Bool.true_or] at h), HV2⟩
                case measure => have := HAF.out; simp [intOf]; omega
              | false =>
                go_wp2
                go_roundw
                case rel => exact ⟨a + 1, IN, HAF.out, by go_num, rfl, Lib.hid (by have h := HSM2.out; rwa [Bool.false_or] at h), HV2⟩
                case measure => have := HAF.out; simp [intOf]; omega
        · have hsm := HSM.out
          rw [List.drop_of_length_le (by omega), List.any_nil, Bool.or_false, ← HFN.out] at hsm
          have HRW := Lib.hid (HR.out.below HV.out)
          have HXX := Lib.hid (bn HX.out HV.out)
          have z0' := (HV.out.cell (World.block_lt_of_cell? _ _ HZ.out.1)).trans HZ.out.1
          have z1' := (HV.out.cell (World.block_lt_of_cell? _ _ HZ.out.2)).trans HZ.out.2
          have hglz2 := World.block_lt_of_cell? _ _ z0'
          have hp2 := HP.out
          cases SM with
          | false =>
            have HF : Hid ((KS.take (i + 1)).filter (runs (pls ls)) = (KS.take i).filter (runs (pls ls))) := Lib.hid (by rw [HTK.out, ← hsm]; rfl)
            clear hsm HSM
            go_wp2
            go_roundw
            case rel => exact ⟨i + 1, HP.out, by go_num, Lib.hid (by rw [HF.out]; exact HRW.out), HXX⟩
            case measure => have := HP.out; simp [intOf]; omega
          | true =>
            have HF : Hid ((KS.take (i + 1)).filter (runs (pls ls)) = (KS.take i).filter (runs (pls ls)) ++ [(zo, zs)]) := Lib.hid (by rw [HTK.out, ← hsm]; rfl)
            obtain ⟨A, C, w8, run8, r8, b8⟩ := HRW.out.push zo zs (by have h1 := List.length_filter_le (runs (pls ls)) (KS.take i); have h2 := List.length_take_le i KS; omega) HXX.out.size 25 34
            have HR8 := Lib.hid run8
            have HK8 := Lib.hid r8
            have HB8 := Lib.hid b8
            clear hsm HSM run8 r8 b8
            go_wp2_with (at_builtin; refine wpList_append_run rfl _ _ 25 rfl _ _ HR8.out ?_; clear HR8)
            go_roundw
            case rel => exact ⟨i + 1, HP.out, by go_num, Lib.hid (by rw [HF.out]; exact HK8.out), Lib.hid (HXX.out.trans HB8.out)⟩
            case measure => have := HP.out; simp [intOf]; omega
    · have HO : Hid (phK (pls ls) = (KS.take i).filter (runs (pls ls))) := Lib.hid (by rw [HPH.out, show KS.take i = KS from List.take_of_length_le (by omega)])
      go_wp2
      go_ret
      exact ⟨_, rfl, by rw [HO.out]; exact own_mono HR.out HB2.out.size, HW.out⟩
end Go.Proofs.Ytgdajnjfkokmdaa
