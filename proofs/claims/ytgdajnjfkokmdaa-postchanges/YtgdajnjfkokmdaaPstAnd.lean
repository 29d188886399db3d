/-
  And of chapter 10's own answer, by contract.
-/
import Derived.Test.YtgdajnjfkokmdaaPstOr
namespace Go.Proofs.Ytgdajnjfkokmdaa
open Go.RowKit Go.Lib

theorem fnd_has (l : List Pv) (o s : Int) : decide (0 ≤ fndI 0 l o s) = hasK (ps l) (o, s) := by
  rcases fndI_spec l 0 o s with ⟨h1, h2⟩ | ⟨j, hj, h1, h2, _⟩
  · have h3 : hasK (ps l) (o, s) = false := by
      cases h : hasK (ps l) (o, s) with
      | false => rfl
      | true =>
        rw [hasK_iff, ps, List.map_map] at h
        obtain ⟨x, hx, e⟩ := List.mem_map.1 h
        exact absurd e (h2 x hx)
    rw [h1, h3]
    decide
  · have h3 : hasK (ps l) (o, s) = true := by
      rw [hasK_iff, ps, List.map_map]
      exact List.mem_map.2 ⟨l[j], List.getElem_mem hj, h2⟩
    rw [h1, h3]
    simp
def inAll (ls : List Lv) (x : Pv) : Bool := (pls ls).all fun m => hasK m (x.o, x.s)
def andL (ls : List Lv) (l : List Pv) : List Ky := kyL (l.filter (inAll ls))
theorem andL_take {ls : List Lv} {l : List Pv} {i : Nat} (hi : i < l.length) : andL ls (l.take (i + 1)) = if inAll ls l[i] then andL ls (l.take i) ++ [(l[i].o, l[i].s)] else andL ls (l.take i) := by
  unfold andL kyL
  rw [List.take_succ_eq_append_getElem hi, List.filter_append, List.map_append]
  cases h : inAll ls l[i] with
  | true => rw [List.filter_cons_of_pos h]; rfl
  | false => rw [List.filter_cons_of_neg (by rw [h]; simp)]; simp
theorem andL_len (ls : List Lv) (l : List Pv) : (andL ls l).length ≤ l.length := by
  unfold andL kyL
  rw [List.length_map]
  exact List.length_filter_le _ _
theorem andK_andL (y : Lv) (r : List Lv) (h : allMay (pls (y :: r)) = true) : andK (pls (y :: r)) = andL (y :: r) y.l := by
  have e : pls (y :: r) = ps y.l :: pls r := rfl
  rw [e] at h ⊢
  rw [andK_cons, if_pos h]
  unfold andL kyL inAll
  rw [e]
  unfold ps
  rw [List.filter_map, List.map_map]
  rfl
theorem andK_no {ls : List (List Po)} (h : allMay ls = false) : andK ls = [] := by
  cases ls with
  | nil => rfl
  | cons l r => rw [andK_cons, h]; rfl
set_option maxHeartbeats 16000000 in
theorem and_c (ls : List Lv) (v : Value) (w : World) (h : LRd w v ls) (hn : ls.length ≤ 1000) (hm : ∀ y ∈ ls, y.l.length ≤ 10000 ∧ ∀ x ∈ y.l, x.ns.length ≤ 1000000) :
    Calls Try.prog 14 #[v] w (keysT (andK (pls ls)) w) := by
  have HM := Lib.hid hm
  have HL := Lib.hid h
  obtain ⟨⟨ad, cap, rfl, _, k1⟩, k2⟩ := h
  have H1 := Lib.hid k1
  have H2 := Lib.hid k2
  have CA := Lib.hid (all_c ls _ w HL.out (by omega) (fun y hy => ⟨by have := (hm y hy).1; omega, (hm y hy).2⟩))
  clear k1 k2 hm
  rcases Nat.eq_zero_or_pos ls.length with h0 | h0
  · have h1 : ls = [] := List.length_eq_zero_iff.1 h0
    subst h1
    go_enter Try.func14, Try.ntmps14
    go_wp2
    go_ret
    exact ⟨_, rfl, KRow.nil _ _, Below.refl _ _⟩
  have e0 : ((ls.length : Int) == 0) = false := by rw [beq_eq_false_iff_ne]; omega
  cases h1 : allMay (pls ls) with
  | false =>
    rw [h1] at CA
    have HO := Lib.hid (andK_no h1)
    clear h1
    go_enter Try.func14, Try.ntmps14
    go_wp2_with fail
    refine CA.out.mono ?_
    rintro e w2 ⟨rfl, b2⟩
    have HB2 := Lib.hid b2
    clear b2 CA
    go_wp2
    go_ret
    exact ⟨_, rfl, by rw [HO.out]; exact KRow.nil _ _, HB2.out⟩
  | true =>
    rw [h1] at CA
    obtain ⟨g1, o1, rfl, c1⟩ := H1.out h0
    have a0 := c1 0 h0
    obtain ⟨l0, hl0⟩ : ∃ l0, l0 = ls[0].l := ⟨_, rfl⟩
    have p0 := H2.out _ (List.getElem_mem h0)
    have m0 := HM.out _ (List.getElem_mem h0)
    have HAN : Hid (andK (pls ls) = andL ls l0) := Lib.hid (by
      rw [hl0]
      cases ls with
      | nil => exact absurd h0 (by simp)
      | cons y r => exact andK_andL y r h1)
    rw [← hl0] at p0 m0
    obtain ⟨ad0, cap0, e1, _, p0'⟩ := id p0
    rw [e1, Nat.add_zero] at a0
    have HP0 := Lib.hid p0'
    have hm0 := m0.1
    have HA0 := Lib.hid a0
    have HC1 := Lib.hid c1
    have h0i : (0 : Int) < (ls.length : Int) := by omega
    clear h1 c1 hl0 p0 p0' e1 m0 a0
    go_enter Try.func14, Try.ntmps14
    go_wp2_with fail
    refine CA.out.mono ?_
    rintro e w2 ⟨rfl, b2⟩
    have HB2 := Lib.hid b2
    clear b2 CA
    go_wp2
    go_loopw [3, 4] (fun v3 v4 wr => ∃ i : Nat, i ≤ l0.length ∧ v4 = .int .i64 (i : Int) ∧ Hid (KRow wr w.heap.size v3 (andL ls (l0.take i))) ∧ Hid (Below w.heap.size w wr)) (fun _ v4 _ => l0.length - (intOf v4).toNat)
    case atStart => exact ⟨0, by omega, rfl, Lib.hid (KRow.nil _ _), HB2⟩
    case round =>
      clear HB2
      obtain ⟨i, hi, rfl, HR, HW⟩ := hrel
      obtain ⟨w0, rfl⟩ : ∃ w0, w0 = wr := ⟨_, rfl⟩
      have a0 := (HW.out.cell (World.block_lt_of_cell? _ _ HA0.out)).trans HA0.out
      have hgl0 := World.block_lt_of_cell? _ _ a0
      by_cases hp : i < l0.length
      · obtain ⟨g2, o2, rfl, c2⟩ := HP0.out (by omega)
        have b1 := (c2 i hp).below HW.out
        have HTK := Lib.hid (andL_take (ls := ls) hp)
        have HP := Lib.hid hp
        generalize hz : l0[i] = z at b1 HTK
        obtain ⟨zo, zs, za, zn⟩ := z
        have z0 := b1.c0
        have z1 := b1.c1
        simp only at z0 z1
        have HZ := Lib.hid (And.intro z0 z1)
        have hglz := World.block_lt_of_cell? _ _ z0
        clear c2 b1 hz
        go_wp2
        go_loopw [5, 6] (fun v5 v6 wr => ∃ (k : Nat) (IN : Bool), k ≤ ls.length ∧ v6 = .int .i64 (k : Int) ∧ v5 = .bool IN ∧ Hid ((IN && (pls (ls.drop k)).all fun m => hasK m (zo, zs)) = inAll ls ⟨zo, zs, za, zn⟩) ∧ Hid (Below w0.heap.size w0 wr)) (fun _ v6 _ => ls.length - (intOf v6).toNat)
        case atStart => exact ⟨0, true, by omega, rfl, rfl, Lib.hid rfl, Lib.hid (Below.refl _ _)⟩
        case round =>
          obtain ⟨k, IN, hk, rfl, rfl, HI, HV⟩ := hrel
          by_cases hq : k < ls.length
          · have HW2 := Lib.hid (bn HW.out HV.out)
            have ak := HC1.out k hq
            have pk := (HL.out.below HW2.out).2 _ (List.getElem_mem hq)
            have mk := HM.out _ (List.getElem_mem hq)
            have hi2 := HI.out
            rw [List.drop_eq_getElem_cons hq, pls, List.map_cons, List.all_cons] at hi2
            have HQ := Lib.hid hq
            generalize ls[k] = y at ak pk mk hi2
            obtain ⟨yv, lk⟩ := y
            simp only at ak pk mk hi2
            have HPK := Lib.hid pk
            obtain ⟨adk, capk, rfl, _, _⟩ := id pk
            have ak' := (HW2.out.cell (World.block_lt_of_cell? _ _ ak)).trans ak
            have a0' := (HW2.out.cell (World.block_lt_of_cell? _ _ HA0.out)).trans HA0.out
            have z0' := (HV.out.cell (World.block_lt_of_cell? _ _ HZ.out.1)).trans HZ.out.1
            have z1' := (HV.out.cell (World.block_lt_of_cell? _ _ HZ.out.2)).trans HZ.out.2
            have bl : ∀ {W : World} {p : Addr} {u : Value}, wr.cell? p = some u → Below wr.heap.size wr W → W.cell? p = some u := fun {W p u} hc hb => (hb.cell (World.block_lt_of_cell? _ _ hc)).trans hc
            have HS : Hid (∀ W, Below wr.heap.size wr W → W.cell? ⟨g1, o1 + k, none⟩ = some (.slice adk lk.length capk) ∧ W.cell? ⟨g1, o1, none⟩ = some (.slice (some ⟨g2, o2, none⟩) l0.length cap0) ∧ W.cell? ⟨g2, o2 + i * 3, none⟩ = some (.int .i64 zo) ∧ W.cell? ⟨g2, o2 + i * 3 + 1, none⟩ = some (.int .i64 zs)) := Lib.hid (fun W hb => ⟨bl ak' hb, bl a0' hb, bl z0' hb, bl z1' hb⟩)
            have HS0 : Hid (∀ W, Below wr.heap.size wr W → W.cell? ⟨g2, o2 + i * 3, none⟩ = some (.int .i64 zo)) := Lib.hid (fun W hb => bl z0' hb)
            obtain ⟨FI, hFI⟩ : ∃ FI, FI = fndI 0 lk zo zs := ⟨_, rfl⟩
            have CF : Hid (∀ W, Below wr.heap.size wr W → Calls Try.prog 40 #[.slice adk lk.length capk, .agg #[.int .i64 zo, .int .i64 zs]] W fun e w' => e = .returned (.int .i64 FI) ∧ Below W.heap.size W w') := Lib.hid (fun W hb => by rw [hFI]; exact find_c lk zo zs _ W (HPK.out.below hb) (by omega))
            have hFB := fnd_has lk zo zs
            rw [← hFI] at hFB
            obtain ⟨FBB, hFBB⟩ : ∃ FBB, FBB = hasK (ps lk) (zo, zs) := ⟨_, rfl⟩
            rw [← hFBB] at hFB
            have hi3 : (IN && (FBB && (pls (ls.drop (k + 1))).all fun m => hasK m (zo, zs))) = inAll ls ⟨zo, zs, za, zn⟩ := by rw [hFBB]; exact hi2
            clear ak pk mk ak' a0' z0' z1' bl hi2 HI hFI hFBB
            cases IN with
            | true =>
              rw [Bool.true_and] at hi3
              have HI3 := Lib.hid hi3
              clear hi3 HS0
              go_wp2_with fail
              refine wp_region_held_drew (S := fun W => W.cell? ⟨g1, o1 + k, none⟩ = some (.slice adk lk.length capk) ∧ W.cell? ⟨g1, o1, none⟩ = some (.slice (some ⟨g2, o2, none⟩) l0.length cap0) ∧ W.cell? ⟨g2, o2 + i * 3, none⟩ = some (.int .i64 zo) ∧ W.cell? ⟨g2, o2 + i * 3 + 1, none⟩ = some (.int .i64 zs)) (by kernel_rfl) (HS.out _ (Below.refl _ _).drew) (fun hHeld => ?_)
              refine take_ok (i := 0) (d := 29) (v := ?_) rfl rfl (by kernel_rfl) (by kernel_rfl) (by kernel_rfl) (fun _ _ _ h => h) (Or.inl ⟨by rfl, ?_⟩) (by assumption) ?_
              rotate_left
              · intro w9 hSw
                try dsimp only at hSw
                first | (go_simp; done) | (go_simp; with_reducible rfl)
              try simp only [Act.put, List.setIfInBounds_toArray, List.set_cons_zero, List.set_cons_succ]
              refine take_ok (i := 1) (d := 30) (v := ?_) rfl rfl (by kernel_rfl) (by kernel_rfl) (by kernel_rfl) (fun _ _ _ h => h) (Or.inl ⟨by rfl, ?_⟩) (by assumption) ?_
              rotate_left
              · intro w9 hSw
                try dsimp only at hSw
                first | (go_simp; done) | (go_simp; with_reducible rfl)
              try simp only [Act.put, List.setIfInBounds_toArray, List.set_cons_zero, List.set_cons_succ]
              refine take_ok (i := 2) (d := 31) (v := ?_) rfl rfl (by kernel_rfl) (by kernel_rfl) (by kernel_rfl) (fun _ _ _ h => h) (Or.inl ⟨by rfl, ?_⟩) (by assumption) ?_
              rotate_left
              · intro w9 hSw
                try dsimp only at hSw
                first | (go_simp; done) | (go_simp; with_reducible rfl)
              try simp only [Act.put, List.setIfInBounds_toArray, List.set_cons_zero, List.set_cons_succ]
              refine take_ok (i := 3) (d := 32) (v := ?_) rfl rfl (by kernel_rfl) (by kernel_rfl) (by kernel_rfl) (fun _ _ _ h => h) (Or.inl ⟨by rfl, ?_⟩) (by assumption) ?_
              rotate_left
              · intro w9 hSw
                try dsimp only at hSw
                first | (go_simp; done) | (go_simp; with_reducible rfl)
              try simp only [Act.put, List.setIfInBounds_toArray, List.set_cons_zero, List.set_cons_succ]
              refine take_ok (i := 4) (d := 33) (v := ?_) rfl rfl (by kernel_rfl) (by kernel_rfl) (by kernel_rfl) (fun _ _ _ h => h) (Or.inl ⟨by rfl, ?_⟩) (by assumption) ?_
              rotate_left
              · intro w9 hSw
                try dsimp only at hSw
                first | (go_simp; done) | (go_simp; with_reducible rfl)
              try simp only [Act.put, List.setIfInBounds_toArray, List.set_cons_zero, List.set_cons_succ]
              refine take_ok (i := 5) (d := 34) (v := ?_) rfl rfl (by kernel_rfl) (by kernel_rfl) (by kernel_rfl) (fun _ _ _ h => h) (Or.inl ⟨by rfl, ?_⟩) (by assumption) ?_
              rotate_left
              · intro w9 hSw
                try dsimp only at hSw
                first | (go_simp; done) | (go_simp; with_reducible rfl)
              try simp only [Act.put, List.setIfInBounds_toArray, List.set_cons_zero, List.set_cons_succ]
              refine take_ok (i := 6) (d := 35) (v := ?_) rfl rfl (by kernel_rfl) (by kernel_rfl) (by kernel_rfl) (fun _ _ _ h => h) (Or.inl ⟨by rfl, ?_⟩) (by assumption) ?_
              rotate_left
              · intro w9 hSw
                try dsimp only at hSw
                first | (go_simp; done) | (go_simp; with_reducible rfl)
              try simp only [Act.put, List.setIfInBounds_toArray, List.set_cons_zero, List.set_cons_succ]
              refine take_ok (i := 7) (d := 36) (v := ?_) rfl rfl (by kernel_rfl) (by kernel_rfl) (by kernel_rfl) (fun _ _ _ h => h) (Or.inl ⟨by rfl, ?_⟩) (by assumption) ?_
              rotate_left
              · intro w9 hSw
                try dsimp only at hSw
                first | (go_simp; done) | (go_simp; with_reducible rfl)
              try simp only [Act.put, List.setIfInBounds_toArray, List.set_cons_zero, List.set_cons_succ]
              refine take_ok (i := 8) (d := 37) (v := ?_) rfl rfl (by kernel_rfl) (by kernel_rfl) (by kernel_rfl) (fun _ _ _ h => h) (Or.inl ⟨by rfl, ?_⟩) (by assumption) ?_
              rotate_left
              · intro w9 hSw
                try dsimp only at hSw
                first | (go_simp; done) | (go_simp; with_reducible rfl)
              try simp only [Act.put, List.setIfInBounds_toArray, List.set_cons_zero, List.set_cons_succ]
              refine take_ok (i := 9) (d := 38) (v := ?_) rfl rfl (by kernel_rfl) (by kernel_rfl) (by kernel_rfl) (fun _ _ _ h => h) (Or.inl ⟨by rfl, ?_⟩) (by assumption) ?_
              rotate_left
              · intro w9 hSw
                try dsimp only at hSw
                first | (go_simp; done) | (go_simp; with_reducible rfl)
              try simp only [Act.put, List.setIfInBounds_toArray, List.set_cons_zero, List.set_cons_succ]
              refine take_ok (i := 10) (d := 39) (v := ?_) rfl rfl (by kernel_rfl) (by kernel_rfl) (by kernel_rfl) (fun _ _ _ h => h) (Or.inl ⟨by rfl, ?_⟩) (by assumption) ?_
              rotate_left
              · intro w9 hSw
                try dsimp only at hSw
                first | (go_simp; done) | (go_simp; with_reducible rfl)
              try simp only [Act.put, List.setIfInBounds_toArray, List.set_cons_zero, List.set_cons_succ]
              refine take_ok (i := 11) (d := 40) (v := ?_) rfl rfl (by kernel_rfl) (by kernel_rfl) (by kernel_rfl) (fun _ _ _ h => h) (Or.inl ⟨by rfl, ?_⟩) (by assumption) ?_
              rotate_left
              · intro w9 hSw
                try dsimp only at hSw
                first | (go_simp; done) | (go_simp; with_reducible rfl)
              try simp only [Act.put, List.setIfInBounds_toArray, List.set_cons_zero, List.set_cons_succ]
              refine take_ok (i := 12) (d := 41) (v := ?_) rfl rfl (by kernel_rfl) (by kernel_rfl) (by kernel_rfl) (fun _ _ _ h => h) (Or.inl ⟨by rfl, ?_⟩) (by assumption) ?_
              rotate_left
              · intro w9 hSw
                try dsimp only at hSw
                first | (go_simp; done) | (go_simp; with_reducible rfl)
              try simp only [Act.put, List.setIfInBounds_toArray, List.set_cons_zero, List.set_cons_succ]
              refine wpAnyH_ready (rs := [13]) (by kernel_rfl) (by simp) ?_
              refine AllReadyH.cons rfl (fun K hK => ?_) AllReadyH.nil
              go_simp
              refine (CF.out _ (by first | exact (Below.refl _ _).drew | exact Below.refl _ _)).mono ?_
              rintro e w5 ⟨rfl, b5⟩
              have b5' : Below wr.heap.size wr w5 := bn (by first | exact (Below.refl _ _).drew | exact Below.refl _ _) b5
              refine hK.out _ _ (HS.out _ b5') (fun hHeld => ?_)
              clear hK K
              try simp only [Act.put, List.setIfInBounds_toArray, List.set_cons_zero, List.set_cons_succ]
              refine take_ok (i := 14) (d := 43) (v := ?_) rfl rfl (by kernel_rfl) (by kernel_rfl) (by kernel_rfl) (fun _ _ _ h => h) (Or.inl ⟨by rfl, ?_⟩) (by assumption) ?_
              rotate_left
              · intro w9 hSw
                try dsimp only at hSw
                first | (go_simp; done) | (go_simp; with_reducible rfl)
              try simp only [Act.put, List.setIfInBounds_toArray, List.set_cons_zero, List.set_cons_succ]
              refine take_ok (i := 15) (d := 44) (v := ?_) rfl rfl (by kernel_rfl) (by kernel_rfl) (by kernel_rfl) (fun _ _ _ h => h) (Or.inl ⟨by rfl, ?_⟩) (by assumption) ?_
              rotate_left
              · intro w9 hSw
                try dsimp only at hSw
                first | (go_simp; done) | (go_simp; with_reducible rfl)
              try simp only [Act.put, List.setIfInBounds_toArray, List.set_cons_zero, List.set_cons_succ]
              refine take_ok (i := 16) (d := 5) (v := ?_) rfl rfl (by kernel_rfl) (by kernel_rfl) (by kernel_rfl) (fun _ _ _ h => h) (Or.inl ⟨by rfl, ?_⟩) (by assumption) ?_
              rotate_left
              · intro w9 hSw
                try dsimp only at hSw
                first | (go_simp; done) | (go_simp; with_reducible rfl)
              try simp only [Act.put, List.setIfInBounds_toArray, List.set_cons_zero, List.set_cons_succ]
              refine wpAnyH_done (by kernel_rfl) ?_ _
              have HB5 := Lib.hid (bn HV.out b5')
              clear b5 b5' hHeld HS CF
              go_wp2
              go_roundw
              case rel => exact ⟨k + 1, FBB, HQ.out, by go_num, by first | rfl | (rw [hFB]; done) | simp [hFB], HI3, HB5⟩
              case measure => have := HQ.out; simp [intOf]; omega
            | false =>
              rw [Bool.false_and] at hi3
              have HI3 : Hid ((false && (pls (ls.drop (k + 1))).all fun m => hasK m (zo, zs)) = inAll ls ⟨zo, zs, za, zn⟩) := Lib.hid (by rw [Bool.false_and]; exact hi3)
              clear hi3 HS CF hFB
              go_wp2_with fail
              refine wp_region_held_drew (S := fun W => W.cell? ⟨g2, o2 + i * 3, none⟩ = some (.int .i64 zo)) (by kernel_rfl) (HS0.out _ (Below.refl _ _).drew) (fun hHeld => ?_)
              refine take_ok (i := 0) (d := 29) (v := ?_) rfl rfl (by kernel_rfl) (by kernel_rfl) (by kernel_rfl) (fun _ _ _ h => h) (Or.inl ⟨by rfl, ?_⟩) (by assumption) ?_
              rotate_left
              · intro w9 hSw
                try dsimp only at hSw
                first | (go_simp; done) | (go_simp; with_reducible rfl)
              try simp only [Act.put, List.setIfInBounds_toArray, List.set_cons_zero, List.set_cons_succ]
              refine take_ok (i := 1) (d := 30) (v := ?_) rfl rfl (by kernel_rfl) (by kernel_rfl) (by kernel_rfl) (fun _ _ _ h => h) (Or.inl ⟨by rfl, ?_⟩) (by assumption) ?_
              rotate_left
              · intro w9 hSw
                try dsimp only at hSw
                first | (go_simp; done) | (go_simp; with_reducible rfl)
              try simp only [Act.put, List.setIfInBounds_toArray, List.set_cons_zero, List.set_cons_succ]
              refine take_ok (i := 2) (d := 31) (v := undef) rfl rfl (by kernel_rfl) (by kernel_rfl) (by kernel_rfl) (fun _ _ _ h => h) (Or.inr ⟨by rfl, rfl⟩) (by assumption) ?_
              try simp only [Act.put, List.setIfInBounds_toArray, List.set_cons_zero, List.set_cons_succ]
              refine take_ok (i := 3) (d := 32) (v := undef) rfl rfl (by kernel_rfl) (by kernel_rfl) (by kernel_rfl) (fun _ _ _ h => h) (Or.inr ⟨by rfl, rfl⟩) (by assumption) ?_
              try simp only [Act.put, List.setIfInBounds_toArray, List.set_cons_zero, List.set_cons_succ]
              refine take_ok (i := 4) (d := 33) (v := undef) rfl rfl (by kernel_rfl) (by kernel_rfl) (by kernel_rfl) (fun _ _ _ h => h) (Or.inr ⟨by rfl, rfl⟩) (by assumption) ?_
              try simp only [Act.put, List.setIfInBounds_toArray, List.set_cons_zero, List.set_cons_succ]
              refine take_ok (i := 5) (d := 34) (v := undef) rfl rfl (by kernel_rfl) (by kernel_rfl) (by kernel_rfl) (fun _ _ _ h => h) (Or.inr ⟨by rfl, rfl⟩) (by assumption) ?_
              try simp only [Act.put, List.setIfInBounds_toArray, List.set_cons_zero, List.set_cons_succ]
              refine take_ok (i := 6) (d := 35) (v := undef) rfl rfl (by kernel_rfl) (by kernel_rfl) (by kernel_rfl) (fun _ _ _ h => h) (Or.inr ⟨by rfl, rfl⟩) (by assumption) ?_
              try simp only [Act.put, List.setIfInBounds_toArray, List.set_cons_zero, List.set_cons_succ]
              refine take_ok (i := 7) (d := 36) (v := undef) rfl rfl (by kernel_rfl) (by kernel_rfl) (by kernel_rfl) (fun _ _ _ h => h) (Or.inr ⟨by rfl, rfl⟩) (by assumption) ?_
              try simp only [Act.put, List.setIfInBounds_toArray, List.set_cons_zero, List.set_cons_succ]
              refine take_ok (i := 8) (d := 37) (v := undef) rfl rfl (by kernel_rfl) (by kernel_rfl) (by kernel_rfl) (fun _ _ _ h => h) (Or.inr ⟨by rfl, rfl⟩) (by assumption) ?_
              try simp only [Act.put, List.setIfInBounds_toArray, List.set_cons_zero, List.set_cons_succ]
              refine take_ok (i := 9) (d := 38) (v := undef) rfl rfl (by kernel_rfl) (by kernel_rfl) (by kernel_rfl) (fun _ _ _ h => h) (Or.inr ⟨by rfl, rfl⟩) (by assumption) ?_
              try simp only [Act.put, List.setIfInBounds_toArray, List.set_cons_zero, List.set_cons_succ]
              refine take_ok (i := 10) (d := 39) (v := undef) rfl rfl (by kernel_rfl) (by kernel_rfl) (by kernel_rfl) (fun _ _ _ h => h) (Or.inr ⟨by rfl, rfl⟩) (by assumption) ?_
              try simp only [Act.put, List.setIfInBounds_toArray, List.set_cons_zero, List.set_cons_succ]
              refine take_ok (i := 11) (d := 40) (v := undef) rfl rfl (by kernel_rfl) (by kernel_rfl) (by kernel_rfl) (fun _ _ _ h => h) (Or.inr ⟨by rfl, rfl⟩) (by assumption) ?_
              try simp only [Act.put, List.setIfInBounds_toArray, List.set_cons_zero, List.set_cons_succ]
              refine take_ok (i := 12) (d := 41) (v := undef) rfl rfl (by kernel_rfl) (by kernel_rfl) (by kernel_rfl) (fun _ _ _ h => h) (Or.inr ⟨by rfl, rfl⟩) (by assumption) ?_
              try simp only [Act.put, List.setIfInBounds_toArray, List.set_cons_zero, List.set_cons_succ]
              refine take_ok (i := 13) (d := 42) (v := undef) rfl rfl (by kernel_rfl) (by kernel_rfl) (by kernel_rfl) (fun _ _ _ h => h) (Or.inr ⟨by rfl, rfl⟩) (by assumption) ?_
              try simp only [Act.put, List.setIfInBounds_toArray, List.set_cons_zero, List.set_cons_succ]
              refine take_ok (i := 14) (d := 43) (v := undef) rfl rfl (by kernel_rfl) (by kernel_rfl) (by kernel_rfl) (fun _ _ _ h => h) (Or.inr ⟨by rfl, rfl⟩) (by assumption) ?_
              try simp only [Act.put, List.setIfInBounds_toArray, List.set_cons_zero, List.set_cons_succ]
              refine take_ok (i := 15) (d := 44) (v := ?_) rfl rfl (by kernel_rfl) (by kernel_rfl) (by kernel_rfl) (fun _ _ _ h => h) (Or.inl ⟨by rfl, ?_⟩) (by assumption) ?_
              rotate_left
              · intro w9 hSw
                try dsimp only at hSw
                first | (go_simp; done) | (go_simp; with_reducible rfl)
              try simp only [Act.put, List.setIfInBounds_toArray, List.set_cons_zero, List.set_cons_succ]
              refine take_ok (i := 16) (d := 5) (v := ?_) rfl rfl (by kernel_rfl) (by kernel_rfl) (by kernel_rfl) (fun _ _ _ h => h) (Or.inl ⟨by rfl, ?_⟩) (by assumption) ?_
              rotate_left
              · intro w9 hSw
                try dsimp only at hSw
                first | (go_simp; done) | (go_simp; with_reducible rfl)
              try simp only [Act.put, List.setIfInBounds_toArray, List.set_cons_zero, List.set_cons_succ]
              refine wpAnyH_done (by kernel_rfl) ?_ _
              have HB5 : Hid (Below w0.heap.size w0 wr.drew) := Lib.hid HV.out.drew
              clear hHeld HS0
              go_wp2
              go_roundw
              case rel => exact ⟨k + 1, false, HQ.out, by go_num, rfl, HI3, HB5⟩
              case measure => have := HQ.out; simp [intOf]; omega
          · have hi2 := HI.out
            rw [List.drop_of_length_le (by omega), show ((pls ([] : List Lv)).all fun m => hasK m (zo, zs)) = true from rfl, Bool.and_true] at hi2
            have HI2 := Lib.hid hi2
            have HW2 := Lib.hid (bn HW.out HV.out)
            have a0' := (HW2.out.cell (World.block_lt_of_cell? _ _ HA0.out)).trans HA0.out
            have z0' := (HV.out.cell (World.block_lt_of_cell? _ _ HZ.out.1)).trans HZ.out.1
            have z1' := (HV.out.cell (World.block_lt_of_cell? _ _ HZ.out.2)).trans HZ.out.2
            have hgl0' := World.block_lt_of_cell? _ _ a0'
            have hglz' := World.block_lt_of_cell? _ _ z0'
            have HRW := Lib.hid (HR.out.below HV.out)
            have HWW : Hid (Below w.heap.size w wr) := HW2
            have hp' := HP.out
            clear hi2 HI
            cases IN with
            | false =>
              have HF : Hid (andL ls (l0.take (i + 1)) = andL ls (l0.take i)) := Lib.hid (by rw [HTK.out, ← HI2.out]; rfl)
              go_wp2
              go_roundw
              case rel => exact ⟨i + 1, HP.out, by go_num, Lib.hid (by rw [HF.out]; exact HRW.out), HWW⟩
              case measure => have := HP.out; simp [intOf]; omega
            | true =>
              have HF : Hid (andL ls (l0.take (i + 1)) = andL ls (l0.take i) ++ [(zo, zs)]) := Lib.hid (by rw [HTK.out, ← HI2.out]; rfl)
              obtain ⟨A, C, w5, run5, r5, b5⟩ := HRW.out.push zo zs (by have h1 := andL_len ls (l0.take i); have h2 := List.length_take_le i l0; omega) HWW.out.size 25 34
              have HR5 := Lib.hid run5
              have HK5 := Lib.hid r5
              have HB5 := Lib.hid b5
              clear run5 r5 b5
              go_wp2_with (at_builtin; refine wpList_append_run rfl _ _ 25 rfl _ _ HR5.out ?_; clear HR5)
              go_roundw
              case rel => exact ⟨i + 1, HP.out, by go_num, Lib.hid (by rw [HF.out]; exact HK5.out), Lib.hid (HWW.out.trans HB5.out)⟩
              case measure => have := HP.out; simp [intOf]; omega
      · have HO : Hid (andK (pls ls) = andL ls (l0.take i)) := Lib.hid (by rw [HAN.out, show l0.take i = l0 from List.take_of_length_le (by omega)])
        go_wp2
        go_ret
        exact ⟨_, rfl, by rw [HO.out]; exact HR.out, HW.out⟩
end Go.Proofs.Ytgdajnjfkokmdaa
