/-
  IndexWords, walked.
-/
import Derived.Test.YtdjlgiinekighaaGreatDoorPkIs
namespace Go.Proofs.YtdjlgiinekighaaGreatDoor
open Go.RowKit Go.Lib Go.Sort Go.Shelf Go.Maps Go.Proofs.YtdjlgiinekighaaGreatDoor.P Go.Proofs
set_option maxRecDepth 100000
set_option linter.unusedSimpArgs false

theorem lstS_len (S : Sx) (t : Bs) : (lstS S t).length ≤ S.length := by
  unfold lstS
  rw [List.length_map, srtK_len]
  have := List.length_filter_le (fun k => decide (posS S k t ≠ [])) (S.map Prod.fst)
  rwa [List.length_map] at this
theorem posS_len (S : Sx) (k : Ky) (t : Bs) (n : Nat) (h : ∀ x ∈ S, x.2.length ≤ n) : (posS S k t).length ≤ n := by
  induction S with
  | nil => simp [posS]
  | cons x r ih =>
    unfold posS
    split
    · exact Nat.le_trans (posN_len _ _ _) (h x (by simp))
    · exact ih fun y hy => h y (by simp [hy])
theorem putSs_len (l : List R.Rc) : (putSs l).length ≤ l.length := by
  have : ∀ (l : List R.Rc) (S : Sx), (l.foldl putS S).length ≤ S.length + l.length := by
    intro l
    induction l with
    | nil => intro S; simp
    | cons a r ih =>
      intro S
      have h1 := ih (putS S a)
      have h2 : (putS S a).length ≤ S.length + 1 := by
        unfold putS
        split <;> simp
      simp only [List.foldl_cons, List.length_cons]
      omega
  exact Nat.le_trans (this l []) (by simp)
theorem less_no : ∀ a b : Bs, b < a → Op.bytesLess a b = false
  | [], b, h => absurd h (List.not_lt_nil b)
  | x :: a, [], h => rfl
  | x :: a, y :: b, h => by
    rw [List.cons_lt_cons_iff] at h
    unfold Op.bytesLess
    rcases h with h | ⟨rfl, h⟩
    · have h1 : ¬ x < y := fun h2 => UInt8.lt_asymm h h2
      have h2 : ¬ x = y := fun e => by subst e; exact UInt8.lt_irrefl _ h
      simp [h1, h2]
    · simp [less_no a b h]
theorem leq_run (a b : Bs) (h : b < a) (W : World) : (Go.binOp BinOp.leq 9 (.string ⟨a.toArray⟩) (.string ⟨b.toArray⟩)).run Tryz.prog W = .ok (.bool false) W := by
  have h1 := less_no a b h
  have h2 : ¬ a = b := fun e => by subst e; exact List.lt_irrefl _ h
  simp [Go.binOp, Op.stringOp, go_sem, bs_list, h1, h2]
theorem Ix.word_len {w : World} {p : Nat} {S : Sx} {n : Nat} {own : Nat → Prop} (h : Ix w p S n own) {k : Ky} {t : Bs} (hk : posS S k t ≠ []) : t.length ≤ 1000 := by
  obtain ⟨bt, bl, T, L, h1, _, h3, _⟩ := h
  obtain ⟨y, hy, e, _⟩ := h3.al k t hk
  exact e ▸ h1.lt y hy
set_option maxHeartbeats 16000000 in
theorem words_law (l : List R.Rc) (v : Value) (w : World) (h : R.Rl w v l) (hs : ∀ x ∈ l, x.t.size ≤ 9223372036854775807) (hl : l.length ≤ maxLen) (hR : R.Tabs w) (hT : T.Tabs w) (hno : lstS (putSs l) [110, 111, 32, 115, 117, 99, 104] = []) :
    Calls Tryz.prog 5 #[v] w fun e w' => e = .returned (.bool true) ∧ Below w.heap.size w w' := by
  have mixed : Tryz.prog.follows .mixedOrders = true := by kernel_rfl
  have HG := Lib.hid (R.great_c l v 30 w h (by omega) hl)
  have HNO := Lib.hid hno
  clear hno
  have HR := Lib.hid hR
  have HT := Lib.hid hT
  cases hg : R.greatB l 30 with
  | true =>
    rw [hg] at HG
    clear hg h hs hl hR hT
    go_enter Tryz.func5, Tryz.ntmps5
    go_wp2_with fail
    refine HG.out.mono ?_
    rintro e w1 ⟨rfl, b1⟩
    go_wp2_with fail
    refine (awake_c w1 (HR.out.below b1) (HT.out.below b1)).mono ?_
    rintro e w2 ⟨rfl, b2⟩
    go_wp2
    go_ret
    exact ⟨rfl, bn b1 b2⟩
  | false =>
    rw [hg] at HG
    have hln : l.length ≤ 30 := (R.greatB_no hg).1
    obtain ⟨ad, cap, rfl, _, _⟩ := id h.form
    have HRL := Lib.hid h
    have HSZ := Lib.hid hs
    clear hg h hs hl hR hT
    go_enter Tryz.func5, Tryz.ntmps5
    go_wp2_with fail
    refine HG.out.mono ?_
    rintro e w1 ⟨rfl, b1⟩
    have B1 := Lib.hid b1
    clear b1 HG
    go_wp2_with fail
    refine (new_c w1).mono ?_
    rintro e w2 ⟨p, own, rfl, h2, o2, b2⟩
    have H2 := Lib.hid h2
    have B2 := Lib.hid (bn B1.out b2)
    have O2 : Hid (∀ i, own i → w.heap.size ≤ i) := Lib.hid (fun i hi => Nat.le_trans B1.out.size (o2 i hi))
    clear h2 o2 b2 B1
    go_wp2_with fail
    go_loopw [4] (fun v4 wr => ∃ (i : Nat) (own' : Nat → Prop), i ≤ l.length ∧ v4 = .int .i64 (i : Int) ∧ Hid (Ix wr p (putSs (l.take i)) (200 * i) own') ∧ Hid (Below w.heap.size w wr) ∧ Hid (∀ j, own' j → w.heap.size ≤ j)) (fun v4 _ => l.length - (RowKit.intOf v4).toNat)
    case atStart => exact ⟨0, own, by omega, rfl, H2, B2, O2⟩
    case round =>
      obtain ⟨i, own', hi, rfl, H3, B3, O3⟩ := hrel
      clear H2 B2 O2
      by_cases hp : i < l.length
      · obtain ⟨ad2, cap2, e, _, hc⟩ := (HRL.out.below B3.out).form
        simp only [Value.slice.injEq, true_and] at e
        obtain ⟨rfl, rfl⟩ := e
        obtain ⟨b, o, rfl, hrc⟩ := hc (by omega)
        have hx := hrc i hp
        have HNX := Lib.hid (putSs_next l i hp)
        have HSX := Lib.hid (HSZ.out _ (List.getElem_mem hp))
        have HP := Lib.hid hp
        generalize l[i] = r at hx HNX HSX
        obtain ⟨x0, x1, x2, x3, x4⟩ := hx
        have hgl := World.block_lt_of_cell? _ _ x0
        have CP := Lib.hid (put_c p (200 * i) _ own' r wr H3.out (by omega) HSX.out (HR.out.below B3.out) (HT.out.below B3.out))
        go_wp2_with fail
        refine CP.out.mono ?_
        rintro e w4 ⟨own4, rfl, h4, t4, o4⟩
        have H4 : Hid (Ix w4 p (putSs (l.take (i + 1))) (200 * (i + 1)) own4) := Lib.hid (by rw [HNX.out]; exact h4.few (by omega))
        have B4 : Hid (Below w.heap.size w w4) := Lib.hid (B3.out.trans (t4.below B3.out.size O3.out))
        have O4 : Hid (∀ j, own4 j → w.heap.size ≤ j) := Lib.hid (fun j hj => (o4 j hj).elim (O3.out j) (fun h => Nat.le_trans B3.out.size h))
        clear h4 t4 o4 x0 x1 x2 x3 x4 hgl CP hrc
        go_wp2
        go_roundw
        case rel => exact ⟨i + 1, own4, HP.out, by go_num, H4, B4, O4⟩
        case measure => have := HP.out; simp [RowKit.intOf]; omega
      · have hil : i = l.length := by omega
        subst hil
        have H5 : Hid (Ix wr p (putSs l) 10000 own') := Lib.hid (by
          have := H3.out
          rw [List.take_length] at this
          exact this.few (by omega))
        clear H3
        go_wp2_with fail
        refine (words_c p 10000 _ own' wr H5.out (by omega)).mono ?_
        rintro e w6 ⟨v6, ws, rfl, r6, hw6, hwn, b6⟩
        obtain ⟨A6, C6, rfl, _⟩ := own_form r6
        have R6 := Lib.hid r6
        have W6 := Lib.hid hw6
        have H6 := Lib.hid (H5.out.below b6)
        have B6 := Lib.hid (bn B3.out b6)
        clear r6 hw6 b6 H5 B3
        go_wp2_with fail
        have D6 := Lib.hid (StrRow.rd R6.out)
        clear R6
        go_loopw [6] (fun v6 wr => ∃ (i : Nat), i ≤ ws.length ∧ v6 = .int .i64 (i : Int) ∧ Hid (Ix wr p (putSs l) 10000 own') ∧ Hid (Below w.heap.size w wr) ∧ Hid (StrRd wr (.slice A6 ws.length C6) ws)) (fun v6 _ => ws.length - (RowKit.intOf v6).toNat)
        case atStart => exact ⟨0, by omega, rfl, H6, B6, D6⟩
        case round =>
          obtain ⟨i, hi2, rfl, H7, B7, D7⟩ := hrel
          clear H6 B6 D6
          by_cases hp2 : i < ws.length
          · obtain ⟨ad3, cap3, e, _, hc⟩ := D7.out
            simp only [Value.slice.injEq, true_and] at e
            obtain ⟨rfl, rfl⟩ := e
            obtain ⟨b, o, rfl, hst⟩ := hc (by omega)
            have hw := (W6.out.2 ws[i]).1 (List.getElem_mem hp2)
            have HNE := Lib.hid (lstS_ne hw)
            obtain ⟨k0, hk0⟩ := hw
            have hwl := H7.out.word_len hk0
            have c1 := hst i hp2
            have CW := Lib.hid (word_c p 10000 (putSs l) own' ws[i] _ H7.out hwl (by omega))
            have HMY := Lib.hid (lstS_may (putSs l) ws[i] H7.out.nd)
            have hgl := World.block_lt_of_cell? _ _ c1
            have HC := Lib.hid c1
            have HP2 := Lib.hid hp2
            have HTJ : Hid (∀ j, j + 1 = i → ∃ tj : Bs, _root_.Go.World.cell? _ ⟨b, o + j, none⟩ = some (.string ⟨tj.toArray⟩) ∧ tj < ws[i]) := Lib.hid (fun j hj => ⟨ws[j], hst j (by omega), by subst hj; exact List.pairwise_iff_getElem.1 W6.out.1 j (j + 1) (by omega) hp2 (by omega)⟩)
            generalize ws[i] = ti at c1 CW HMY HNE HC HTJ
            clear hst hk0 hwl hc
            go_wp2_with fail
            refine CW.out.mono ?_
            rintro e w8 ⟨v8, q8, rfl, h8, e8, b8⟩
            obtain ⟨A8, C8, rfl, _⟩ := own_form h8.row
            have hq8 : ¬ ((q8.length : Int) = 0) := fun h => HNE.out (by rw [← e8]; unfold ps; rw [List.map_eq_nil_iff]; exact List.length_eq_zero_iff.1 (by omega))
            have hqb : ((q8.length : Int) == 0) = false := by simpa using hq8
            clear hq8
            have CM := Lib.hid (fun W (hW : Below w8.heap.size w8 W) => P.may_c q8 (.slice A8 q8.length C8) W (h8.rd.below hW) (by have := congrArg List.length e8; have h2 := lstS_len (putSs l) ti; have h3 := putSs_len l; simp only [ps, List.length_map] at this; omega) (fun x hx => by
              have h1 : x.p ∈ ps q8 := List.mem_map_of_mem hx
              rw [e8] at h1
              obtain ⟨k, _, hk⟩ := List.mem_map.1 h1
              have h2 : x.ns = posS (putSs l) k ti := (congrArg Po.ns hk).symm
              rw [h2]
              exact Nat.le_trans (posS_len _ _ _ 120 fun y hy => (good_all l y hy).1) (by decide)))
            rw [e8] at CM
            rw [HMY.out] at CM
            have H8 := Lib.hid (H7.out.below b8)
            have B8 := Lib.hid (bn B7.out b8)
            have D8 := Lib.hid (D7.out.below b8)
            have HB8 := Lib.hid b8
            clear e8 h8 b8 CW
            by_cases h0 : i = 0
            · subst h0
              go_wp2_with fail
              have HSC : Hid (∀ W : World, Below w8.heap.size w8 W → True) := Lib.hid (fun _ _ => trivial)
              clear HNE HMY HC c1 hgl
              refine wp_region_held_drew (S := fun _ => True) (by kernel_rfl) (trivial) (fun hHeld => ?_)
              refine take_ok (i := 0) (d := 41) (v := ?_) rfl rfl (by kernel_rfl) (by kernel_rfl) (by kernel_rfl) (fun _ _ _ h => h) (Or.inl ⟨by rfl, ?_⟩) (by assumption) ?_
              rotate_left
              · intro w9 hSw
                try dsimp only at hSw
                first | (go_simp; done) | (go_simp; with_reducible rfl)
              try simp only [Act.put, List.setIfInBounds_toArray, List.set_cons_zero, List.set_cons_succ]
              refine take_ok (i := 1) (d := 42) (v := ?_) rfl rfl (by kernel_rfl) (by kernel_rfl) (by kernel_rfl) (fun _ _ _ h => h) (Or.inl ⟨by rfl, ?_⟩) (by assumption) ?_
              rotate_left
              · intro w9 hSw
                try dsimp only at hSw
                first | (go_simp; done) | (go_simp; with_reducible rfl)
              try simp only [Act.put, List.setIfInBounds_toArray, List.set_cons_zero, List.set_cons_succ]
              refine take_ok (i := 2) (d := 43) (v := ?_) rfl rfl (by kernel_rfl) (by kernel_rfl) (by kernel_rfl) (fun _ _ _ h => h) (Or.inl ⟨by rfl, ?_⟩) (by assumption) ?_
              rotate_left
              · intro w9 hSw
                try dsimp only at hSw
                first | (go_simp; done) | (go_simp; with_reducible rfl)
              try simp only [Act.put, List.setIfInBounds_toArray, List.set_cons_zero, List.set_cons_succ]
              refine take_ok (i := 3) (d := 44) (v := ?_) rfl rfl (by kernel_rfl) (by kernel_rfl) (by kernel_rfl) (fun _ _ _ h => h) (Or.inl ⟨by rfl, ?_⟩) (by assumption) ?_
              rotate_left
              · intro w9 hSw
                try dsimp only at hSw
                first | (go_simp; done) | (go_simp; with_reducible rfl)
              try simp only [Act.put, List.setIfInBounds_toArray, List.set_cons_zero, List.set_cons_succ]
              refine take_ok (i := 4) (d := 45) (v := ?_) rfl rfl (by kernel_rfl) (by kernel_rfl) (by kernel_rfl) (fun _ _ _ h => h) (Or.inl ⟨by rfl, ?_⟩) (by assumption) ?_
              rotate_left
              · intro w9 hSw
                try dsimp only at hSw
                first | (go_simp; done) | (go_simp; with_reducible rfl)
              try simp only [Act.put, List.setIfInBounds_toArray, List.set_cons_zero, List.set_cons_succ]
              refine wpAnyH_ready (rs := [5]) (by kernel_rfl) (by simp) ?_
              refine AllReadyH.cons rfl (fun K hK => ?_) AllReadyH.nil
              go_simp
              refine (CM.out _ (Below.refl _ _).drew).mono ?_
              rintro e w9 ⟨rfl, b9⟩
              have HB9 : Hid (Below w8.heap.size w8 w9) := Lib.hid (bn (Below.refl _ w8).drew b9)
              clear b9
              refine hK.out _ _ (HSC.out _ HB9.out) (fun hHeld => ?_)
              clear hK K
              try simp only [Act.put, List.setIfInBounds_toArray, List.set_cons_zero, List.set_cons_succ]
              refine take_ok (i := 6) (d := 47) (v := ?_) rfl rfl (by kernel_rfl) (by kernel_rfl) (by kernel_rfl) (fun _ _ _ h => h) (Or.inl ⟨by rfl, ?_⟩) (by assumption) ?_
              rotate_left
              · intro w9 hSw
                try dsimp only at hSw
                first | (go_simp; done) | (go_simp; with_reducible rfl)
              try simp only [Act.put, List.setIfInBounds_toArray, List.set_cons_zero, List.set_cons_succ]
              refine take_ok (i := 7) (d := 48) (v := ?_) rfl rfl (by kernel_rfl) (by kernel_rfl) (by kernel_rfl) (fun _ _ _ h => h) (Or.inl ⟨by rfl, ?_⟩) (by assumption) ?_
              rotate_left
              · intro w9 hSw
                try dsimp only at hSw
                first | (go_simp; done) | (go_simp; with_reducible rfl)
              try simp only [Act.put, List.setIfInBounds_toArray, List.set_cons_zero, List.set_cons_succ]
              refine take_ok (i := 8) (d := 49) (v := ?_) rfl rfl (by kernel_rfl) (by kernel_rfl) (by kernel_rfl) (fun _ _ _ h => h) (Or.inl ⟨by rfl, ?_⟩) (by assumption) ?_
              rotate_left
              · intro w9 hSw
                try dsimp only at hSw
                first | (go_simp; done) | (go_simp; with_reducible rfl)
              try simp only [Act.put, List.setIfInBounds_toArray, List.set_cons_zero, List.set_cons_succ]
              refine take_ok (i := 9) (d := 50) (v := ?_) rfl rfl (by kernel_rfl) (by kernel_rfl) (by kernel_rfl) (fun _ _ _ h => h) (Or.inl ⟨by rfl, ?_⟩) (by assumption) ?_
              rotate_left
              · intro w9 hSw
                try dsimp only at hSw
                first | (go_simp; done) | (go_simp; with_reducible rfl)
              try simp only [Act.put, List.setIfInBounds_toArray, List.set_cons_zero, List.set_cons_succ]
              refine take_ok (i := 10) (d := 51) (v := ?_) rfl rfl (by kernel_rfl) (by kernel_rfl) (by kernel_rfl) (fun _ _ _ h => h) (Or.inl ⟨by rfl, ?_⟩) (by assumption) ?_
              rotate_left
              · intro w9 hSw
                try dsimp only at hSw
                first | (go_simp; done) | (go_simp; with_reducible rfl)
              try simp only [Act.put, List.setIfInBounds_toArray, List.set_cons_zero, List.set_cons_succ]
              refine take_ok (i := 11) (d := 52) (v := ?_) rfl rfl (by kernel_rfl) (by kernel_rfl) (by kernel_rfl) (fun _ _ _ h => h) (Or.inl ⟨by rfl, ?_⟩) (by assumption) ?_
              rotate_left
              · intro w9 hSw
                try dsimp only at hSw
                first | (go_simp; done) | (go_simp; with_reducible rfl)
              try simp only [Act.put, List.setIfInBounds_toArray, List.set_cons_zero, List.set_cons_succ]
              refine take_ok (i := 12) (d := 53) (v := undef) rfl rfl (by kernel_rfl) (by kernel_rfl) (by kernel_rfl) (fun _ _ _ h => h) (Or.inr ⟨by rfl, rfl⟩) (by assumption) ?_
              try simp only [Act.put, List.setIfInBounds_toArray, List.set_cons_zero, List.set_cons_succ]
              refine take_ok (i := 13) (d := 54) (v := undef) rfl rfl (by kernel_rfl) (by kernel_rfl) (by kernel_rfl) (fun _ _ _ h => h) (Or.inr ⟨by rfl, rfl⟩) (by assumption) ?_
              try simp only [Act.put, List.setIfInBounds_toArray, List.set_cons_zero, List.set_cons_succ]
              refine take_ok (i := 14) (d := 55) (v := undef) rfl rfl (by kernel_rfl) (by kernel_rfl) (by kernel_rfl) (fun _ _ _ h => h) (Or.inr ⟨by rfl, rfl⟩) (by assumption) ?_
              try simp only [Act.put, List.setIfInBounds_toArray, List.set_cons_zero, List.set_cons_succ]
              refine take_ok (i := 15) (d := 56) (v := undef) rfl rfl (by kernel_rfl) (by kernel_rfl) (by kernel_rfl) (fun _ _ _ h => h) (Or.inr ⟨by rfl, rfl⟩) (by assumption) ?_
              try simp only [Act.put, List.setIfInBounds_toArray, List.set_cons_zero, List.set_cons_succ]
              refine take_ok (i := 16) (d := 57) (v := undef) rfl rfl (by kernel_rfl) (by kernel_rfl) (by kernel_rfl) (fun _ _ _ h => h) (Or.inr ⟨by rfl, rfl⟩) (by assumption) ?_
              try simp only [Act.put, List.setIfInBounds_toArray, List.set_cons_zero, List.set_cons_succ]
              refine take_ok (i := 17) (d := 58) (v := undef) rfl rfl (by kernel_rfl) (by kernel_rfl) (by kernel_rfl) (fun _ _ _ h => h) (Or.inr ⟨by rfl, rfl⟩) (by assumption) ?_
              try simp only [Act.put, List.setIfInBounds_toArray, List.set_cons_zero, List.set_cons_succ]
              refine take_ok (i := 18) (d := 59) (v := undef) rfl rfl (by kernel_rfl) (by kernel_rfl) (by kernel_rfl) (fun _ _ _ h => h) (Or.inr ⟨by rfl, rfl⟩) (by assumption) ?_
              try simp only [Act.put, List.setIfInBounds_toArray, List.set_cons_zero, List.set_cons_succ]
              refine take_ok (i := 19) (d := 60) (v := undef) rfl rfl (by kernel_rfl) (by kernel_rfl) (by kernel_rfl) (fun _ _ _ h => h) (Or.inr ⟨by rfl, rfl⟩) (by assumption) ?_
              try simp only [Act.put, List.setIfInBounds_toArray, List.set_cons_zero, List.set_cons_succ]
              refine take_ok (i := 20) (d := 61) (v := undef) rfl rfl (by kernel_rfl) (by kernel_rfl) (by kernel_rfl) (fun _ _ _ h => h) (Or.inr ⟨by rfl, rfl⟩) (by assumption) ?_
              try simp only [Act.put, List.setIfInBounds_toArray, List.set_cons_zero, List.set_cons_succ]
              refine take_ok (i := 21) (d := 62) (v := undef) rfl rfl (by kernel_rfl) (by kernel_rfl) (by kernel_rfl) (fun _ _ _ h => h) (Or.inr ⟨by rfl, rfl⟩) (by assumption) ?_
              try simp only [Act.put, List.setIfInBounds_toArray, List.set_cons_zero, List.set_cons_succ]
              refine take_ok (i := 22) (d := 63) (v := ?_) rfl rfl (by kernel_rfl) (by kernel_rfl) (by kernel_rfl) (fun _ _ _ h => h) (Or.inl ⟨by rfl, ?_⟩) (by assumption) ?_
              rotate_left
              · intro w9 hSw
                try dsimp only at hSw
                first | (go_simp; done) | (go_simp; with_reducible rfl)
              try simp only [Act.put, List.setIfInBounds_toArray, List.set_cons_zero, List.set_cons_succ]
              refine take_ok (i := 23) (d := 64) (v := ?_) rfl rfl (by kernel_rfl) (by kernel_rfl) (by kernel_rfl) (fun _ _ _ h => h) (Or.inl ⟨by rfl, ?_⟩) (by assumption) ?_
              rotate_left
              · intro w9 hSw
                try dsimp only at hSw
                first | (go_simp; done) | (go_simp; with_reducible rfl)
              try simp only [Act.put, List.setIfInBounds_toArray, List.set_cons_zero, List.set_cons_succ]
              refine wpAnyH_done (by kernel_rfl) ?_ _
              clear hHeld HSC
              go_wp2
              go_roundw
              case rel => exact ⟨1, HP2.out, rfl, Lib.hid (H8.out.below HB9.out), Lib.hid (bn B8.out HB9.out), Lib.hid (D8.out.below HB9.out)⟩
              case measure => have := HP2.out; simp [RowKit.intOf]; omega
            · obtain ⟨j, rfl⟩ : ∃ j, i = j + 1 := ⟨i - 1, by omega⟩
              obtain ⟨tj, c2, hlt⟩ := HTJ.out j rfl
              have hle : decide (ti ≤ tj) = false := by
                rw [decide_eq_false_iff_not]
                exact fun h => absurd hlt (List.not_lt.2 h)
              have HSC : Hid (∀ W : World, Below w8.heap.size w8 W → W.cell? ⟨b, o + (j + 1), none⟩ = some (.string ⟨ti.toArray⟩) ∧ W.cell? ⟨b, o + j, none⟩ = some (.string ⟨tj.toArray⟩)) := Lib.hid (fun W hW => by
                have k : ∀ {a : Addr} {v : Value}, _ → W.cell? a = some v := fun {a v} (hc : _root_.Go.World.cell? _ a = some v) => ((HB8.out.trans (hW.mono HB8.out.size)).cell (World.block_lt_of_cell? _ _ hc)).trans hc
                exact ⟨k HC.out, k c2⟩)
              have hji : ((j + 1 : Nat) : Int) - 1 = (j : Int) := by omega
              have hwj : IntKind.i64.wrap (j : Int) = (j : Int) := by
                have h1 : j < 10000 := by omega
                first | exact wrap_i64 _ (by omega) (by omega) | (unfold IntKind.wrap; simp [IntKind.signed, IntKind.bits]; omega) | go_num
              have hb1 : (0 : Int) ≤ (j : Int) + 1 := by omega
              have hb2 : (j : Int) + 1 < (ws.length : Int) := by omega
              have hb3 : (0 : Int) ≤ (j : Int) := by omega
              have hb4 : (j : Int) < (ws.length : Int) := by omega
              have hbo := fun W => leq_run ti tj hlt W
              have hjp : (0 : Int) < ((j + 1 : Nat) : Int) := by omega
              clear HNE HMY c1 c2 hgl h0
              go_wp2_with fail
              refine wp_region_held_drew (S := fun W => W.cell? ⟨b, o + (j + 1), none⟩ = some (.string ⟨ti.toArray⟩) ∧ W.cell? ⟨b, o + j, none⟩ = some (.string ⟨tj.toArray⟩)) (by kernel_rfl) (HSC.out _ (Below.refl _ _).drew) (fun hHeld => ?_)
              refine take_ok (i := 0) (d := 41) (v := ?_) rfl rfl (by kernel_rfl) (by kernel_rfl) (by kernel_rfl) (fun _ _ _ h => h) (Or.inl ⟨by rfl, ?_⟩) (by assumption) ?_
              rotate_left
              · intro w9 hSw
                try dsimp only at hSw
                first | (go_simp; done) | (go_simp; with_reducible rfl)
              try simp only [Act.put, List.setIfInBounds_toArray, List.set_cons_zero, List.set_cons_succ]
              refine take_ok (i := 1) (d := 42) (v := ?_) rfl rfl (by kernel_rfl) (by kernel_rfl) (by kernel_rfl) (fun _ _ _ h => h) (Or.inl ⟨by rfl, ?_⟩) (by assumption) ?_
              rotate_left
              · intro w9 hSw
                try dsimp only at hSw
                first | (go_simp; done) | (go_simp; with_reducible rfl)
              try simp only [Act.put, List.setIfInBounds_toArray, List.set_cons_zero, List.set_cons_succ]
              refine take_ok (i := 2) (d := 43) (v := ?_) rfl rfl (by kernel_rfl) (by kernel_rfl) (by kernel_rfl) (fun _ _ _ h => h) (Or.inl ⟨by rfl, ?_⟩) (by assumption) ?_
              rotate_left
              · intro w9 hSw
                try dsimp only at hSw
                first | (go_simp; done) | (go_simp; with_reducible rfl)
              try simp only [Act.put, List.setIfInBounds_toArray, List.set_cons_zero, List.set_cons_succ]
              refine take_ok (i := 3) (d := 44) (v := ?_) rfl rfl (by kernel_rfl) (by kernel_rfl) (by kernel_rfl) (fun _ _ _ h => h) (Or.inl ⟨by rfl, ?_⟩) (by assumption) ?_
              rotate_left
              · intro w9 hSw
                try dsimp only at hSw
                first | (go_simp; done) | (go_simp; with_reducible rfl)
              try simp only [Act.put, List.setIfInBounds_toArray, List.set_cons_zero, List.set_cons_succ]
              refine take_ok (i := 4) (d := 45) (v := ?_) rfl rfl (by kernel_rfl) (by kernel_rfl) (by kernel_rfl) (fun _ _ _ h => h) (Or.inl ⟨by rfl, ?_⟩) (by assumption) ?_
              rotate_left
              · intro w9 hSw
                try dsimp only at hSw
                first | (go_simp; done) | (go_simp; with_reducible rfl)
              try simp only [Act.put, List.setIfInBounds_toArray, List.set_cons_zero, List.set_cons_succ]
              refine wpAnyH_ready (rs := [5]) (by kernel_rfl) (by simp) ?_
              refine AllReadyH.cons rfl (fun K hK => ?_) AllReadyH.nil
              go_simp
              refine (CM.out _ (Below.refl _ _).drew).mono ?_
              rintro e w9 ⟨rfl, b9⟩
              have HB9 : Hid (Below w8.heap.size w8 w9) := Lib.hid (bn (Below.refl _ w8).drew b9)
              clear b9
              refine hK.out _ _ (HSC.out _ HB9.out) (fun hHeld => ?_)
              clear hK K
              try simp only [Act.put, List.setIfInBounds_toArray, List.set_cons_zero, List.set_cons_succ]
              refine take_ok (i := 6) (d := 47) (v := ?_) rfl rfl (by kernel_rfl) (by kernel_rfl) (by kernel_rfl) (fun _ _ _ h => h) (Or.inl ⟨by rfl, ?_⟩) (by assumption) ?_
              rotate_left
              · intro w9 hSw
                try dsimp only at hSw
                first | (go_simp; done) | (go_simp; with_reducible rfl)
              try simp only [Act.put, List.setIfInBounds_toArray, List.set_cons_zero, List.set_cons_succ]
              refine take_ok (i := 7) (d := 48) (v := ?_) rfl rfl (by kernel_rfl) (by kernel_rfl) (by kernel_rfl) (fun _ _ _ h => h) (Or.inl ⟨by rfl, ?_⟩) (by assumption) ?_
              rotate_left
              · intro w9 hSw
                try dsimp only at hSw
                first | (go_simp; done) | (go_simp; with_reducible rfl)
              try simp only [Act.put, List.setIfInBounds_toArray, List.set_cons_zero, List.set_cons_succ]
              refine take_ok (i := 8) (d := 49) (v := ?_) rfl rfl (by kernel_rfl) (by kernel_rfl) (by kernel_rfl) (fun _ _ _ h => h) (Or.inl ⟨by rfl, ?_⟩) (by assumption) ?_
              rotate_left
              · intro w9 hSw
                try dsimp only at hSw
                first | (go_simp; done) | (go_simp; with_reducible rfl)
              try simp only [Act.put, List.setIfInBounds_toArray, List.set_cons_zero, List.set_cons_succ]
              refine take_ok (i := 9) (d := 50) (v := ?_) rfl rfl (by kernel_rfl) (by kernel_rfl) (by kernel_rfl) (fun _ _ _ h => h) (Or.inl ⟨by rfl, ?_⟩) (by assumption) ?_
              rotate_left
              · intro w9 hSw
                try dsimp only at hSw
                first | (go_simp; done) | (go_simp; with_reducible rfl)
              try simp only [Act.put, List.setIfInBounds_toArray, List.set_cons_zero, List.set_cons_succ]
              refine take_ok (i := 10) (d := 51) (v := ?_) rfl rfl (by kernel_rfl) (by kernel_rfl) (by kernel_rfl) (fun _ _ _ h => h) (Or.inl ⟨by rfl, ?_⟩) (by assumption) ?_
              rotate_left
              · intro w9 hSw
                try dsimp only at hSw
                first | (go_simp; done) | (go_simp; with_reducible rfl)
              try simp only [Act.put, List.setIfInBounds_toArray, List.set_cons_zero, List.set_cons_succ]
              refine take_ok (i := 11) (d := 52) (v := ?_) rfl rfl (by kernel_rfl) (by kernel_rfl) (by kernel_rfl) (fun _ _ _ h => h) (Or.inl ⟨by rfl, ?_⟩) (by assumption) ?_
              rotate_left
              · intro w9 hSw
                try dsimp only at hSw
                first | (go_simp; done) | (go_simp; with_reducible rfl)
              try simp only [Act.put, List.setIfInBounds_toArray, List.set_cons_zero, List.set_cons_succ]
              refine take_ok (i := 12) (d := 53) (v := ?_) rfl rfl (by kernel_rfl) (by kernel_rfl) (by kernel_rfl) (fun _ _ _ h => h) (Or.inl ⟨by rfl, ?_⟩) (by assumption) ?_
              rotate_left
              · intro w9 hSw
                try dsimp only at hSw
                first | (go_simp; done) | (go_simp; with_reducible rfl)
              try simp only [Act.put, List.setIfInBounds_toArray, List.set_cons_zero, List.set_cons_succ]
              refine take_ok (i := 13) (d := 54) (v := ?_) rfl rfl (by kernel_rfl) (by kernel_rfl) (by kernel_rfl) (fun _ _ _ h => h) (Or.inl ⟨by rfl, ?_⟩) (by assumption) ?_
              rotate_left
              · intro w9 hSw
                try dsimp only at hSw
                first | (go_simp; done) | (go_simp; with_reducible rfl)
              try simp only [Act.put, List.setIfInBounds_toArray, List.set_cons_zero, List.set_cons_succ]
              refine take_ok (i := 14) (d := 55) (v := ?_) rfl rfl (by kernel_rfl) (by kernel_rfl) (by kernel_rfl) (fun _ _ _ h => h) (Or.inl ⟨by rfl, ?_⟩) (by assumption) ?_
              rotate_left
              · intro w9 hSw
                try dsimp only at hSw
                first | (go_simp; done) | (go_simp; with_reducible rfl)
              try simp only [Act.put, List.setIfInBounds_toArray, List.set_cons_zero, List.set_cons_succ]
              refine take_ok (i := 15) (d := 56) (v := ?_) rfl rfl (by kernel_rfl) (by kernel_rfl) (by kernel_rfl) (fun _ _ _ h => h) (Or.inl ⟨by rfl, ?_⟩) (by assumption) ?_
              rotate_left
              · intro w9 hSw
                try dsimp only at hSw
                first | (go_simp; done) | (go_simp; with_reducible rfl)
              try simp only [Act.put, List.setIfInBounds_toArray, List.set_cons_zero, List.set_cons_succ]
              refine take_ok (i := 16) (d := 57) (v := ?_) rfl rfl (by kernel_rfl) (by kernel_rfl) (by kernel_rfl) (fun _ _ _ h => h) (Or.inl ⟨by rfl, ?_⟩) (by assumption) ?_
              rotate_left
              · intro w9 hSw
                try dsimp only at hSw
                first | (go_simp; done) | (go_simp; with_reducible rfl)
              try simp only [Act.put, List.setIfInBounds_toArray, List.set_cons_zero, List.set_cons_succ]
              refine take_ok (i := 17) (d := 58) (v := ?_) rfl rfl (by kernel_rfl) (by kernel_rfl) (by kernel_rfl) (fun _ _ _ h => h) (Or.inl ⟨by rfl, ?_⟩) (by assumption) ?_
              rotate_left
              · intro w9 hSw
                try dsimp only at hSw
                first | (go_simp; done) | (go_simp; with_reducible rfl)
              try simp only [Act.put, List.setIfInBounds_toArray, List.set_cons_zero, List.set_cons_succ]
              refine take_ok (i := 18) (d := 59) (v := ?_) rfl rfl (by kernel_rfl) (by kernel_rfl) (by kernel_rfl) (fun _ _ _ h => h) (Or.inl ⟨by rfl, ?_⟩) (by assumption) ?_
              rotate_left
              · intro w9 hSw
                try dsimp only at hSw
                first | (go_simp; done) | (go_simp; with_reducible rfl)
              try simp only [Act.put, List.setIfInBounds_toArray, List.set_cons_zero, List.set_cons_succ]
              refine take_ok (i := 19) (d := 60) (v := ?_) rfl rfl (by kernel_rfl) (by kernel_rfl) (by kernel_rfl) (fun _ _ _ h => h) (Or.inl ⟨by rfl, ?_⟩) (by assumption) ?_
              rotate_left
              · intro w9 hSw
                try dsimp only at hSw
                first | (go_simp; done) | (go_simp; with_reducible rfl)
              try simp only [Act.put, List.setIfInBounds_toArray, List.set_cons_zero, List.set_cons_succ]
              refine take_ok (i := 20) (d := 61) (v := ?_) rfl rfl (by kernel_rfl) (by kernel_rfl) (by kernel_rfl) (fun _ _ _ h => h) (Or.inl ⟨by rfl, ?_⟩) (by assumption) ?_
              rotate_left
              · intro w9 hSw
                try dsimp only at hSw
                first | (go_simp; done) | (go_simp; with_reducible rfl)
              try simp only [Act.put, List.setIfInBounds_toArray, List.set_cons_zero, List.set_cons_succ]
              refine take_ok (i := 21) (d := 62) (v := ?_) rfl rfl (by kernel_rfl) (by kernel_rfl) (by kernel_rfl) (fun _ _ _ h => h) (Or.inl ⟨by rfl, ?_⟩) (by assumption) ?_
              rotate_left
              · intro w9 hSw
                try dsimp only at hSw
                first | (go_simp; done) | (go_simp; with_reducible rfl)
              try simp only [Act.put, List.setIfInBounds_toArray, List.set_cons_zero, List.set_cons_succ]
              refine take_ok (i := 22) (d := 63) (v := ?_) rfl rfl (by kernel_rfl) (by kernel_rfl) (by kernel_rfl) (fun _ _ _ h => h) (Or.inl ⟨by rfl, ?_⟩) (by assumption) ?_
              rotate_left
              · intro w9 hSw
                try dsimp only at hSw
                first | (go_simp; done) | (go_simp; with_reducible rfl)
              try simp only [Act.put, List.setIfInBounds_toArray, List.set_cons_zero, List.set_cons_succ]
              refine take_ok (i := 23) (d := 64) (v := ?_) rfl rfl (by kernel_rfl) (by kernel_rfl) (by kernel_rfl) (fun _ _ _ h => h) (Or.inl ⟨by rfl, ?_⟩) (by assumption) ?_
              rotate_left
              · intro w9 hSw
                try dsimp only at hSw
                first | (go_simp; done) | (go_simp; with_reducible rfl)
              try simp only [Act.put, List.setIfInBounds_toArray, List.set_cons_zero, List.set_cons_succ]
              refine wpAnyH_done (by kernel_rfl) ?_ _
              clear hHeld HSC
              go_wp2
              go_roundw
              case rel => exact ⟨j + 1 + 1, HP2.out, by go_num, Lib.hid (H8.out.below HB9.out), Lib.hid (bn B8.out HB9.out), Lib.hid (D8.out.below HB9.out)⟩
              case measure => have := HP2.out; simp [RowKit.intOf]; omega
          · go_wp2_with fail
            refine (putNil_c _ ⟨⟨0, 0, 0, 0, ⟨#[]⟩⟩, rfl⟩ _).mono ?_
            rintro e w10 ⟨rfl, b10⟩
            have H10 := Lib.hid (H7.out.below b10)
            have B10 := Lib.hid (bn B7.out b10)
            clear b10 H7 B7 D7
            go_wp2_with fail
            refine (dropNil_c _ _).mono ?_
            rintro e w11 ⟨rfl, rfl⟩
            go_wp2_with fail
            refine (wordNil_c _ _).mono ?_
            rintro e w12 ⟨rfl, rfl⟩
            go_wp2_with fail
            refine (prefixNil_c _ _).mono ?_
            rintro e w13 ⟨rfl, rfl⟩
            go_wp2_with fail
            refine (keysNil_c _).mono ?_
            rintro e w14 ⟨rfl, rfl⟩
            go_wp2_with fail
            refine (wordsNil_c _).mono ?_
            rintro e w15 ⟨rfl, rfl⟩
            go_wp2_with fail
            refine (word_c p 10000 (putSs l) own' [110, 111, 32, 115, 117, 99, 104] _ H10.out (by decide) (by omega)).mono ?_
            rintro e w16 ⟨v16, q16, rfl, h16, e16, b16⟩
            have hq : q16 = [] := by
              rw [HNO.out] at e16
              exact List.map_eq_nil_iff.1 e16
            subst hq
            obtain ⟨A16, C16, rfl, _⟩ := own_form h16.row
            have B16 := Lib.hid (bn B10.out b16)
            clear h16 e16 b16 H10 B10
            go_wp2_with fail
            refine (awake_c _ (HR.out.below B16.out) (HT.out.below B16.out)).mono ?_
            rintro e w17 ⟨rfl, b17⟩
            go_wp2
            go_ret
            exact ⟨rfl, bn B16.out b17⟩
end Go.Proofs.YtdjlgiinekighaaGreatDoor
/-
  No word of a text holds a space: plain facts.
-/
namespace Go.Proofs.YtdjlgiinekighaaGreatDoor
open Go.RowKit Go.Lib Go.Sort Go.Shelf Go.Maps Go.Proofs.YtdjlgiinekighaaGreatDoor.P Go.Proofs
set_option maxRecDepth 100000
set_option linter.unusedSimpArgs false

theorem z32 {r : Int} (h : (32 : Int) ∈ encodeRuneZ r) : r = 32 := by
  unfold encodeRuneZ at h
  split at h
  · simp at h; omega
  · split at h
    · simp at h; omega
    · split at h
      · simp at h; omega
      · split at h
        · simp at h; omega
        · simp at h
theorem e32 {r : Int} (h : (32 : UInt8) ∈ encodeRune r) : r = 32 := by
  obtain ⟨x, hx, e⟩ := List.mem_map.1 h
  have hb := encodeRuneZ_byte r x hx
  have h1 := congrArg UInt8.toNat e
  have h2 : x.toNat.toUInt8.toNat = x.toNat := GvTok.u8 x.toNat (by omega)
  rw [h2] at h1
  have h3 : x.toNat = 32 := h1
  have h4 : x = 32 := by omega
  exact z32 (h4 ▸ hx)
theorem lookup_in (T : Array CaseRow) (r : Int) : ∀ (f lo hi i : Nat), lookupIdx T r f lo hi = some i → ((T.getD i (0, 0, 0, 0, 0)).1 : Int) ≤ r ∧ r ≤ ((T.getD i (0, 0, 0, 0, 0)).2.1 : Int)
  | 0, _, _, _, h => by cases h
  | f + 1, lo, hi, i, h => by
    unfold lookupIdx at h
    split at h
    · split at h
      · rename_i h1
        cases h
        exact h1
      · split at h
        · exact lookup_in T r f _ _ i h
        · exact lookup_in T r f _ _ i h
    · cases h
def rowB (x : CaseRow) : Bool := if x.delta 1 > 1114111 then decide (33 ≤ x.1) else (decide (32 < (x.1 : Int) + x.delta 1) || decide ((x.2.1 : Int) + x.delta 1 < 32))
theorem rows_ok : caseT.all rowB = true := by decide +kernel
theorem lower32 {r : Int} (h : toLowerU r = 32) : r = 32 := by
  unfold toLowerU at h
  split at h
  · split at h <;> omega
  · rename_i hr
    exfalso
    unfold toR lookupGo at h
    cases hl : lookupIdx caseA r (caseA.size + 1) 0 caseA.size with
    | none =>
      rw [hl] at h
      simp at h
      omega
    | some i =>
      rw [hl] at h
      have hin := lookup_in _ _ _ _ _ _ hl
      simp only [Option.map_some] at h
      by_cases hi : i < caseA.size
      · have hrow : rowB (caseA.getD i (0, 0, 0, 0, 0)) = true := by
          have h1 : caseA.getD i (0, 0, 0, 0, 0) = caseA[i] := by simp [Array.getD, hi]
          rw [h1]
          have h2 := List.all_eq_true.1 rows_ok caseA[i] (by
            have : caseA[i] ∈ caseA.toList := Array.getElem_mem_toList hi
            exact this)
          exact h2
        generalize caseA.getD i (0, 0, 0, 0, 0) = x at h hin hrow
        unfold convertR at h
        unfold rowB at hrow
        split at h
        · rename_i hd
          rw [if_pos hd, decide_eq_true_eq] at hrow
          omega
        · rename_i hd
          rw [if_neg hd, Bool.or_eq_true, decide_eq_true_eq, decide_eq_true_eq] at hrow
          omega
      · have h1 : caseA.getD i (0, 0, 0, 0, 0) = (0, 0, 0, 0, 0) := by simp [Array.getD, hi]
        rw [h1] at hin
        simp at hin
        omega
theorem letter32 : GvTok.letter 32 = false := by decide +kernel
theorem low_no {u : List Nat} (h : ∀ r ∈ u, GvTok.letter r = true) : (32 : UInt8) ∉ GvTok.low u := fun hm => by
  obtain ⟨r, hr, h1⟩ := List.mem_flatMap.1 hm
  have h2 := lower32 (e32 h1)
  have h3 : r = 32 := by omega
  subst h3
  have h4 := h 32 hr
  rw [letter32] at h4
  cases h4
theorem runs_letters : ∀ (rs cur : List Nat), (∀ r ∈ cur, GvTok.letter r = true) → ∀ u ∈ GvTok.runs cur rs, ∀ r ∈ u, GvTok.letter r = true
  | [], cur, hc, u, hu => by
    by_cases h0 : cur = []
    · subst h0; simp [GvTok.runs] at hu
    · rw [GvTok.runs_nil cur h0] at hu
      simp only [List.mem_singleton] at hu
      subst hu; exact hc
  | r :: t, cur, hc, u, hu => by
    cases hl : GvTok.letter r
    · by_cases h0 : cur = []
      · subst h0
        rw [GvTok.runs_other0 _ _ hl] at hu
        exact runs_letters t [] (fun x hx => by cases hx) u hu
      · rw [GvTok.runs_other _ _ _ hl h0] at hu
        rcases List.mem_cons.1 hu with rfl | hu
        · exact hc
        · exact runs_letters t [] (fun x hx => by cases hx) u hu
    · rw [GvTok.runs_letter _ _ _ hl] at hu
      refine runs_letters t _ (fun x hx => ?_) u hu
      rcases List.mem_append.1 hx with hx | hx
      · exact hc x hx
      · simp only [List.mem_singleton] at hx
        subst hx; exact hl
theorem wordsOf_no (s : ByteArray) : ∀ t ∈ wordsOf s, (32 : UInt8) ∉ t := fun t ht => by
  unfold wordsOf at ht
  split at ht
  · obtain ⟨u, hu, rfl⟩ := List.mem_map.1 ht
    exact low_no (runs_letters _ [] (fun x hx => by cases hx) u hu)
  · cases ht
theorem putSs_no (l : List R.Rc) : ∀ x ∈ putSs l, ∀ t ∈ x.2, (32 : UInt8) ∉ t := by
  have : ∀ (l : List R.Rc) (S : Sx), (∀ x ∈ S, ∀ t ∈ x.2, (32 : UInt8) ∉ t) → ∀ x ∈ l.foldl putS S, ∀ t ∈ x.2, (32 : UInt8) ∉ t := by
    intro l
    induction l with
    | nil => exact fun S h => h
    | cons a r ih =>
      intro S h
      refine ih (putS S a) fun x hx => ?_
      unfold putS at hx
      split at hx
      · rcases List.mem_append.1 hx with hx | hx
        · exact h x hx
        · simp only [List.mem_singleton] at hx
          subst hx
          exact wordsOf_no a.t
      · exact h x hx
  exact this l [] fun x hx => by cases hx
theorem posS_word {S : Sx} {k : Ky} {t : Bs} (h : posS S k t ≠ []) : ∃ x ∈ S, t ∈ x.2 := by
  induction S with
  | nil => exact absurd rfl h
  | cons a r ih =>
    unfold posS at h
    split at h
    · exact ⟨a, by simp, Classical.byContradiction fun hn => h (posN_no _ _ _ hn)⟩
    · obtain ⟨x, hx, ht⟩ := ih h
      exact ⟨x, by simp [hx], ht⟩
theorem no_such (l : List R.Rc) : lstS (putSs l) [110, 111, 32, 115, 117, 99, 104] = [] := by
  have : (((putSs l).map Prod.fst).filter fun k => decide (posS (putSs l) k [110, 111, 32, 115, 117, 99, 104] ≠ [])) = [] := by
    refine List.filter_eq_nil_iff.2 fun k _ hd => ?_
    rw [decide_eq_true_eq] at hd
    obtain ⟨x, hx, ht⟩ := posS_word hd
    exact putSs_no l x hx _ ht (by decide)
  unfold lstS
  rw [this]
  simp [srtK]
end Go.Proofs.YtdjlgiinekighaaGreatDoor
