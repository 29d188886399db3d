/-
  Phrase of the program, by contract.
-/
import Derived.Test.YtgdajnjfkokmdaaPstKofA
namespace Go.Proofs.Ytgdajnjfkokmdaa
open Go.RowKit Go.Lib
set_option maxRecDepth 100000

set_option maxHeartbeats 8000000 in
theorem kof_ph (ls : List Lv) (v : Value) (w : World) (h : LRd w v ls) (hs : small ls 6) (hok : okL (pls ls)) :
    Calls Try.prog 30 #[v, .func (.func 38) #[] #[]] w (keysT (phK (pls ls)) w) := by
  have HS := Lib.hid hs
  have hl6 := hs.1
  have HM1 : Hid (∀ y ∈ ls, y.l.length ≤ 1000000 ∧ ∀ x ∈ y.l, x.ns.length ≤ 1000000) := Lib.hid (fun y hy => ⟨by have := (hs.2 y hy).1; omega, fun x hx => by have := (hs.2 y hy).2 x hx; omega⟩)
  obtain ⟨W1, hW1⟩ : ∃ W1, W1 = w.alloc (.cells #[.func (.func 38) #[] #[]] 49) := ⟨_, rfl⟩
  have hal : Below w.heap.size w W1 := by rw [hW1]; exact alloc_below _ _
  have bk : W1.cell? ⟨w.heap.size, 0, none⟩ = some (.func (.func 38) #[] #[]) := by rw [hW1]; exact (Bx.new _ w _).cell 0
  have HW1 := Lib.hid hW1
  have HB1 := Lib.hid hal
  have HBK := Lib.hid bk
  have HL1 := Lib.hid (h.below hal)
  obtain ⟨⟨ad, cap, rfl, hcap, k1⟩, _⟩ := h.below hal
  have H1 := Lib.hid k1
  have CM := Lib.hid (pall_c ls _ W1 HL1.out (by omega) HM1.out)
  unfold keysT
  clear h hs hW1 hal bk k1
  rcases Nat.eq_zero_or_pos ls.length with hz | hz
  · obtain rfl : ls = [] := List.eq_nil_of_length_eq_zero hz
    clear hz CM
    have HE : Hid (phK (pls []) = []) := Lib.hid rfl
    go_enter Try.func30, Try.ntmps30
    go_wp2_with fail
    go_ret
    exact ⟨_, rfl, by rw [HE.out]; exact KRow.nil _ _, by rw [← HW1.out]; exact HB1.out⟩
  · have hzd : ((ls.length : Int) == 0) = false := by rw [beq_eq_false_iff_ne]; omega
    cases hmay : allMay (pls ls) with
    | false =>
      rw [hmay] at CM
      have HE : Hid (phK (pls ls) = []) := Lib.hid (phK_no hmay)
      clear hmay
      go_enter Try.func30, Try.ntmps30
      go_wp2_with fail
      rw [← HW1.out]
      refine CM.out.mono ?_
      rintro e w2 ⟨rfl, b2⟩
      have HB2 := Lib.hid b2
      clear b2 CM
      go_wp2
      go_ret
      exact ⟨_, rfl, by rw [HE.out]; exact KRow.nil _ _, bn HB1.out HB2.out⟩
    | true =>
      rw [hmay] at CM
      obtain ⟨y0, r0, hls⟩ : ∃ y0 r0, ls = y0 :: r0 := by
        cases ls with
        | nil => simp at hz
        | cons a b => exact ⟨a, b, rfl⟩
      obtain ⟨g1, o1, rfl, c1⟩ := H1.out hz
      have HC1 := Lib.hid c1
      obtain ⟨RA, RN, RC, hsl, hRN, hRA⟩ := lslice_tail g1 o1 ls.length cap (by omega) hcap
      have HSPEC : Hid ((foldK folL 0 (ps y0.l) (pls r0)).map Po.k = phK (pls ls)) := Lib.hid (by
        rw [hls] at hmay ⊢
        exact foldK_phK _ _ hmay (by rw [hls] at hok; exact hok) (by have := hl6; rw [hls] at this; simp [pls] at this ⊢; omega))
      have h00 := c1 0 hz
      have e00 : ls[0] = y0 := by simp [hls]
      rw [e00, Nat.add_zero] at h00
      have hy0 : y0 ∈ ls := by rw [hls]; simp
      have HY0 := Lib.hid (HL1.out.2 y0 hy0)
      have HY0S := Lib.hid (HS.out.2 y0 hy0)
      have HR0 : Hid (∀ k (hk : k < r0.length), W1.cell? ⟨g1, o1 + 1 + k, none⟩ = some r0[k].v ∧ PRd W1 r0[k].v r0[k].l ∧ r0[k].l.length ≤ 40 ∧ ∀ x ∈ r0[k].l, x.ns.length ≤ 30) := Lib.hid (fun k hk => by
        have hk2 : k + 1 < ls.length := by rw [hls]; simpa using hk
        have e1 : ls[k + 1] = r0[k] := by simp [hls]
        have h1 := c1 (k + 1) hk2
        have hm := List.getElem_mem hk2
        rw [e1] at h1 hm
        exact ⟨by rw [show o1 + 1 + k = o1 + (k + 1) by omega]; exact h1, HL1.out.2 _ hm, HS.out.2 _ hm⟩)
      have hrl : RN = r0.length := by rw [hRN, hls]; simp
      subst hrl
      have hr5 : r0.length ≤ 5 := by have := hl6; rw [hls] at this; simpa using this
      have HRA : Hid (0 < r0.length → RA = some ⟨g1, o1 + 1, none⟩) := Lib.hid (fun hh => hRA (by rw [hls]; simpa using hh))
      have HSL := Lib.hid hsl
      obtain ⟨y0v, y0l⟩ := y0
      simp only at h00
      obtain ⟨Y0A, Y0C, ey0, _⟩ := id HY0.out
      simp only at ey0
      subst ey0
      clear hmay hls hRN hRA hsl c1 hcap e00 hy0 H1
      go_enter Try.func30, Try.ntmps30
      go_wp2_with fail
      rw [← HW1.out]
      refine CM.out.mono ?_
      rintro e w2 ⟨rfl, b2⟩
      have HB2 := Lib.hid b2
      have h002 := (b2.cell (World.block_lt_of_cell? _ _ h00)).trans h00
      have hg12 := World.block_lt_of_cell? _ _ h002
      clear b2 CM h00
      go_wp2_with (refine wpList_slice_run rfl 22 _ _ _ rfl _ (HSL.out _) ?_)
      go_loopw [5, 22] (fun v5 v22 wr => ∃ (k : Nat) (L : List Pv), k ≤ r0.length ∧ v22 = .int .i64 (k : Int) ∧ Hid (PRd wr v5 L) ∧ Hid (ps L = foldK folL 0 (ps y0l) ((pls r0).take k)) ∧ Hid (nsLe 30 (ps L)) ∧ Hid (L.length ≤ 40) ∧ Hid (Below W1.heap.size W1 wr)) (fun _ v22 _ => r0.length - (intOf v22).toNat)
      case atStart => exact ⟨0, y0l, by omega, rfl, Lib.hid (HY0.out.below HB2.out), Lib.hid rfl, Lib.hid (nsLe_ps HY0S.out.2), Lib.hid HY0S.out.1, HB2⟩
      case round =>
        obtain ⟨k, L, hk, rfl, HP, HF, HNS, HLL, HB⟩ := hrel
        obtain ⟨LA, LC, el, _⟩ := id HP.out
        subst el
        by_cases hp : k < r0.length
        · obtain rfl := HRA.out (by omega)
          obtain ⟨a1, a2, a3, a4⟩ := HR0.out k hp
          have a1' := (HB.out.cell (World.block_lt_of_cell? _ _ a1)).trans a1
          have hg1 := World.block_lt_of_cell? _ _ a1'
          have HSTEP := Lib.hid (foldK_step folL (pls r0) 0 (ps y0l) k (by simpa [pls] using hp))
          have HPR : Hid ((pls r0)[k]'(by simpa [pls] using hp) = ps r0[k].l) := Lib.hid (by simp [pls])
          have HKP := Lib.hid hp
          have hpr := HPR.out
          rw [HPR.out] at HSTEP
          generalize r0[k] = y at a1' a2 a3 a4 HSTEP
          obtain ⟨yv, yl⟩ := y
          simp only at a1' a2 a3 a4 HSTEP
          obtain ⟨YA, YC, ey, _⟩ := id a2
          subst ey
          obtain ⟨W6, hW6⟩ : ∃ W6, W6 = wr.alloc (.cells #[.int .i64 (k : Int)] 3) := ⟨_, rfl⟩
          have hal6 : Below wr.heap.size wr W6 := by rw [hW6]; exact alloc_below _ _
          have bi : W6.cell? ⟨wr.heap.size, 0, none⟩ = some (.int .i64 (k : Int)) := by rw [hW6]; exact (Bx.new _ wr _).cell 0
          have hbk6 := ((bn HB.out hal6).cell (World.block_lt_of_cell? _ _ HBK.out)).trans HBK.out
          have hkb := World.block_lt_of_cell? _ _ hbk6
          have hib := World.block_lt_of_cell? _ _ bi
          have hP6 := HP.out.below hal6
          have hY6 := a2.below (bn HB.out hal6)
          have CB := Lib.hid (both_c L yl _ _ #[.pointer (some ⟨w.heap.size, 0, none⟩), .pointer (some ⟨wr.heap.size, 0, none⟩)] (folL ((k : Int) + 1)) W6 hP6 hY6 (by have := HLL.out; omega) (by omega) (fun x hx y hy W' hW' =>
            keepFol_c x.a y.a x.ns y.ns k _ _ W6 W' (hP6.nls x hx) (hY6.nls y hy) hW' (by have := nsLe_of HNS.out x hx; omega) (by have := a4 y hy; omega) (by omega) ((hW'.cell hkb).trans hbk6) ((hW'.cell hib).trans bi)))
          have HW6 := Lib.hid hW6
          have HAL6 := Lib.hid hal6
          have HLE := Lib.hid (bothF_le (folL ((k : Int) + 1)) L yl)
          have HNB := Lib.hid (nsLe_both (n := 30) (kf := folL ((k : Int) + 1)) (fun a b => (folL_sub _ a b).length_le) (m := ps yl) HNS.out)
          have HQ := Lib.hid (bothF_Q (folL ((k : Int) + 1)) L yl)
          clear a1 a2 a3 a4 hW6 hal6 bi hbk6 hkb hib hP6 hY6 hpr
          go_wp2_with fail
          rw [← HW6.out]
          refine CB.out.mono ?_
          rintro e w7 ⟨v7, qs, rfl, hr7, ha7, hq7, b7⟩
          have HB7 := Lib.hid (bn HB.out (bn HAL6.out b7))
          have HR7 := Lib.hid (hr7.rd (fun x hx => (ha7 x hx).nl b7))
          have HQ7 := Lib.hid hq7
          obtain ⟨QA, QC, eq7, _⟩ := id HR7.out
          subst eq7
          clear hr7 ha7 hq7 b7 CB
          go_wp2
          go_roundw
          case rel => exact ⟨k + 1, qs, HKP.out, by go_num, HR7, Lib.hid (by rw [HQ7.out, HQ.out, HF.out, HSTEP.out] <;> rw [Int.zero_add]), Lib.hid (by rw [HQ7.out, HQ.out]; exact HNB.out), Lib.hid (by have h1 := ps_len HQ7.out HLE.out; have := HLL.out; omega), HB7⟩
          case measure => have := HKP.out; simp [intOf]; omega
        · have HFF : Hid ((ps L).map Po.k = phK (pls ls)) := Lib.hid (by rw [HF.out, List.take_of_length_le (by simp [pls]; omega), HSPEC.out])
          have CK := Lib.hid (pkeys_c [⟨_, L⟩] _ _ (lrd_one HP.out) (by simp) (fun y hy => by simp only [List.mem_singleton] at hy; subst hy; have := HLL.out; simp only; omega))
          rw [kysOf_one, HFF.out] at CK
          unfold keysR at CK
          have HW := Lib.hid (alloc_below wr (.cells #[.slice LA L.length LC] 30))
          go_wp2_with fail
          refine CK.out.mono ?_
          rintro e w8 ⟨v8, rfl, hr8, b8⟩
          obtain ⟨KA, KC, ek, _⟩ := own_form hr8
          subst ek
          have HR8 := Lib.hid hr8
          have HB8 := Lib.hid b8
          clear hr8 b8 CK
          go_wp2
          go_ret
          exact ⟨_, rfl, own_mono HR8.out (by have := (bn HB1.out (bn HB.out HW.out)).size; exact this), bn HB1.out (bn HB.out (bn HW.out HB8.out))⟩
end Go.Proofs.Ytgdajnjfkokmdaa
