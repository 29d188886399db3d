/-
  slices.Compact at Keys, by contract: the walk.
-/
import Derived.Test.YtgdajnjfkokmdaaPstCompact
namespace Go.Proofs.Ytgdajnjfkokmdaa
open Go.RowKit Go.Lib
set_option maxRecDepth 100000

theorem beq_split (x y : Ky) : (x.1 == y.1 && x.2 == y.2) = (x == y) := rfl
set_option maxHeartbeats 16000000 in
theorem compact_c (l : List Ky) (v : Value) (w : World) (B : Nat) (h : KRow w B v l) (hn : l.length ≤ 100000) :
    Calls Try.prog 37 #[v] w fun e w' => ∃ v', e = .returned v' ∧ KRow w' B v' (cmpct l) ∧ w.grownBy w' v.ownBlock := by
  have mixed : Try.prog.follows .mixedOrders = true := by kernel_rfl
  rcases Nat.lt_or_ge l.length 2 with hz | hz
  · obtain ⟨A, C, rfl, _⟩ := own_form h
    have HR := Lib.hid h
    have HE : Hid (cmpct l = l) := Lib.hid (by
      match l, hz with
      | [], _ => rfl
      | [a], _ => rfl)
    have e0 : decide ((l.length : Int) < 2) = true := by simp; omega
    clear h
    go_enter Try.func37, Try.ntmps37
    go_wp2
    go_ret
    exact ⟨_, rfl, by rw [HE.out]; exact HR.out, grown_refl _ _⟩
  · obtain ⟨g, cap, rfl, hgB, hlt⟩ := World.ownsRow.form h (by omega)
    have hcap : l.length ≤ cap := by obtain ⟨A, C, e, hc⟩ := own_form h; simp only [Value.slice.injEq] at e; omega
    have e0 : decide ((l.length : Int) < 2) = false := by simp; omega
    have HR := Lib.hid h
    have HLT := Lib.hid hlt
    clear h hlt
    go_enter Try.func37, Try.ntmps37
    go_wp2
    go_loopw [3] (fun v3 wr => ∃ (i q : Nat), i + 1 ≤ l.length ∧ v3 = .int .i64 ((i + 1 : Nat) : Int) ∧ wr = w.drewN q ∧ ∃ hi : i < l.length, Hid (l.take (i + 1) ++ cF l[i] (l.drop (i + 1)) = cmpct l)) (fun v3 _ => l.length - (intOf v3).toNat)
    case atStart => exact ⟨0, 0, by omega, rfl, rfl, by omega, Lib.hid (by
      cases l with
      | nil => simp at hz
      | cons a r => simp [cmpct])⟩
    case round =>
      obtain ⟨i, q, hi1, rfl, rfl, hi, HC⟩ := hrel
      by_cases hp : i + 1 < l.length
      · have hcF := cF_drop hp
        have hc0 := World.ownsRow.cellAt HR.out (i * 2) (by omega)
        have hc1 := World.ownsRow.cellAt HR.out (i * 2 + 1) (by omega)
        have hd0 := World.ownsRow.cellAt HR.out ((i + 1) * 2) (by omega)
        have hd1 := World.ownsRow.cellAt HR.out ((i + 1) * 2 + 1) (by omega)
        rw [(cs2_at l i hi).1] at hc0
        rw [(cs2_at l i hi).2] at hc1
        rw [(cs2_at l (i + 1) hp).1] at hd0
        rw [(cs2_at l (i + 1) hp).2] at hd1
        have HPP := Lib.hid hp
        have hT : l.take (i + 1 + 1) = l.take (i + 1) ++ [l[i + 1]] := List.take_succ_eq_append_getElem hp
        have HC' : Hid (l.take (i + 1) ++ cF l[i] (l.drop (i + 1)) = cmpct l) := HC
        have HC2 := HC'.out
        generalize hx : l[i] = x at hc0 hc1 hcF HC2
        generalize hy : l[i + 1] = y at hd0 hd1 hcF hT
        have HC3 := Lib.hid HC2
        have HY := Lib.hid hy
        clear hx hy HC' HC2
        obtain ⟨x1, x2⟩ := x
        obtain ⟨y1, y2⟩ := y
        simp only at hc0 hc1 hd0 hd1
        have HCF := Lib.hid hcF
        have HT := Lib.hid hT
        clear hcF hT
        cases hE : (y1 == x1 && y2 == x2) with
        | false =>
          have q9 : ∀ W, (Op.equalIn 10000 34 (.agg #[.int .i64 y1, .int .i64 y2]) (.agg #[.int .i64 x1, .int .i64 x2])).run Try.prog W = .ok false W := fun W => by rw [eq_key, hE]
          have HN : Hid (l.take (i + 1 + 1) ++ cF l[i + 1] (l.drop (i + 1 + 1)) = cmpct l) := Lib.hid (by
            have h1 := HC3.out
            rw [HCF.out, if_neg (by intro e; rw [Prod.mk.injEq] at e; simp [e.1, e.2] at hE)] at h1
            rw [HT.out, ← h1, List.append_assoc, HY.out]
            rfl)
          clear hE
          go_wp2_with fail
          go_quiet (fail)
          go_wp2
          go_roundw
          case rel => exact ⟨i + 1, q + nq, HPP.out, by go_num, rfl, HPP.out, HN⟩
          case measure => have := HPP.out; simp [intOf]; omega
        | true =>
          have q9 : ∀ W, (Op.equalIn 10000 34 (.agg #[.int .i64 y1, .int .i64 y2]) (.agg #[.int .i64 x1, .int .i64 x2])).run Try.prog W = .ok true W := fun W => by rw [eq_key, hE]
          have HI : Hid (l.take (i + 1) ++ cF l[i + 1] (l.drop (i + 1 + 1)) = cmpct l) := Lib.hid (by
            have h1 := HC3.out
            have e : ((y1, y2) : Ky) = (x1, x2) := by
              simp only [Bool.and_eq_true, beq_iff_eq] at hE
              rw [hE.1, hE.2]
            rw [HCF.out, if_pos e, ← e] at h1
            rw [HY.out]
            exact h1)
          obtain ⟨N2, hN2⟩ : ∃ N2, N2 = l.length - (i + 1) := ⟨_, rfl⟩
          obtain ⟨C2, hC2⟩ : ∃ C2, C2 = cap - (i + 1) := ⟨_, rfl⟩
          have HSL : Hid (∀ W, (Instr.sliceAt 25 (.slice (some ⟨g, 0, none⟩) l.length cap) (some (.int .i64 ((i : Int) + 1))) none none).run Try.prog W = .ok (.slice (some ⟨g, (i + 1) * 2, none⟩) N2 C2) W) := Lib.hid (fun W => by
            rw [hN2, hC2]
            have := ksliced g l.length cap (i + 1) hp hcap W
            simpa using this)
          have HN2 := Lib.hid hN2
          have HCAP := Lib.hid hcap
          clear hE hN2 hC2 HC3 HCF HT HY
          go_wp2_with fail
          go_quiet (fail)
          clear hc0 hc1 hd0 hd1 q9
          go_wp2_with (refine wpList_slice_run rfl 25 _ _ _ rfl _ (HSL.out _) ?_)
          go_loopw [3, 5] (fun v3 v5 wr => ∃ (K j : Nat) (M P : List Ky), 1 ≤ K ∧ K ≤ i + 1 + j ∧ j + 1 ≤ N2 ∧ v3 = .int .i64 (K : Int) ∧ v5 = .int .i64 ((j + 1 : Nat) : Int) ∧ Hid (M.length = l.length) ∧ Hid (wr.ownsRow B 34 2 (.slice (some ⟨g, 0, none⟩) l.length cap) l.length (cs2 M)) ∧ Hid (M.take K = P) ∧ (∃ hj : i + 1 + j < l.length, Hid (P ++ cF l[i + 1 + j] (l.drop (i + 1 + j + 1)) = cmpct l)) ∧ Hid (M.drop (i + 1 + j) = l.drop (i + 1 + j)) ∧ Hid (w.grownBy wr (some g))) (fun _ v5 _ => N2 - (intOf v5).toNat)
          case atStart => exact ⟨i + 1, 0, l, _, by omega, by omega, by have := HN2.out; have := HPP.out; omega, by go_num, rfl, Lib.hid rfl, Lib.hid (own_below HR.out (below_drewN (Below.refl _ _) (q + nq))), Lib.hid rfl, ⟨HPP.out, HI⟩, Lib.hid rfl, Lib.hid (grown_below (below_drewN (Below.refl _ _) (q + nq)) _)⟩
          case round =>
            obtain ⟨K, j, M, P, hK1, hK2, hj1, rfl, rfl, HML, HRW, HMT, ⟨hjl, HCJ⟩, HMD, HG⟩ := hrel
            have hgl : g < wr.heap.size := Nat.lt_of_lt_of_le HLT.out HG.out.size
            by_cases hq : j + 1 < N2
            · have hjl2 : i + 1 + j + 1 < l.length := by have := HN2.out; omega
              have hMd : ∀ t (ht : i + 1 + j + t < l.length), ∃ h2 : i + 1 + j + t < M.length, M[i + 1 + j + t] = l[i + 1 + j + t] := fun t ht => by
                have h2 : i + 1 + j + t < M.length := by rw [HML.out]; exact ht
                refine ⟨h2, ?_⟩
                have h3 := congrArg (fun z => z[t]?) HMD.out
                simp only [List.getElem?_drop] at h3
                rw [List.getElem?_eq_getElem h2, List.getElem?_eq_getElem ht] at h3
                exact Option.some.inj h3
              have hcF := cF_drop hjl2
              obtain ⟨ha0, ha⟩ := hMd 0 (by omega)
              obtain ⟨hb0, hb⟩ := hMd 1 (by omega)
              simp only [Nat.add_zero] at ha0 ha
              have hc0 := World.ownsRow.cellAt HRW.out ((i + 1 + j) * 2) (by omega)
              have hc1 := World.ownsRow.cellAt HRW.out ((i + 1 + j) * 2 + 1) (by omega)
              have hd0 := World.ownsRow.cellAt HRW.out ((i + 1 + j + 1) * 2) (by omega)
              have hd1 := World.ownsRow.cellAt HRW.out ((i + 1 + j + 1) * 2 + 1) (by omega)
              rw [(cs2_at M (i + 1 + j) ha0).1, ha, show (i + 1 + j) * 2 = (i + 1) * 2 + j * 2 by omega] at hc0
              rw [(cs2_at M (i + 1 + j) ha0).2, ha, show (i + 1 + j) * 2 + 1 = (i + 1) * 2 + j * 2 + 1 by omega] at hc1
              rw [(cs2_at M (i + 1 + j + 1) hb0).1, hb, show (i + 1 + j + 1) * 2 = (i + 1) * 2 + (j + 1) * 2 by omega] at hd0
              rw [(cs2_at M (i + 1 + j + 1) hb0).2, hb, show (i + 1 + j + 1) * 2 + 1 = (i + 1) * 2 + (j + 1) * 2 + 1 by omega] at hd1
              have HQ := Lib.hid hq
              have HJ2 := Lib.hid hjl2
              have HCJ1 := HCJ.out
              have hMD2 : M.drop (i + 1 + j + 1) = l.drop (i + 1 + j + 1) := by
                rw [← List.drop_drop, HMD.out, List.drop_drop]
              generalize hx : l[i + 1 + j] = x at hc0 hc1 hcF HCJ1
              generalize hy : l[i + 1 + j + 1] = y at hd0 hd1 hcF
              have HY := Lib.hid hy
              clear hx hy ha hb hMd HCJ
              obtain ⟨x1, x2⟩ := x
              obtain ⟨y1, y2⟩ := y
              simp only at hc0 hc1 hd0 hd1
              have HCF := Lib.hid hcF
              have HCJ2 := Lib.hid HCJ1
              have HMD2 := Lib.hid hMD2
              clear hcF HCJ1 hMD2 ha0 hb0
              cases hE : (y1 == x1 && y2 == x2) with
              | true =>
                have q9 : ∀ W, (Op.equalIn 10000 34 (.agg #[.int .i64 y1, .int .i64 y2]) (.agg #[.int .i64 x1, .int .i64 x2])).run Try.prog W = .ok true W := fun W => by rw [eq_key, hE]
                have e : ((y1, y2) : Ky) = (x1, x2) := by
                  simp only [Bool.and_eq_true, beq_iff_eq] at hE
                  rw [hE.1, hE.2]
                have HN : Hid (P ++ cF l[i + 1 + j + 1] (l.drop (i + 1 + j + 1 + 1)) = cmpct l) := Lib.hid (by
                  have h1 := HCJ2.out
                  rw [HCF.out, if_pos e, ← e] at h1
                  rw [HY.out]
                  exact h1)
                clear hE e
                go_wp2_with fail
                go_quiet (fail)
                go_wp2
                go_roundw
                case rel => exact ⟨K, j + 1, M, P, hK1, by omega, by have := HQ.out; omega, rfl, by go_num, HML, Lib.hid (own_below HRW.out (below_drewN (Below.refl _ _) nq)), HMT, ⟨HJ2.out, HN⟩, HMD2, Lib.hid (grown_trans HG.out (grown_below (below_drewN (Below.refl _ _) nq) _))⟩
                case measure => have := HQ.out; simp [intOf]; omega
              | false =>
                have q9 : ∀ W, (Op.equalIn 10000 34 (.agg #[.int .i64 y1, .int .i64 y2]) (.agg #[.int .i64 x1, .int .i64 x2])).run Try.prog W = .ok false W := fun W => by rw [eq_key, hE]
                have hKl : K < M.length := by have := HML.out; omega
                have HP2 : Hid (P ++ [(y1, y2)] ++ cF l[i + 1 + j + 1] (l.drop (i + 1 + j + 1 + 1)) = cmpct l) := Lib.hid (by
                  have h1 := HCJ2.out
                  rw [HCF.out, if_neg (by intro e; rw [Prod.mk.injEq] at e; simp [e.1, e.2] at hE)] at h1
                  rw [← h1, List.append_assoc, HY.out]
                  rfl)
                have HT2 : Hid ((M.set K (y1, y2)).take (K + 1) = P ++ [(y1, y2)]) := Lib.hid (by
                  rw [List.take_succ_eq_append_getElem (by rw [List.length_set]; exact hKl), List.getElem_set_self, List.take_set_of_le (Nat.le_refl _), HMT.out])
                have HD2 : Hid ((M.set K (y1, y2)).drop (i + 1 + j + 1) = l.drop (i + 1 + j + 1)) := Lib.hid (by rw [List.drop_set_of_lt (by omega)]; exact HMD2.out)
                have hrow1 := HRW.out
                have hk0 := World.ownsRow.cellAt hrow1 (K * 2) (by omega)
                have hk1 := World.ownsRow.cellAt hrow1 (K * 2 + 1) (by omega)
                rw [(cs2_at M K hKl).1] at hk0
                rw [(cs2_at M K hKl).2] at hk1
                have hf0 := World.ownsRow.frozenAt hrow1 (K * 2)
                have hf1 := World.ownsRow.frozenAt hrow1 (K * 2 + 1)
                have HKL := Lib.hid hKl
                clear hE hrow1
                generalize M[K].1 = u0 at hk0
                generalize M[K].2 = u1 at hk1
                clear hKl
                go_wp2_with fail
                go_quiet (fail)
                obtain ⟨h1, h2⟩ := World.ownsRow.stored (own_below HRW.out (below_drewN (Below.refl _ _) nq)) (K * 2) (.int .i64 y1)
                obtain ⟨h3, h4⟩ := World.ownsRow.stored h1 (K * 2 + 1) (.int .i64 y2)
                have hset := cs2_set M K (y1, y2) HKL.out
                simp only at hset
                rw [hset] at h3
                have H3 := Lib.hid h3
                have H4 := Lib.hid (grown_trans HG.out (grown_trans (grown_below (below_drewN (Below.refl _ _) nq) _) (grown_trans h2 h4)))
                clear h1 h2 h3 h4 hset q9
                go_wp2
                go_roundw
                case rel => exact ⟨K + 1, j + 1, M.set K (y1, y2), P ++ [(y1, y2)], by omega, by omega, by have := HQ.out; omega, by go_num, by go_num, Lib.hid (by rw [List.length_set]; exact HML.out), H3, HT2, ⟨HJ2.out, HP2⟩, HD2, H4⟩
                case measure => have := HQ.out; simp [intOf]; omega
            · have HN3 := HN2.out
              have hKl : K < l.length := by omega
              have e9 : decide ((j : Int) + 1 < ((l.length - (i + 1) : Nat) : Int)) = false := by rw [decide_eq_false_iff_not]; omega
              have hcapK : K ≤ cap := by have := HCAP.out; omega
              obtain ⟨W9, hW9⟩ : ∃ W9, W9 = wr.setCells g (K * 2) (cs2 (List.replicate (l.length - K) (0, 0))) := ⟨_, rfl⟩
              have hcl : ∀ ty, (Builtin.clear_ #[25] ty #[.slice (some ⟨g, K * 2, none⟩) (l.length - K) (cap - K)]).run Try.prog wr = .ok (.tuple #[]) W9 := fun ty => by
                rw [hW9]
                exact run_clear_keys wr ty g (K * 2) (l.length - K) (cap - K) (by omega) (fun t ht => by rw [World.ownsRow.cellAt HRW.out (K * 2 + t) (by omega), List.getElem?_eq_getElem (by rw [cs2_len, HML.out]; omega)]; rfl) (fun t ht => World.ownsRow.frozenAt HRW.out (K * 2 + t))
              obtain ⟨xs', hr1, hr2, hr3⟩ := krow_cells (cs2 (List.replicate (l.length - K) (0, 0))) (K * 2) wr _ HRW.out
              rw [← hW9] at hr1 hr3
              have hPC : P = cmpct l := by
                have h1 := HCJ.out
                rw [List.drop_of_length_le (show l.length ≤ i + 1 + j + 1 by omega), cF, List.append_nil] at h1
                exact h1
              have hPK : P.length = K := by rw [← HMT.out, List.length_take, HML.out]; omega
              have hxs : xs'.take (K * 2) = cs2 P := by
                rw [← HMT.out, ← cs2_take]
                apply List.ext_getElem?
                intro t
                by_cases ht : t < K * 2
                · rw [List.getElem?_take_of_lt ht, List.getElem?_take_of_lt ht, hr2 t ht]
                · rw [List.getElem?_take_eq_none (by omega), List.getElem?_take_eq_none (by omega)]
              have hfin : KRow W9 B (.slice (some ⟨g, 0, none⟩) K cap) (cmpct l) := by
                have h1 := krow_take hr1 (show K ≤ l.length by omega)
                rw [hxs] at h1
                unfold KRow
                rw [← hPC, hPK]
                exact h1
              have HFIN := Lib.hid hfin
              have HG9 := Lib.hid (grown_trans HG.out hr3)
              clear hfin hxs hPC hPK hr1 hr2 hr3 hW9 HN3
              go_wp2
              go_ret
              exact ⟨_, rfl, HFIN.out, HG9.out⟩
      · have HE : Hid (cmpct l = l) := Lib.hid (by
          have h1 := HC.out
          rw [List.take_of_length_le (show l.length ≤ i + 1 by omega), List.drop_of_length_le (show l.length ≤ i + 1 by omega), cF, List.append_nil] at h1
          exact h1.symm)
        go_wp2
        go_ret
        exact ⟨_, rfl, by rw [HE.out]; exact KRow.below HR.out (below_drewN (Below.refl _ _) q), grown_below (below_drewN (Below.refl _ _) q) _⟩
end Go.Proofs.Ytgdajnjfkokmdaa
