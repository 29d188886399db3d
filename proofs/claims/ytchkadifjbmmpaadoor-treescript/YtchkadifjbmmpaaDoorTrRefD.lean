/-
  The chapter's own tree: Drop by contract.
-/
import Derived.Test.YtchkadifjbmmpaaDoorTrRefP
namespace Go.Proofs.YtchkadifjbmmpaaDoor
open Go.RowKit Go.Lib Go.Maps
set_option maxRecDepth 100000
set_option linter.unusedSimpArgs false

def refDrop (L : List R.Rc) (k : Ky) : List R.Rc := L.eraseP fun r => decide (kyR r = k)
def refDrops (L : List R.Rc) (l : List Ky) : List R.Rc := l.foldl refDrop L
theorem refDrops_next (L : List R.Rc) (l : List Ky) (i : Nat) (h : i < l.length) : refDrops L (l.take (i + 1)) = refDrop (refDrops L (l.take i)) l[i] := by
  unfold refDrops
  rw [List.take_succ_eq_append_getElem h, List.foldl_append]
  rfl
theorem refDrop_len (L : List R.Rc) (k : Ky) : (refDrop L k).length ≤ L.length := List.length_eraseP_le
theorem refDrops_len : ∀ (l : List Ky) (L : List R.Rc), (refDrops L l).length ≤ L.length
  | [], _ => Nat.le_refl _
  | a :: r, L => Nat.le_trans (refDrops_len r (refDrop L a)) (refDrop_len L a)
theorem refDrop_no {L : List R.Rc} {k : Ky} (h : ∀ r ∈ L, kyR r ≠ k) : refDrop L k = L := by
  unfold refDrop
  exact List.eraseP_of_forall_not (fun r hr hd => h r hr (by simpa using hd))
theorem refDrop_at : ∀ {L : List R.Rc} {k : Ky} {j : Nat} (hj : j < L.length), kyR L[j] = k → (∀ i, i < j → ∀ h : i < L.length, kyR L[i] ≠ k) → refDrop L k = L.take j ++ L.drop (j + 1)
  | a :: L, k, 0, hj, hk, _ => by
    unfold refDrop
    rw [List.eraseP_cons_of_pos (by simpa using hk)]
    rfl
  | a :: L, k, j + 1, hj, hk, hn => by
    have h0 := hn 0 (by omega) (by simp)
    have ih := refDrop_at (L := L) (k := k) (j := j) (by simpa using hj) hk (fun i hi h => hn (i + 1) (by omega) (by simpa using h))
    unfold refDrop at ih ⊢
    rw [List.eraseP_cons_of_neg (by simpa using h0), ih]
    rfl
set_option maxHeartbeats 32000000 in
theorem rdrop_c (q : Nat) (L : List R.Rc) (l : List Ky) (v : Value) (w : World) (P : Nat → Prop) (hP : ∀ i, w.heap.size ≤ i → P i) (h : RT w q L P) (hkr : ∀ W, w.grownBy W (some q) → KRd W v l) (hn : l.length ≤ 1000) (hLn : L.length ≤ 1000) :
    Calls Tryd.prog 16 #[.pointer (some ⟨q, 0, none⟩), v] w fun e w' => e = .returned (.int .i64 ((L.length : Int) - ((refDrops L l).length : Int))) ∧ RT w' q (refDrops L l) P ∧ w.grownBy w' (some q) := by
  have mixed : Tryd.prog.follows .mixedOrders = true := by kernel_rfl
  obtain ⟨ad, cap, rfl, _, _⟩ := hkr w (grown_refl _ _)
  have HKR := Lib.hid hkr
  have HPN := Lib.hid hP
  have H0 : Hid (RT w q (refDrops L (l.take 0)) P) := Lib.hid h
  have G0 : Hid (w.grownBy w (some q)) := Lib.hid (grown_refl _ _)
  clear h hkr hP
  go_enter Tryd.func16, Tryd.ntmps16
  go_wp2_with fail
  go_loopw [5, 6] (fun v5 v6 wr => ∃ i : Nat, i ≤ l.length ∧ v5 = .int .i64 ((L.length : Int) - ((refDrops L (l.take i)).length : Int)) ∧ v6 = .int .i64 (i : Int) ∧ Hid (RT wr q (refDrops L (l.take i)) P) ∧ Hid (w.grownBy wr (some q))) (fun _ v6 _ => l.length - (RowKit.intOf v6).toNat)
  case atStart => exact ⟨0, by omega, by simp [refDrops], rfl, H0, G0⟩
  case round =>
    obtain ⟨i, hi, rfl, rfl, HI, GI⟩ := hrel
    clear H0 G0
    have hlen := refDrops_len (l.take i) L
    by_cases hp : i < l.length
    · have HP := Lib.hid hp
      obtain ⟨ad2, cap2, e, _, hc⟩ := HKR.out wr GI.out
      simp only [Value.slice.injEq, true_and] at e
      obtain ⟨rfl, rfl⟩ := e
      obtain ⟨g, o, rfl, hrc⟩ := hc (by omega)
      obtain ⟨x0, x1⟩ := hrc i hp
      have HNX := Lib.hid (refDrops_next L l i hp)
      clear hc hrc
      generalize l[i] = k at *
      obtain ⟨ko, ks⟩ := k
      generalize refDrops L (l.take i) = Li at *
      have hgl := World.block_lt_of_cell? _ _ x0
      obtain ⟨v, hbx, hro, hpb⟩ := HI.out
      obtain ⟨adL, capL, rfl⟩ := orow_form hro
      obtain ⟨_, _, e, hcl, _⟩ := hro.rl.form
      simp only [Value.slice.injEq, true_and] at e
      obtain ⟨rfl, rfl⟩ := e
      have HBX := Lib.hid hbx
      have HRO := Lib.hid hro
      have HPB := Lib.hid hpb
      clear hbx hro hpb HI
      simp only at x0 x1
      go_wp2_with fail
      refine (find_c q Li adL capL ko ks wr HBX.out (R.ORow.rl HRO.out) (by unfold maxLen; omega)).mono ?_
      rintro e w3 ⟨n, rfl, hf, b3⟩
      have B3 := Lib.hid b3
      clear b3 x0 x1 hgl
      rcases hf with ⟨rfl, hno⟩ | ⟨j, hj, rfl, hky, hfi⟩
      · have HE : Hid (refDrops L (l.take (i + 1)) = Li) := Lib.hid (by rw [HNX.out]; exact refDrop_no hno)
        clear hno
        go_wp2_with fail
        go_roundw
        case rel => exact ⟨i + 1, HP.out, by rw [HE.out], by go_num, Lib.hid (by rw [HE.out]; exact ⟨_, HBX.out.below B3.out, HRO.out.below B3.out, HPB.out⟩), Lib.hid (grown_trans GI.out (grown_below B3.out _))⟩
        case measure => have := HP.out; simp [RowKit.intOf]; omega
      · obtain ⟨z, hz⟩ : ∃ z, z = j + 1 := ⟨_, rfl⟩
        have HE : Hid (refDrops L (l.take (i + 1)) = Li.take j ++ Li.drop z) := Lib.hid (by rw [HNX.out, hz]; exact refDrop_at hj hky hfi)
        obtain ⟨nn, hnn⟩ : ∃ nn, (Li.take j ++ Li.drop z).length = nn := ⟨_, rfl⟩
        have HEL : Hid (nn + 1 = Li.length) := Lib.hid (by rw [← hnn, List.length_append, List.length_take, List.length_drop]; omega)
        have HNN := Lib.hid hnn
        clear hnn
        clear hky hfi
        have ha1 : (0 : Int) ≤ (j : Int) := by omega
        have hwp : IntKind.i64.wrap ((j : Int) + 1) = (z : Int) := by rw [IntKind.wrap_i64]; omega
        have hzl : z ≤ Li.length := by omega
        obtain ⟨A1, N1, C1, hV1⟩ : ∃ A1 N1 C1, sliced adL 0 j capL 5 = .slice A1 N1 C1 := ⟨_, _, _, rfl⟩
        obtain ⟨A3, N3, C3, hV3⟩ : ∃ A3 N3 C3, sliced adL z Li.length capL 5 = .slice A3 N3 C3 := ⟨_, _, _, rfl⟩
        have r1 : ∀ W, (Instr.sliceAt 28 (.slice adL Li.length capL) none (some (.int .i64 (j : Int))) none).run Tryd.prog W = .ok (.slice A1 N1 C1) W := fun W => by
          rw [← hV1]
          exact R.rslice_run adL _ capL _ _ _ _ W (by simp [Instr.sliceBounds, run_sliceBound_if, show j ≤ capL by omega])
        have r3 : ∀ W, (Instr.sliceAt 28 (.slice adL Li.length capL) (some (.int .i64 (z : Int))) none none).run Tryd.prog W = .ok (.slice A3 N3 C3) W := fun W => by
          rw [← hV3]
          exact R.rslice_run adL _ capL _ _ _ _ W (by simp [Instr.sliceBounds, run_sliceBound_if, hzl])
        have HV1 : Hid (∀ W, Below w3.heap.size w3 W → R.Rl W (.slice A1 N1 C1) (Li.take j)) := Lib.hid (fun W hb => by
          have h := (R.rl_sliced (HRO.out.below (bn B3.out hb)).rl 0 j (by omega) (by omega))
          rwa [hV1, List.drop_zero, Nat.sub_zero] at h)
        have HV3 : Hid (∀ W, Below w3.heap.size w3 W → R.Rl W (.slice A3 N3 C3) (Li.drop z)) := Lib.hid (fun W hb => by
          have h := (R.rl_sliced (HRO.out.below (bn B3.out hb)).rl z Li.length hzl (Nat.le_refl _))
          rwa [hV3, List.take_of_length_le (by simp)] at h)
        have hlk : (Li.take j).length ≤ 1000 := by rw [List.length_take]; omega
        have hlk2 : (Li.drop z).length ≤ 1000 := by rw [List.length_drop]; omega
        have q0 : w3.cell? ⟨q, 0, none⟩ = some (.slice adL Li.length capL) := (HBX.out.below B3.out).cell 0
        have qf := (HBX.out.below B3.out).soft 0
        have ql := (HBX.out.below B3.out).lt
        have HQ : Hid (q < w3.heap.size) := Lib.hid ql
        clear hV1 hV3 hz
        go_wp2_with fail
        go_region_law
          (first
          | (refine R.step_rapp rfl _ _ rfl w3.heap.size va (.slice A3 N3 C3) (Li.take j) (Li.drop z) rfl rfl (by exact hra) (HV3.out _ (by exact ba)) (by omega) (by exact ba.size) ?_; intro vb wb hrb hgb; obtain ⟨A9, C9, hvb⟩ := orow_form hrb; rw [HNN.out] at hvb; subst hvb; have bb : Below w3.heap.size w3 wb := ba.trans (R.below_of_grown hgb ba.size (fun g hg => (World.ownsRow.lt hra g hg).1)); have p0 : wb.cell? ⟨q, 0, none⟩ = some (.slice adL Li.length capL) := (HBX.out.below (bn B3.out bb)).cell 0; have pf := (HBX.out.below (bn B3.out bb)).soft 0; have plt := (HBX.out.below (bn B3.out bb)).lt)
          | (refine R.step_rapp rfl _ _ rfl w3.heap.size (.slice none 0 0) (.slice A1 N1 C1) [] (Li.take j) rfl rfl (R.ORow.nil _ _) (HV1.out _ (by first | assumption | exact Below.refl _ _ | exact (Below.refl _ _).drew)) (by simp; omega) (by first | exact Nat.le_refl _ | (simp; done)) ?_; intro va wa hra hga; have ba : Below w3.heap.size w3 wa := bn (by first | assumption | exact Below.refl _ _ | exact (Below.refl _ _).drew) (R.below_of_grown hga (Nat.le_refl _) (by intro g hg; cases hg)); have d0 : wa.cell? ⟨q, 0, none⟩ = some (.slice adL Li.length capL) := (HBX.out.below (bn B3.out ba)).cell 0; have dlt := (HBX.out.below (bn B3.out ba)).lt)
          | fail)
        all_goals
          have HRES : Hid (RT (wb.setCell ⟨q, 0, none⟩ (.slice A9 nn C9)) q (Li.take j ++ Li.drop z) P ∧ w.grownBy (wb.setCell ⟨q, 0, none⟩ (.slice A9 nn C9)) (some q)) := Lib.hid ⟨⟨_, (HBX.out.below (bn B3.out bb)).set 0 _, D.own_mono (ownsRow_of_block hrb fun g hg => Below.heap_setCell _ _ _ g (show g ≠ q from fun e => by have h1 := (World.ownsRow.lt hrb g hg).1; have h2 := HQ.out; omega)) HQ.out, fun g hg => HPN.out g (Nat.le_trans (Nat.le_trans GI.out.size B3.out.size) (World.ownsRow.lt hrb g hg).1)⟩, grown_trans GI.out (grown_trans (grown_below (bn B3.out bb) _) (grown_set wb q 0 _))⟩
          clear r1 r3
          go_wp2_with fail
          go_roundw
          rotate_left
          · have := HP.out
            simp [RowKit.intOf]
            omega
          exact ⟨i + 1, HP.out, by rw [HE.out, HNN.out]; have := HEL.out; go_num, by go_num, Lib.hid (by rw [HE.out]; exact HRES.out.1), Lib.hid HRES.out.2⟩
    · have hil : i = l.length := by omega
      subst hil
      rw [List.take_length] at HI ⊢
      have HR := Lib.hid (And.intro HI.out GI.out)
      clear HI GI
      go_wp2_with fail
      go_ret
      exact ⟨rfl, HR.out.1, HR.out.2⟩
end Go.Proofs.YtchkadifjbmmpaaDoor
