/-
  Or of chapter 10's own answer, by contract.
-/
import Derived.Test.YtgdajnjfkokmdaaPstKeys
namespace Go.Proofs.Ytgdajnjfkokmdaa
open Go.RowKit Go.Lib

def kyL (l : List Pv) : List Ky := l.map fun x => (x.o, x.s)
def kyLs (ls : List Lv) : List Ky := (ls.map fun y => kyL y.l).flatten
theorem kyL_ps (l : List Pv) : (ps l).map Po.k = kyL l := by simp [ps, kyL, Pv.p]
theorem kyLs_pls : ∀ ls : List Lv, (pls ls).flatten.map Po.k = kyLs ls
  | [] => rfl
  | y :: r => by
    have ih := kyLs_pls r
    simp only [pls, List.map_cons, List.flatten_cons, List.map_append, kyL_ps, kyLs] at ih ⊢
    rw [ih]
theorem kyLs_take {ls : List Lv} {i : Nat} (hi : i < ls.length) : kyLs (ls.take (i + 1)) = kyLs (ls.take i) ++ kyL ls[i].l := by
  unfold kyLs
  rw [List.take_succ_eq_append_getElem hi, List.map_append, List.flatten_append]
  simp only [List.map_cons, List.map_nil, List.flatten_cons, List.flatten_nil, List.append_nil]
theorem into_len (l : List Ky) (k : Ky) : (into l k).length ≤ l.length + 1 := by
  unfold into
  split
  · omega
  · have h := congrArg List.length (List.takeWhile_append_dropWhile (p := fun x => kLt x k) (l := l))
    rw [List.length_append] at h ⊢
    rw [List.length_cons]
    omega
theorem fold_len : ∀ (m l : List Ky), (m.foldl into l).length ≤ l.length + m.length
  | [], l => by simp
  | a :: m, l => by
    have h1 := fold_len m (into l a)
    have h2 := into_len l a
    simp only [List.foldl_cons, List.length_cons]
    omega
theorem orK_no {ls : List (List Po)} (h : allMay ls = false) : orK ls = [] := by unfold orK; rw [h]; rfl
theorem orK_yes {ls : List Lv} (h : allMay (pls ls) = true) : orK (pls ls) = (kyLs ls).foldl into [] := by unfold orK; rw [if_pos h, kyLs_pls]
set_option maxHeartbeats 8000000 in
theorem or_c (ls : List Lv) (v : Value) (w : World) (h : LRd w v ls) (hn : ls.length ≤ 1000) (hm : ∀ y ∈ ls, y.l.length ≤ 1000000 ∧ ∀ x ∈ y.l, x.ns.length ≤ 1000000) (ht : (kyLs ls).length ≤ 10000) :
    Calls Try.prog 15 #[v] w (keysT (orK (pls ls)) w) := by
  have HM := Lib.hid hm
  have HL := Lib.hid h
  have HTT := Lib.hid ht
  obtain ⟨⟨ad, cap, rfl, _, k1⟩, _⟩ := h
  have H1 := Lib.hid k1
  clear k1 hm ht
  go_enter Try.func15, Try.ntmps15
  go_wp2
  go_loopw [3, 4] (fun v3 v4 wr => ∃ i : Nat, i ≤ ls.length ∧ v4 = .int .i64 (i : Int) ∧ Hid (KRow wr w.heap.size v3 ((kyLs (ls.take i)).foldl into [])) ∧ Hid (Below w.heap.size w wr) ∧ Hid (0 < i → allMay (pls ls) = true)) (fun _ v4 _ => ls.length - (intOf v4).toNat)
  case atStart => exact ⟨0, by omega, rfl, Lib.hid (KRow.nil _ _), Lib.hid (Below.refl _ _), Lib.hid (fun h => by omega)⟩
  case round =>
    obtain ⟨i, hi, rfl, HR, HW, HA⟩ := hrel
    obtain ⟨w0, rfl⟩ : ∃ w0, w0 = wr := ⟨_, rfl⟩
    by_cases hp : i < ls.length
    · have CA := Lib.hid (all_c ls _ w0 (HL.out.below HW.out) (by omega) HM.out)
      cases h1 : allMay (pls ls) with
      | false =>
        rw [h1] at CA
        have HZ : Hid (i = 0) := Lib.hid (by
          rcases Nat.eq_zero_or_pos i with h | h
          · exact h
          · rw [HA.out h] at h1; cases h1)
        have HO := Lib.hid (orK_no h1)
        clear h1
        go_wp2_with fail
        refine CA.out.mono ?_
        rintro e w2 ⟨rfl, b2⟩
        have HB2 := Lib.hid b2
        clear b2 CA
        go_wp2
        go_ret
        exact ⟨_, rfl, by rw [HO.out]; have h := HR.out; rw [HZ.out] at h; exact h.below HB2.out, HW.out.trans (HB2.out.mono HW.out.size)⟩
      | true =>
        rw [h1] at CA
        have HA1 := Lib.hid h1
        obtain ⟨g1, o1, rfl, c1⟩ := H1.out (by omega)
        have a1 := c1 i hp
        have hp1 := (HL.out).2 _ (List.getElem_mem hp)
        have HTK := Lib.hid (kyLs_take hp)
        have HLEN : Hid ((kyLs (ls.take i)).length + (kyL ls[i].l).length ≤ 10000) := Lib.hid (by
          have e := congrArg List.length (kyLs_take hp)
          have e2 : (kyLs (ls.take (i + 1))).length ≤ (kyLs ls).length := by
            have h3 : kyLs ls = kyLs (ls.take (i + 1)) ++ kyLs (ls.drop (i + 1)) := by
              unfold kyLs
              rw [← List.flatten_append, ← List.map_append, List.take_append_drop]
            rw [h3, List.length_append]
            omega
          have := HTT.out
          rw [List.length_append] at e
          omega)
        have hyn := HM.out ls[i] (List.getElem_mem hp)
        have HP := Lib.hid hp
        generalize ls[i] = y at a1 hp1 HTK HLEN hyn
        obtain ⟨yv, yl⟩ := y
        simp only at a1 hp1 hyn
        have HY0 := Lib.hid a1
        have HYP := Lib.hid hp1
        obtain ⟨ady, capy, rfl, _, _⟩ := id hp1
        have hyl := hyn.1
        clear h1 c1 a1 hp1 hyn
        go_wp2_with fail
        refine CA.out.mono ?_
        rintro e w2 ⟨rfl, b2⟩
        have HB2 := Lib.hid (HW.out.trans (b2.mono HW.out.size))
        have HR2 := Lib.hid (HR.out.below b2)
        clear b2 CA
        go_wp2
        go_loopw [3, 5] (fun v3 v5 wr => ∃ k : Nat, k ≤ yl.length ∧ v5 = .int .i64 (k : Int) ∧ Hid (KRow wr w.heap.size v3 ((kyL (yl.take k)).foldl into ((kyLs (ls.take i)).foldl into []))) ∧ Hid (Below w.heap.size w wr)) (fun _ v5 _ => yl.length - (intOf v5).toNat)
        case atStart => exact ⟨0, by omega, rfl, HR2, HB2⟩
        case round =>
          obtain ⟨k, hk, rfl, HR3, HB3⟩ := hrel
          have y1 := (HB3.out.cell (World.block_lt_of_cell? _ _ HY0.out)).trans HY0.out
          have hgl := World.block_lt_of_cell? _ _ y1
          by_cases hq : k < yl.length
          · obtain ⟨ad', cap', e1, _, c3⟩ := HYP.out.below HB3.out
            simp only [Value.slice.injEq, true_and] at e1
            obtain ⟨rfl, rfl⟩ := e1
            obtain ⟨g2, o2, rfl, c2⟩ := c3 (by omega)
            have b1 := c2 k hq
            have HQ := Lib.hid hq
            have HK2 : Hid (kyL (yl.take (k + 1)) = kyL (yl.take k) ++ [(yl[k].o, yl[k].s)]) := Lib.hid (by
              unfold kyL
              rw [List.take_succ_eq_append_getElem hq, List.map_append]
              rfl)
            have HLK : Hid (((kyL (yl.take k)).foldl into ((kyLs (ls.take i)).foldl into [])).length ≤ 100000) := Lib.hid (by
              have h1 := fold_len (kyL (yl.take k)) ((kyLs (ls.take i)).foldl into [])
              have h2 := fold_len (kyLs (ls.take i)) []
              have h3 : (kyL (yl.take k)).length ≤ (kyL yl).length := by unfold kyL; simp; omega
              have h4 := HLEN.out
              simp only [List.length_nil] at h2
              omega)
            generalize yl[k] = z at b1 HK2
            obtain ⟨zo, zs, za, zn⟩ := z
            have z0 := b1.c0
            have z1 := b1.c1
            simp only at z0 z1
            have hgl2 := World.block_lt_of_cell? _ _ z0
            have CI := Lib.hid (into_c _ zo zs _ wr w.heap.size HR3.out HB3.out.size HLK.out)
            clear c3 c2 b1 HLK
            go_wp2_with fail
            refine CI.out.mono ?_
            rintro e w5 ⟨v5, rfl, r5, b5⟩
            have HR5 : Hid (KRow w5 w.heap.size v5 ((kyL (yl.take (k + 1))).foldl into ((kyLs (ls.take i)).foldl into []))) := Lib.hid (by rw [HK2.out, List.foldl_append]; exact r5)
            have HB5 := Lib.hid (HB3.out.trans (b5.mono HB3.out.size))
            clear r5 b5 CI
            go_wp2
            go_roundw
            case rel => exact ⟨k + 1, HQ.out, by go_num, HR5, HB5⟩
            case measure => have := HQ.out; simp [intOf]; omega
          · have HF : Hid (KRow wr w.heap.size _ ((kyLs (ls.take (i + 1))).foldl into [])) := Lib.hid (by
              have h := HR3.out
              rw [show yl.take k = yl from List.take_of_length_le (by omega)] at h
              rw [HTK.out, List.foldl_append]
              exact h)
            clear HR3
            go_wp2
            go_roundw
            case rel => exact ⟨i + 1, HP.out, by go_num, HF, HB3, Lib.hid (by first | exact fun _ => HA1.out | exact fun _ => trivial | trivial)⟩
            case measure => have := HP.out; simp [intOf]; omega
    · have HO : Hid (orK (pls ls) = (kyLs (ls.take i)).foldl into []) := Lib.hid (by
        rw [List.take_of_length_le (by omega)]
        rcases Nat.eq_zero_or_pos i with h | h
        · have h0 : ls = [] := List.length_eq_zero_iff.1 (by omega)
          subst h0
          rfl
        · exact orK_yes (HA.out h))
      go_wp2
      go_ret
      exact ⟨_, rfl, by rw [HO.out]; exact HR.out, HW.out⟩
end Go.Proofs.Ytgdajnjfkokmdaa
