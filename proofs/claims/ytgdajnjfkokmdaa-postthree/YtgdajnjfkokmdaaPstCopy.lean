/-
  copied of the program, by contract: lists one behind the other, with places of their own.
-/
import Derived.Test.YtgdajnjfkokmdaaPstConc
import Derived.Test.YtgdajnjfkokmdaaPstBoth
namespace Go.Proofs.Ytgdajnjfkokmdaa
open Go.RowKit Go.Lib
set_option maxRecDepth 100000

theorem csP_set2 (x : Pv) (R : List Pv) (u : Value) (ns : List Int) : ∀ D : List Pv, (csP (D ++ x :: R)).set (D.length * 3 + 2) u = csP (D ++ ⟨x.o, x.s, u, ns⟩ :: R)
  | [] => by simp [csP]
  | d :: D => by
    have ih := csP_set2 x R u ns D
    rw [List.length_cons, show (D.length + 1) * 3 + 2 = D.length * 3 + 2 + 1 + 1 + 1 by omega]
    simp only [List.cons_append, csP, List.set_cons_succ, ih]
theorem apart_new {w : World} {B : Nat} {v u : Value} {l : List Int} (h : Row w B v l) (k : ∀ g, u.ownBlock = some g → w.heap.size ≤ g) : apart v u := fun g hg hu => by
  have h1 := (World.ownsRow.lt h g hg).2
  have h2 := k g hu
  omega
set_option maxHeartbeats 8000000 in
theorem copied_c (ls : List Lv) (v : Value) (w : World) (h : LRd w v ls) (hn : ls.length ≤ 100) (hm : (flatV ls).length ≤ 10000) (hns : ∀ x ∈ flatV ls, x.ns.length ≤ 1000000) :
    Calls Try.prog 45 #[v] w fun e w' => ∃ v' qs, e = .returned v' ∧ POwn w' w.heap.size v' qs ∧ ps qs = ps (flatV ls) ∧ Below w.heap.size w w' := by
  have CC := Lib.hid (concat_c ls v w h hn hm)
  have HNL : Hid (∀ x ∈ flatV ls, Nl w x.a x.ns) := Lib.hid (fun x hx => by
    unfold flatV at hx
    obtain ⟨l, hl, hxl⟩ := List.mem_flatten.1 hx
    obtain ⟨y, hy, rfl⟩ := List.mem_map.1 hl
    exact (h.2 y hy).nls x hxl)
  have HNS := Lib.hid hns
  obtain ⟨⟨ad, cap, rfl, _, _⟩, _⟩ := h
  clear hns
  generalize flatV ls = F at CC HNL HNS hm ⊢
  go_enter Try.func45, Try.ntmps45
  go_wp2_with fail
  refine CC.out.mono ?_
  rintro e w2 ⟨v2, rfl, hr2, b2⟩
  obtain ⟨A2, C2, ek, _⟩ := own_form hr2
  subst ek
  have HR2 := Lib.hid hr2
  have HB2 := Lib.hid b2
  clear hr2 b2 CC
  go_wp2
  go_loopw [10] (fun v10 wr => ∃ (k : Nat) (D : List Pv), k ≤ F.length ∧ v10 = .int .i64 (k : Int) ∧ Hid (ps D = ps (F.take k)) ∧ Hid (wr.ownsRow w.heap.size 37 3 (.slice A2 F.length C2) F.length (csP (D ++ F.drop k))) ∧ Hid (∀ x ∈ D, Row wr w.heap.size x.a x.ns) ∧ Hid ((D.map Pv.a).Pairwise apart) ∧ Hid (Below w.heap.size w wr)) (fun v10 _ => F.length - (RowKit.intOf v10).toNat)
  case atStart => exact ⟨0, [], by omega, rfl, Lib.hid rfl, HR2, Lib.hid (fun x hx => by cases hx), Lib.hid List.Pairwise.nil, HB2⟩
  case round =>
    obtain ⟨k, D, hk, rfl, HPD, HRW, HDR, HPW, HB⟩ := hrel
    have HDL : Hid (D.length = k) := Lib.hid (by
      have h1 := congrArg List.length HPD.out
      simp only [ps, List.length_map, List.length_take] at h1
      omega)
    by_cases hp : k < F.length
    · obtain ⟨g, cap2, he, hgB, hglt⟩ := World.ownsRow.form HRW.out (by omega)
      simp only [Value.slice.injEq] at he
      obtain ⟨rfl, _, e5⟩ := he
      clear e5
      have hdr := List.drop_eq_getElem_cons hp
      have htk : F.take (k + 1) = F.take k ++ [F[k]] := List.take_succ_eq_append_getElem hp
      have hnl := HNL.out _ (List.getElem_mem hp)
      have hxl := HNS.out _ (List.getElem_mem hp)
      have hrw := HRW.out
      have HP := Lib.hid hp
      generalize F[k] = x at hdr htk hnl hxl
      rw [hdr] at hrw
      have hlen : k < (D ++ x :: F.drop (k + 1)).length := by rw [List.length_append, HDL.out, List.length_cons]; omega
      have hgx : (D ++ x :: F.drop (k + 1))[k] = x := by
        have := HDL.out
        subst this
        simp
      have hc0 := World.ownsRow.cellAt hrw (k * 3) (by omega)
      have hc1 := World.ownsRow.cellAt hrw (k * 3 + 1) (by omega)
      have hc2 := World.ownsRow.cellAt hrw (k * 3 + 2) (by omega)
      rw [(csP_at _ k hlen).1, hgx] at hc0
      rw [(csP_at _ k hlen).2.1, hgx] at hc1
      rw [(csP_at _ k hlen).2.2, hgx] at hc2
      have HRX := Lib.hid hrw
      have HTK := Lib.hid htk
      obtain ⟨xo, xs, xa, xn⟩ := x
      simp only at hc0 hc1 hc2 hnl hxl
      have hnw := hnl.below HB.out
      obtain ⟨XA, XC, ex, _⟩ := hnl.form
      subst ex
      obtain ⟨W4, hW4⟩ : ∃ W4, W4 = wr.alloc (.cells #[.int .i64 xo, .int .i64 xs, .slice XA xn.length XC] 37) := ⟨_, rfl⟩
      have hal : Below wr.heap.size wr W4 := by rw [hW4]; exact alloc_below _ _
      have CL := Lib.hid (clone_c xn _ W4 (hnw.below hal) hxl)
      unfold rowT at CL
      have hd2 := (hal.cell (World.block_lt_of_cell? _ _ hc2)).trans hc2
      have hf2 := World.ownsRow.frozenAt (own_below hrw hal) (k * 3 + 2)
      have HW4 := Lib.hid hW4
      have HAL := Lib.hid hal
      have HHD := Lib.hid (And.intro hd2 hglt)
      clear hdr htk hnl hrw hlen hgx hnw hW4 hal hd2 hf2
      go_wp2_with fail
      rw [← HW4.out]
      refine CL.out.mono ?_
      rintro e w5 ⟨v5, rfl, hr5, b5⟩
      have hc5 := (b5.cell (World.block_lt_of_cell? _ _ HHD.out.1)).trans HHD.out.1
      have hrow5 := own_below HRX.out (bn HAL.out b5)
      have hf5 := World.ownsRow.frozenAt hrow5 (k * 3 + 2)
      obtain ⟨h1, h2⟩ := World.ownsRow.stored hrow5 (k * 3 + 2) v5
      have hset := csP_set2 ⟨xo, xs, .slice XA xn.length XC, xn⟩ (F.drop (k + 1)) v5 xn D
      rw [HDL.out] at hset
      simp only at hset
      rw [hset] at h1
      have h1' : (w5.setCell ⟨g, k * 3 + 2, none⟩ v5).ownsRow w.heap.size 37 3 (.slice (some ⟨g, 0, none⟩) F.length C2) F.length (csP ((D ++ [⟨xo, xs, v5, xn⟩]) ++ F.drop (k + 1))) := by rw [List.append_assoc]; exact h1
      have hfar : ∀ (u : Value) (m : List Int) (B : Nat), Row w5 B u m → Row (w5.setCell ⟨g, k * 3 + 2, none⟩ v5) B u m := fun u m B hu => hu.far h2 (fun q hq q' hq' => rows_apart hrow5 hu (by decide) q hq q' hq')
      have HRR := Lib.hid h1'
      have HDD : Hid (∀ x ∈ D ++ [(⟨xo, xs, v5, xn⟩ : Pv)], Row (w5.setCell ⟨g, k * 3 + 2, none⟩ v5) w.heap.size x.a x.ns) := Lib.hid (fun x hx => by
        rcases List.mem_append.1 hx with hx | hx
        · exact hfar _ _ _ ((HDR.out x hx).below (bn HAL.out b5))
        · rw [List.mem_singleton.1 hx]
          exact hfar _ _ _ (hr5.mono (Nat.le_trans HB.out.size HAL.out.size)))
      have HPP : Hid (((D ++ [(⟨xo, xs, v5, xn⟩ : Pv)]).map Pv.a).Pairwise apart) := Lib.hid (by
        rw [List.map_append]
        refine List.pairwise_append.2 ⟨HPW.out, List.pairwise_singleton _ _, fun a ha b hb => ?_⟩
        obtain ⟨y, hy, rfl⟩ := List.mem_map.1 ha
        simp only [List.map_cons, List.map_nil, List.mem_singleton] at hb
        subst hb
        intro q hq hq'
        have h3 := (World.ownsRow.lt (HDR.out y hy) q hq).2
        have h4 := (World.ownsRow.lt hr5 q hq').1
        have := HAL.out.size
        omega)
      have HBB := Lib.hid (HB.out.trans (((bn HAL.out b5).mono HB.out.size).trans (below_of_grown h2 (Nat.le_trans HB.out.size (bn HAL.out b5).size) (fun q hq => by
        simp only [Option.some.injEq] at hq
        rw [← hq]
        exact hgB))))
      have HPS : Hid (ps (D ++ [(⟨xo, xs, v5, xn⟩ : Pv)]) = ps (F.take (k + 1))) := Lib.hid (by
        rw [HTK.out]
        have := HPD.out
        simp only [ps, List.map_append] at this ⊢
        rw [this]
        rfl)
      obtain ⟨A5, C5, e5, _⟩ := own_form hr5
      subst e5
      clear h1 h1' h2 hset hrow5 hfar hr5 b5 CL hc0 hc1 hc2
      go_wp2
      go_roundw
      case rel => exact ⟨k + 1, _, HP.out, by go_num, HPS, HRR, HDD, HPP, HBB⟩
      case measure => have := HP.out; simp [RowKit.intOf]; omega
    · have HFIN : Hid (POwn wr w.heap.size (.slice A2 F.length C2) D ∧ ps D = ps F) := Lib.hid (by
        have hk2 : k = F.length := by omega
        have h1 := HRW.out
        have h2 := HPD.out
        have h3 := HDL.out
        rw [List.drop_of_length_le (by omega), List.append_nil] at h1
        rw [List.take_of_length_le (by omega)] at h2
        refine ⟨⟨?_, HDR.out, HPW.out⟩, h2⟩
        unfold PRow
        rw [h3, hk2]
        exact h1)
      go_wp2
      go_ret
      exact ⟨_, D, rfl, HFIN.out.1, HFIN.out.2, HB.out⟩
end Go.Proofs.Ytgdajnjfkokmdaa
