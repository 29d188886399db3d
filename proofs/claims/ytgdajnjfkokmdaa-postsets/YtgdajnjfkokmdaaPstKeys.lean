/-
  SameKeys and OverKeys, by contract.
-/
import Derived.Test.YtgdajnjfkokmdaaPstInto
namespace Go.Proofs.Ytgdajnjfkokmdaa
open Go.RowKit Go.Lib

theorem cell_two_new (w : World) (a b : Value) (t : TypeId) : ∀ j u, [a, b][j]? = some u → (w.alloc (.cells #[a, b] t)).cell? ((⟨w.heap.size, 0, none⟩ : Addr).add j) = some u := by
  intro j u hj
  have hx := Bx.new t w #[a, b]
  rw [Go.WideShapes.add_plain, Nat.zero_add, hx.cell j]
  simpa using hj
set_option maxHeartbeats 4000000 in
theorem samek_c (l : List Ky) (v1 v2 : Value) (w : World) (h1 : KRd w v1 l) (h2 : KRd w v2 l) (hn : l.length ≤ 1000000) :
    Calls Try.prog 13 #[v1, v2] w fun e w' => e = .returned (.bool true) ∧ Below w.heap.size w w' := by
  obtain ⟨ad1, cap1, rfl, _, k1⟩ := h1
  obtain ⟨ad2, cap2, rfl, _, k2⟩ := h2
  have H1 := Lib.hid k1
  have H2 := Lib.hid k2
  clear k1 k2
  go_enter Try.func13, Try.ntmps13
  go_wp2
  go_loopw [5] (fun v5 wr => ∃ k q : Nat, k ≤ l.length ∧ v5 = .int .i64 (k : Int) ∧ wr = w.drewN q) (fun v5 _ => l.length - (intOf v5).toNat)
  case atStart => exact ⟨0, 0, by omega, rfl, rfl⟩
  case round =>
    obtain ⟨k, q, hk, rfl, rfl⟩ := hrel
    by_cases hp : k < l.length
    · obtain ⟨g1, o1, rfl, c1⟩ := H1.out (by omega)
      obtain ⟨g2, o2, rfl, c2⟩ := H2.out (by omega)
      obtain ⟨c11, c12⟩ := c1 k hp
      obtain ⟨c21, c22⟩ := c2 k hp
      clear c1 c2 H1 H2
      generalize l[k] = u at c11 c12 c21 c22
      obtain ⟨u1, u2⟩ := u
      simp only at c11 c12 c21 c22
      have q9 : ∀ W, (Op.equalIn 10000 34 (.agg #[.int .i64 u1, .int .i64 u2]) (.agg #[.int .i64 u1, .int .i64 u2])).run Try.prog W = .ok true W := fun W => by rw [eq_key]; simp
      go_wp2
      go_quiet (fail)
      go_wp2
      go_roundw
      case rel => exact ⟨k + 1, q + nq, hp, by go_num, rfl⟩
      case measure => simp [intOf]; omega
    · go_wp2
      go_ret
      exact ⟨rfl, below_drewN (Below.refl _ _) q⟩

set_option maxHeartbeats 4000000 in
theorem overk_c (l : List Ky) (v : Value) (w : World) (B : Nat) (h : KRow w B v l) (hn : l.length ≤ 1000000) (hB : B ≤ w.heap.size) :
    Calls Try.prog 19 #[v] w fun e w' => e = .returned (.tuple #[]) ∧ w.grownBy w' v.ownBlock := by
  obtain ⟨i0, hi, hz0, hz1, hz2⟩ := info_parts keyInfo
  have HI := Lib.hid hi
  have HZ0 := Lib.hid hz0
  have HZ1 := Lib.hid hz1
  have HZ2 := Lib.hid hz2
  clear hi hz0 hz1 hz2
  obtain ⟨ad, cap, rfl, _⟩ := h.rd
  have H := Lib.hid h
  clear h
  go_enter Try.func19, Try.ntmps19
  go_wp2
  go_loopw [2] (fun v2 wr => ∃ (k : Nat) (xs : List Value), k ≤ l.length ∧ v2 = .int .i64 (k : Int) ∧ Hid (wr.ownsRow B 34 2 (.slice ad l.length cap) l.length xs) ∧ Hid (w.grownBy wr (Value.slice ad l.length cap).ownBlock)) (fun v2 _ => l.length - (intOf v2).toNat)
  case atStart => exact ⟨0, _, by omega, rfl, H, Lib.hid (grown_refl _ _)⟩
  case round =>
    obtain ⟨k, xs, hk, rfl, HM, HG⟩ := hrel
    have hsz := HG.out.size
    clear H
    by_cases hp : k < l.length
    · obtain ⟨g, cap2, he, hg, hlt⟩ := World.ownsRow.form HM.out (by omega)
      simp only [Value.slice.injEq] at he
      obtain ⟨rfl, e4, e5⟩ := he
      clear e4 e5
      have hf1 := World.ownsRow.frozenAt HM.out (k * 2)
      have hf2 := World.ownsRow.frozenAt HM.out (k * 2 + 1)
      have hl := HM.out.1
      have hc1 := World.ownsRow.cellAt HM.out (k * 2) (by omega)
      have hc2 := World.ownsRow.cellAt HM.out (k * 2 + 1) (by omega)
      rw [List.getElem?_eq_getElem (by omega)] at hc1 hc2
      generalize xs[k * 2] = y1 at hc1
      generalize xs[k * 2 + 1] = y2 at hc2
      obtain ⟨ho1, hg1⟩ := World.ownsRow.stored HM.out (k * 2) (.int .i64 (-9))
      obtain ⟨ho2, hg2⟩ := World.ownsRow.stored ho1 (k * 2 + 1) (.int .i64 0)
      have HO := Lib.hid ho2
      have HG2 := Lib.hid (grown_trans HG.out (grown_trans hg1 hg2))
      clear ho1 ho2 hg1 hg2 hl
      go_wp2
      go_roundw
      case rel => exact ⟨k + 1, _, hp, by go_num, HO, HG2⟩
      case measure => simp [intOf]; omega
    · go_wp2_with (at_builtin; refine wpList_append_own _ rfl _ _ 25 rfl B 34 i0 (.agg #[.int .i64 0, .int .i64 0]) 2 16 Try.underlying25 HI.out HZ0.out HZ1.out HZ2.out rfl (by decide) _ _ _ rfl (World.ownsRow.alloc HM.out _) ⟨wr.heap.size, 0, none⟩ 1 1 [.int .i64 (-9), .int .i64 0] rfl rfl (cell_two_new _ _ _ _) (fun x hx => by simp at hx; rcases hx with rfl | rfl <;> rfl) (by unfold maxLen; omega) (by omega) (by simp; omega) ?_; intro v' w3 hown3 hgrow3 hnil3)
      go_end0
      exact ⟨rfl, grown_trans HG.out (grown_trans (World.grownBy_alloc _ _ _) hgrow3)⟩

end Go.Proofs.Ytgdajnjfkokmdaa
