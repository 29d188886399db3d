/-
  GreatPosts, SamePosts, by contract.
-/
import Derived.Test.YtgdajnjfkokmdaaPstAnd
namespace Go.Proofs.Ytgdajnjfkokmdaa
open Go.RowKit Go.Lib

/-- What is gone through. -/
def small (ls : List Lv) (most : Nat) : Prop := ls.length ≤ most ∧ ∀ y ∈ ls, y.l.length ≤ 40 ∧ ∀ x ∈ y.l, x.ns.length ≤ 30
def greatT (ls : List Lv) (most : Nat) (w : World) (e : Ending) (w' : World) : Prop := ∃ b : Bool, e = .returned (.bool b) ∧ w = w' ∧ (b = false → small ls most)
theorem mem_of_lt {α : Type} {P : α → Prop} {l : List α} {k : Nat} (hk : l.length ≤ k) (h : ∀ t (ht : t < l.length), t < k → P l[t]) : ∀ x ∈ l, P x := fun x hx => by
  obtain ⟨t, ht, rfl⟩ := List.getElem_of_mem hx
  exact h t ht (by omega)
set_option maxHeartbeats 8000000 in
theorem great_c (ls : List Lv) (v : Value) (most : Nat) (w : World) (h : LRd w v ls) (hm : most ≤ 1000) :
    Calls Try.prog 8 #[v, .int .i64 (most : Int)] w (greatT ls most w) := by
  obtain ⟨⟨ad, cap, rfl, _, k1⟩, k2⟩ := h
  have H1 := Lib.hid k1
  have H2 := Lib.hid k2
  clear k1 k2
  by_cases hl : ls.length ≤ most
  · have el : decide ((ls.length : Int) ≤ (most : Int)) = true := by rw [decide_eq_true_eq]; omega
    go_enter Try.func8, Try.ntmps8
    go_wp2
    go_loopw [5] (fun v5 wr => ∃ i : Nat, i ≤ ls.length ∧ v5 = .int .i64 (i : Int) ∧ w = wr ∧ Hid (∀ t (ht : t < ls.length), t < i → ls[t].l.length ≤ 40 ∧ ∀ x ∈ ls[t].l, x.ns.length ≤ 30)) (fun v5 _ => ls.length - (intOf v5).toNat)
    case atStart => exact ⟨0, by omega, rfl, rfl, Lib.hid (fun t _ ht => by omega)⟩
    case round =>
      obtain ⟨i, hi, rfl, rfl, HS⟩ := hrel
      by_cases hp : i < ls.length
      · obtain ⟨g1, o1, rfl, c1⟩ := H1.out (by omega)
        have a1 := c1 i hp
        have hgl := World.block_lt_of_cell? _ _ a1
        have p1 := H2.out _ (List.getElem_mem hp)
        have HN : Hid (∀ y, ls[i] = y → (y.l.length ≤ 40 ∧ ∀ x ∈ y.l, x.ns.length ≤ 30) → ∀ t (ht : t < ls.length), t < i + 1 → ls[t].l.length ≤ 40 ∧ ∀ x ∈ ls[t].l, x.ns.length ≤ 30) := Lib.hid (fun y hy h t ht hti => by
          subst hy
          rcases Nat.lt_or_ge t i with h1 | h1
          · exact HS.out t ht h1
          · obtain rfl : t = i := by omega
            exact h)
        have HP := Lib.hid hp
        generalize hy : ls[i] = y at a1 p1
        have HN2 := Lib.hid (HN.out _ hy)
        obtain ⟨yv, yl⟩ := y
        simp only at a1 p1
        obtain ⟨ady, capy, rfl, _, k3⟩ := p1
        have H3 := Lib.hid k3
        clear HN hy c1 k3
        by_cases h40 : yl.length ≤ 40
        · have e40 : decide ((yl.length : Int) ≤ 40) = true := by rw [decide_eq_true_eq]; omega
          go_wp2
          go_loopw [6] (fun v6 wr => ∃ k : Nat, k ≤ yl.length ∧ v6 = .int .i64 (k : Int) ∧ w = wr ∧ Hid (∀ t (ht : t < yl.length), t < k → yl[t].ns.length ≤ 30)) (fun v6 _ => yl.length - (intOf v6).toNat)
          case atStart => exact ⟨0, by omega, rfl, by first | rfl | trivial, Lib.hid (fun t _ ht => by omega)⟩
          case round =>
            obtain ⟨k, hk, rfl, rfl, HT⟩ := hrel
            by_cases hq : k < yl.length
            · obtain ⟨g2, o2, rfl, c2⟩ := H3.out (by omega)
              have b1 := c2 k hq
              have HQ := Lib.hid hq
              have HT2 : Hid (∀ z, yl[k] = z → z.ns.length ≤ 30 → ∀ t (ht : t < yl.length), t < k + 1 → yl[t].ns.length ≤ 30) := Lib.hid (fun z hz h t ht htk => by
                subst hz
                rcases Nat.lt_or_ge t k with h1 | h1
                · exact HT.out t ht h1
                · obtain rfl : t = k := by omega
                  exact h)
              generalize hz : yl[k] = z at b1
              have HT3 := Lib.hid (HT2.out _ hz)
              obtain ⟨zo, zs, za, zn⟩ := z
              have z2 := b1.c2
              have znl := b1.nl
              simp only at z2 znl
              obtain ⟨adz, capz, rfl, _⟩ := znl.form
              have hglz := World.block_lt_of_cell? _ _ z2
              clear c2 b1 hz HT2
              by_cases h30 : zn.length ≤ 30
              · have e30 : decide (30 < (zn.length : Int)) = false := by rw [decide_eq_false_iff_not]; omega
                have e31 : decide (30 < zn.length) = false := by rw [decide_eq_false_iff_not]; omega
                have HT4 := Lib.hid (HT3.out h30)
                go_wp2
                go_roundw
                case rel => exact ⟨k + 1, HQ.out, by go_num, by first | rfl | trivial, HT4⟩
                case measure => have := HQ.out; simp [intOf]; omega
              · have e30 : decide (30 < (zn.length : Int)) = true := by rw [decide_eq_true_eq]; omega
                have e31 : decide (30 < zn.length) = true := by rw [decide_eq_true_eq]; omega
                go_wp2
                go_ret
                exact ⟨true, rfl, rfl, fun h => by cases h⟩
            · have HN3 := Lib.hid (HN2.out ⟨h40, mem_of_lt (P := fun x : Pv => x.ns.length ≤ 30) (by omega) HT.out⟩)
              have e41 : decide (40 < (yl.length : Int)) = false := by rw [decide_eq_false_iff_not]; omega
              have e42 : decide (40 < yl.length) = false := by rw [decide_eq_false_iff_not]; omega
              have hp' := HP.out
              go_wp2
              go_roundw
              case rel => exact ⟨i + 1, HP.out, by go_num, by first | rfl | trivial, HN3⟩
              case measure => have := HP.out; simp [intOf]; omega
        · have e40 : decide ((yl.length : Int) ≤ 40) = false := by rw [decide_eq_false_iff_not]; omega
          have e41 : decide (40 < (yl.length : Int)) = true := by rw [decide_eq_true_eq]; omega
          have e42 : decide (40 < yl.length) = true := by rw [decide_eq_true_eq]; omega
          have hp' := HP.out
          go_wp2
          go_loopw [6] (fun v6 wr => v6 = .int .i64 0 ∧ w = wr) (fun _ _ => 0)
          case atStart => exact ⟨rfl, by first | rfl | trivial⟩
          case round =>
            obtain ⟨rfl, rfl⟩ := hrel
            have e0 : decide (0 < yl.length) = true := by rw [decide_eq_true_eq]; omega
            go_wp2
            go_ret
            exact ⟨true, rfl, rfl, fun h => by cases h⟩
      · have HF : Hid (small ls most) := Lib.hid ⟨hl, mem_of_lt (P := fun y : Lv => y.l.length ≤ 40 ∧ ∀ x ∈ y.l, x.ns.length ≤ 30) (by omega) HS.out⟩
        have e1 : decide ((most : Int) < (ls.length : Int)) = false := by rw [decide_eq_false_iff_not]; omega
        have e2 : decide (most < ls.length) = false := by rw [decide_eq_false_iff_not]; omega
        go_wp2
        go_ret
        exact ⟨false, by simp, rfl, fun _ => HF.out⟩
  · have el : decide ((ls.length : Int) ≤ (most : Int)) = false := by rw [decide_eq_false_iff_not]; omega
    have e1 : decide ((most : Int) < (ls.length : Int)) = true := by rw [decide_eq_true_eq]; omega
    have e2 : decide (most < ls.length) = true := by rw [decide_eq_true_eq]; omega
    go_enter Try.func8, Try.ntmps8
    go_wp2
    go_loopw [5] (fun v5 wr => v5 = .int .i64 0 ∧ w = wr) (fun _ _ => 0)
    case atStart => exact ⟨rfl, rfl⟩
    case round =>
      obtain ⟨rfl, rfl⟩ := hrel
      go_wp2
      go_ret
      exact ⟨true, by simp, rfl, fun h => by cases h⟩
end Go.Proofs.Ytgdajnjfkokmdaa
