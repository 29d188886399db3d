/-
  SamePosts, by contract.
-/
import Derived.Test.YtgdajnjfkokmdaaPstGreat
namespace Go.Proofs.Ytgdajnjfkokmdaa
open Go.RowKit Go.Lib

theorem sameB_self (l : List Int) : sameB l l = true := (sameB_iff l l).2 rfl
set_option maxHeartbeats 8000000 in
theorem samep_c (l m : List Pv) (v1 v2 : Value) (w : World) (h1 : PRd w v1 l) (h2 : PRd w v2 m) (he : ps l = ps m) (hn : l.length ≤ 1000000) (hns : ∀ x ∈ l, x.ns.length ≤ 1000000) :
    Calls Try.prog 23 #[v1, v2] w fun e w' => e = .returned (.bool true) ∧ Below w.heap.size w w' := by
  have hlen : m.length = l.length := by have := congrArg List.length he; simp only [ps, List.length_map] at this; exact this.symm
  have HE := Lib.hid he
  have HNS := Lib.hid hns
  have HP1 := Lib.hid h1
  have HP2 := Lib.hid h2
  obtain ⟨ad1, cap1, rfl, _, _⟩ := h1
  obtain ⟨ad2, cap2, rfl, _, _⟩ := h2
  rw [hlen] at HP2 ⊢
  have HLN := Lib.hid hlen
  clear he hns hlen
  go_enter Try.func23, Try.ntmps23
  go_wp2
  go_loopw [5] (fun v5 wr => ∃ k : Nat, k ≤ l.length ∧ v5 = .int .i64 (k : Int) ∧ Hid (Below w.heap.size w wr)) (fun v5 _ => l.length - (intOf v5).toNat)
  case atStart => exact ⟨0, by omega, rfl, Lib.hid (Below.refl _ _)⟩
  case round =>
    obtain ⟨k, hk, rfl, HB⟩ := hrel
    by_cases hp : k < l.length
    · have hpm : k < m.length := by have := HLN.out; omega
      obtain ⟨ad1', cap1', e1, _, c1⟩ := HP1.out.below HB.out
      simp only [Value.slice.injEq, true_and] at e1
      obtain ⟨rfl, rfl⟩ := e1
      obtain ⟨ad2', cap2', e2, _, c2⟩ := HP2.out.below HB.out
      simp only [Value.slice.injEq] at e2
      obtain ⟨rfl, e9, rfl⟩ := e2
      clear e9
      obtain ⟨g1, o1, rfl, d1⟩ := c1 (by omega)
      obtain ⟨g2, o2, rfl, d2⟩ := c2 (by omega)
      have a1 := d1 k hp
      have a2 := d2 k hpm
      have hd : (l[k]).p = (m[k]).p := by
        have h3 := congrArg (fun z : List Po => z[k]?) HE.out
        simpa [ps, hp, hpm] using h3
      have hn1 := HNS.out _ (List.getElem_mem hp)
      have HP := Lib.hid hp
      generalize l[k] = X at a1 hd hn1
      generalize m[k] = Y at a2 hd
      obtain ⟨xo, xs, xa, xn⟩ := X
      obtain ⟨yo, ys, ya, yn⟩ := Y
      simp only [Pv.p, Po.mk.injEq, Prod.mk.injEq] at hd
      obtain ⟨⟨rfl, rfl⟩, rfl⟩ := hd
      simp only at hn1
      have HA1 := Lib.hid a1
      have HA2 := Lib.hid a2
      have q : ∀ W, (Op.equalIn 10000 34 (.agg #[.int .i64 xo, .int .i64 xs]) (.agg #[.int .i64 xo, .int .i64 xs])).run Try.prog W = .ok true W := fun W => by rw [eq_key]; simp
      have CS : Hid (∀ W, Below wr.heap.size wr W → Calls Try.prog 29 #[xa, ya] W fun e w' => e = .returned (.bool true) ∧ Below W.heap.size W w') := Lib.hid (fun W hW => by
        have h := same_c xn xn xa ya W ((HA1.out.nl).below hW) ((HA2.out.nl).below hW) hn1
        rwa [sameB_self] at h)
      have HS : Hid (∀ W, Below wr.heap.size wr W → W.cell? ⟨g1, o1 + k * 3, none⟩ = some (.int .i64 xo) ∧ W.cell? ⟨g1, o1 + k * 3 + 1, none⟩ = some (.int .i64 xs) ∧ W.cell? ⟨g1, o1 + k * 3 + 2, none⟩ = some xa ∧ W.cell? ⟨g2, o2 + k * 3, none⟩ = some (.int .i64 xo) ∧ W.cell? ⟨g2, o2 + k * 3 + 1, none⟩ = some (.int .i64 xs) ∧ W.cell? ⟨g2, o2 + k * 3 + 2, none⟩ = some ya) := Lib.hid (fun W hb => ⟨(HA1.out.below hb).c0, (HA1.out.below hb).c1, (HA1.out.below hb).c2, (HA2.out.below hb).c0, (HA2.out.below hb).c1, (HA2.out.below hb).c2⟩)
      clear c1 c2 d1 d2 a1 a2
      go_wp2_with fail
      go_region_held3 (fun W => W.cell? ⟨g1, o1 + k * 3, none⟩ = some (.int .i64 xo) ∧ W.cell? ⟨g1, o1 + k * 3 + 1, none⟩ = some (.int .i64 xs) ∧ W.cell? ⟨g1, o1 + k * 3 + 2, none⟩ = some xa ∧ W.cell? ⟨g2, o2 + k * 3, none⟩ = some (.int .i64 xo) ∧ W.cell? ⟨g2, o2 + k * 3 + 1, none⟩ = some (.int .i64 xs) ∧ W.cell? ⟨g2, o2 + k * 3 + 2, none⟩ = some ya) (exact HS.out _ (by first | assumption | exact (Below.refl _ _).drew | exact Below.refl _ _))
        (first
        | (go_at_call 29; refine (CS.out _ (by first | assumption | exact (Below.refl _ _).drew | exact Below.refl _ _)).mono ?_; rintro e w5 ⟨rfl, b5⟩; have b5' : Below wr.heap.size wr w5 := bn (by first | assumption | exact (Below.refl _ _).drew | exact Below.refl _ _) b5; clear b5)
        | fail)
      have HB5 := Lib.hid (bn HB.out b5')
      clear b5' HS CS
      go_wp2
      go_roundw
      case rel => exact ⟨k + 1, HP.out, by go_num, HB5⟩
      case measure => have := HP.out; simp [intOf]; omega
    · go_wp2
      go_ret
      exact ⟨rfl, HB.out⟩
end Go.Proofs.Ytgdajnjfkokmdaa
