/-
  Less of chapter 10's own answer, by contract; what is answered is a row of one's own.
-/
import Derived.Test.YtgdajnjfkokmdaaPstRow
namespace Go.Proofs.Ytgdajnjfkokmdaa
open Go.RowKit Go.Lib

def keysT (l : List Ky) (w : World) (e : Ending) (w' : World) : Prop := ∃ v, e = .returned v ∧ KRow w' w.heap.size v l ∧ Below w.heap.size w w'
theorem lessK_snoc (a : List Ky) (k : Ky) (s : List Ky) : lessK (a ++ [k]) s = if s.contains k then lessK a s else lessK a s ++ [k] := by
  unfold lessK
  rw [List.filter_append]
  cases h : s.contains k with
  | true =>
    rw [List.filter_cons_of_neg (by rw [h]; simp), List.filter_nil, List.append_nil]
    rfl
  | false =>
    rw [List.filter_cons_of_pos (by rw [h]; rfl), List.filter_nil]
    rfl
set_option maxHeartbeats 8000000 in
theorem less_c (a b : List Ky) (va vb : Value) (w : World) (ha : KRd w va a) (hb : KRd w vb b) (hn : a.length ≤ 10000) (hm : b.length ≤ 1000000) :
    Calls Try.prog 26 #[va, vb] w (keysT (lessK a b) w) := by
  have HA := Lib.hid ha
  have HB := Lib.hid hb
  obtain ⟨ada, capa, rfl, _, _⟩ := id ha
  obtain ⟨adb, capb, rfl, _, _⟩ := id hb
  clear ha hb
  go_enter Try.func26, Try.ntmps26
  go_wp2
  go_loopw [5, 6] (fun v5 v6 wr => ∃ k : Nat, k ≤ a.length ∧ v6 = .int .i64 (k : Int) ∧ Hid (KRow wr w.heap.size v5 (lessK (a.take k) b)) ∧ Hid (Below w.heap.size w wr)) (fun _ v6 _ => a.length - (intOf v6).toNat)
  case atStart => exact ⟨0, by omega, rfl, Lib.hid (KRow.nil _ _), Lib.hid (Below.refl _ _)⟩
  case round =>
    obtain ⟨k, hk, rfl, HR, HW⟩ := hrel
    obtain ⟨w0, rfl⟩ : ∃ w0, w0 = wr := ⟨_, rfl⟩
    by_cases hp : k < a.length
    · obtain ⟨ada', capa', e1, _, ha3⟩ := HA.out.below HW.out
      simp only [Value.slice.injEq, true_and] at e1
      obtain ⟨rfl, rfl⟩ := e1
      obtain ⟨g1, o1, rfl, c1⟩ := ha3 (by omega)
      have a1 := c1 k hp
      have HT : Hid (∀ y, a[k] = y → a.take (k + 1) = a.take k ++ [y]) := Lib.hid (fun y hy => by rw [← hy, List.take_succ_eq_append_getElem hp])
      have HP := Lib.hid hp
      generalize hy : a[k] = y at a1
      obtain ⟨yo, ys⟩ := y
      have HT2 := Lib.hid (HT.out _ hy)
      have HY := Lib.hid a1
      clear ha3 c1 HT hy a1
      go_wp2
      go_loopw [7, 8] (fun v7 v8 wr => ∃ (j : Nat) (IN : Bool), j ≤ b.length ∧ v8 = .int .i64 (j : Int) ∧ v7 = .bool IN ∧ Hid ((IN || (b.drop j).contains (yo, ys)) = b.contains (yo, ys)) ∧ Hid (Below w0.heap.size w0 wr)) (fun _ v8 _ => b.length - (intOf v8).toNat)
      case atStart => exact ⟨0, false, by omega, rfl, rfl, Lib.hid (by rw [Bool.false_or, List.drop_zero]), Lib.hid (Below.refl _ _)⟩
      case round =>
        obtain ⟨j, IN, hj, rfl, rfl, HI, HV⟩ := hrel
        have ya := HY.out.below HV.out
        have y0 := ya.1
        have y1 := ya.2
        simp only at y0 y1
        have hgl := World.block_lt_of_cell? _ _ y0
        by_cases hq : j < b.length
        · obtain ⟨adb', capb', e2, _, hb3⟩ := (HB.out.below HW.out).below HV.out
          simp only [Value.slice.injEq, true_and] at e2
          obtain ⟨rfl, rfl⟩ := e2
          obtain ⟨g2, o2, rfl, c2⟩ := hb3 (by omega)
          have b1 := c2 j hq
          have hi := HI.out
          rw [List.drop_eq_getElem_cons hq, List.contains_cons] at hi
          have HQ := Lib.hid hq
          generalize b[j] = z at b1 hi
          obtain ⟨zo, zs⟩ := z
          have z0 := b1.1
          have z1 := b1.2
          simp only at z0 z1
          have hgl2 := World.block_lt_of_cell? _ _ z0
          clear hb3 c2 b1 ya
          cases IN with
          | true =>
            have HI2 : Hid ((true || (b.drop (j + 1)).contains (yo, ys)) = b.contains (yo, ys)) := Lib.hid (by rw [Bool.true_or] at hi ⊢; exact hi)
            clear hi HI
            go_wp2_with fail
            go_quiet (fail)
            go_wp2
            go_roundw
            case rel => exact ⟨j + 1, true, HQ.out, by go_num, rfl, HI2, Lib.hid (below_drewN HV.out _)⟩
            case measure => have := HQ.out; simp [intOf]; omega
          | false =>
            cases e1 : (zo == yo && zs == ys) with
            | true =>
              have q : ∀ W, (Op.equalIn 10000 34 (.agg #[.int .i64 zo, .int .i64 zs]) (.agg #[.int .i64 yo, .int .i64 ys])).run Try.prog W = .ok true W := fun W => by rw [← e1]; exact eq_key zo zs yo ys W
              have HI2 : Hid ((true || (b.drop (j + 1)).contains (yo, ys)) = b.contains (yo, ys)) := Lib.hid (by
                have h1 : ((yo, ys) == (zo, zs)) = true := by simp only [Bool.and_eq_true, beq_iff_eq] at e1; simp [e1.1, e1.2]
                rw [Bool.false_or, h1, Bool.true_or] at hi
                rw [Bool.true_or]; exact hi)
              clear hi HI e1
              go_wp2_with fail
              go_quiet (fail)
              go_wp2
              go_roundw
              case rel => exact ⟨j + 1, true, HQ.out, by go_num, rfl, HI2, Lib.hid (below_drewN HV.out _)⟩
              case measure => have := HQ.out; simp [intOf]; omega
            | false =>
              have q : ∀ W, (Op.equalIn 10000 34 (.agg #[.int .i64 zo, .int .i64 zs]) (.agg #[.int .i64 yo, .int .i64 ys])).run Try.prog W = .ok false W := fun W => by rw [← e1]; exact eq_key zo zs yo ys W
              have HI2 : Hid ((false || (b.drop (j + 1)).contains (yo, ys)) = b.contains (yo, ys)) := Lib.hid (by
                have h1 : ((yo, ys) == (zo, zs)) = false := by
                  rw [beq_eq_false_iff_ne]
                  intro e
                  cases e
                  simp at e1
                rw [Bool.false_or, h1, Bool.false_or] at hi
                rw [Bool.false_or]; exact hi)
              clear hi HI e1
              go_wp2_with fail
              go_quiet (fail)
              go_wp2
              go_roundw
              case rel => exact ⟨j + 1, false, HQ.out, by go_num, rfl, HI2, Lib.hid (below_drewN HV.out _)⟩
              case measure => have := HQ.out; simp [intOf]; omega
        · have hi := HI.out
          rw [List.drop_of_length_le (by omega), show ([] : List Ky).contains (yo, ys) = false from rfl, Bool.or_false] at hi
          have HL : Hid (lessK (a.take (k + 1)) b = if IN then lessK (a.take k) b else lessK (a.take k) b ++ [(yo, ys)]) := Lib.hid (by rw [HT2.out, lessK_snoc, hi])
          clear hi HI
          have HRW := Lib.hid (HR.out.below HV.out)
          cases IN with
          | true =>
            go_wp2_with fail
            go_roundw
            case rel => exact ⟨k + 1, HP.out, by go_num, Lib.hid (by rw [HL.out]; exact HRW.out), Lib.hid (HW.out.trans (HV.out.mono HW.out.size))⟩
            case measure => have := HP.out; simp [intOf]; omega
          | false =>
            obtain ⟨A, C, w5, run5, r5, b5⟩ := HRW.out.push yo ys (by have := List.length_filter_le (fun k => !b.contains k) (a.take k); have := List.length_take_le k a; unfold lessK; omega) (Nat.le_trans HW.out.size HV.out.size) 25 34
            have HR5 := Lib.hid run5
            have HK5 := Lib.hid r5
            have HB5 := Lib.hid b5
            clear run5 r5 b5
            go_wp2_with (at_builtin; refine wpList_append_run rfl _ _ 25 rfl _ _ HR5.out ?_; clear HR5)
            go_roundw
            case rel => exact ⟨k + 1, HP.out, by go_num, Lib.hid (by rw [HL.out]; exact HK5.out), Lib.hid ((HW.out.trans (HV.out.mono HW.out.size)).trans HB5.out)⟩
            case measure => have := HP.out; simp [intOf]; omega
    · have HL : Hid (lessK (a.take k) b = lessK a b) := Lib.hid (by rw [List.take_of_length_le (by omega)])
      go_wp2
      go_ret
      exact ⟨_, rfl, by rw [← HL.out]; exact HR.out, HW.out⟩
end Go.Proofs.Ytgdajnjfkokmdaa
