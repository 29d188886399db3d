/-
  find, May, all, of chapter 10's own answer, by contract.
-/
import Derived.Test.YtgdajnjfkokmdaaPstOne
namespace Go.Proofs.Ytgdajnjfkokmdaa
open Go.RowKit Go.Lib

/-- Where a Key stands; -1. -/
def fndI (i : Nat) : List Pv → Int → Int → Int
  | [], _, _ => -1
  | x :: r, o, s => if x.o == o && x.s == s then (i : Int) else fndI (i + 1) r o s
theorem fndI_spec : ∀ (l : List Pv) (i : Nat) (o s : Int), (fndI i l o s = -1 ∧ (∀ x ∈ l, x.p.k ≠ (o, s))) ∨ ∃ j : Nat, ∃ hj : j < l.length, fndI i l o s = ((i + j : Nat) : Int) ∧ l[j].p.k = (o, s) ∧ ∀ t, (ht : t < l.length) → t < j → l[t].p.k ≠ (o, s)
  | [], i, o, s => .inl ⟨rfl, fun x hx => by cases hx⟩
  | x :: r, i, o, s => by
    unfold fndI
    by_cases h : x.o = o ∧ x.s = s
    · obtain ⟨rfl, rfl⟩ := h
      refine .inr ⟨0, by simp, by simp, rfl, fun t _ ht => by omega⟩
    · have hb : (x.o == o && x.s == s) = false := by
        cases hb : (x.o == o && x.s == s) with
        | false => rfl
        | true => simp at hb; exact absurd hb h
      rw [hb]
      have hne : x.p.k ≠ (o, s) := fun e => h (by rw [Pv.p_k, Prod.mk.injEq] at e; exact e)
      rcases fndI_spec r (i + 1) o s with ⟨h1, h2⟩ | ⟨j, hj, h1, h2, h3⟩
      · refine .inl ⟨h1, fun y hy => ?_⟩
        rcases List.mem_cons.1 hy with rfl | hy
        · exact hne
        · exact h2 y hy
      · refine .inr ⟨j + 1, by simpa using hj, ?_, h2, fun t ht htj => ?_⟩
        · simp only [Bool.false_eq_true, if_false]
          rw [h1]
          omega
        · cases t with
          | zero => exact hne
          | succ t => exact h3 t (by simpa using ht) (by omega)
set_option maxHeartbeats 4000000 in
theorem find_c (l : List Pv) (o s : Int) (v : Value) (w : World) (h : PRd w v l) (hn : l.length ≤ 1000000) :
    Calls Try.prog 40 #[v, .agg #[.int .i64 o, .int .i64 s]] w fun e w' => e = .returned (.int .i64 (fndI 0 l o s)) ∧ Below w.heap.size w w' := by
  obtain ⟨ad, cap, rfl, _, k1⟩ := h
  have hal := alloc_below w (.cells #[.int .i64 o, .int .i64 s] 34)
  have bx := Bx.new 34 w #[.int .i64 o, .int .i64 s]
  obtain ⟨w1, hw1⟩ : ∃ w1, w1 = w.alloc (.cells #[.int .i64 o, .int .i64 s] 34) := ⟨_, rfl⟩
  rw [← hw1] at hal bx
  have H1 : Hid (0 < l.length → ∃ b o', ad = some ⟨b, o', none⟩ ∧ ∀ k (hk : k < l.length), PAt w1 b (o' + k * 3) l[k]) := Lib.hid (fun h0 => by obtain ⟨b, o', e, hs⟩ := k1 h0; exact ⟨b, o', e, fun k hk => (hs k hk).below hal⟩)
  have CB := Lib.hid bx
  have HW := Lib.hid hw1
  have HAL := Lib.hid hal
  clear k1 hal bx hw1
  go_enter Try.func40, Try.ntmps40
  go_wp2
  go_loopw [5] (fun v5 wr => ∃ k : Nat, k ≤ l.length ∧ v5 = .int .i64 (k : Int) ∧ Hid (Below w1.heap.size w1 wr) ∧ Hid (fndI k (l.drop k) o s = fndI 0 l o s)) (fun v5 _ => l.length - (intOf v5).toNat)
  case atStart => exact ⟨0, by omega, rfl, Lib.hid (by rw [HW.out]; exact Below.refl _ _), Lib.hid rfl⟩
  case round =>
    obtain ⟨k, hk, rfl, HB, hs⟩ := hrel
    have cb0 := ((CB.out.below HB.out).cell 0)
    have cb1 := ((CB.out.below HB.out).cell 1)
    simp only [List.getElem?_toArray, List.getElem?_cons_succ, List.getElem?_cons_zero] at cb0 cb1
    have hgl := (CB.out.below HB.out).lt
    by_cases hp : k < l.length
    · obtain ⟨g1, o1, rfl, c1⟩ := H1.out (by omega)
      have a1 := (c1 k hp).below HB.out
      have hs' := hs.out
      rw [List.drop_eq_getElem_cons hp, fndI] at hs'
      have HP := Lib.hid hp
      generalize l[k] = y at a1 hs'
      obtain ⟨yo, ys, ya, yn⟩ := y
      obtain ⟨p0, p1, _, _⟩ := a1
      simp only at p0 p1 hs'
      have hgl1 := World.block_lt_of_cell? _ _ p0
      clear hs c1
      cases e1 : (yo == o && ys == s) with
      | true =>
        have q : ∀ W, (Op.equalIn 10000 34 (.agg #[.int .i64 yo, .int .i64 ys]) (.agg #[.int .i64 o, .int .i64 s])).run Try.prog W = .ok true W := fun W => by rw [← e1]; exact eq_key yo ys o s W
        rw [e1, if_pos rfl] at hs'
        have HS := Lib.hid hs'
        clear hs'
        go_wp2_with fail
        go_quiet (fail)
        go_wp2
        go_ret
        exact ⟨by rw [← HS.out]; rfl, bn HAL.out (below_drewN HB.out _)⟩
      | false =>
        have q : ∀ W, (Op.equalIn 10000 34 (.agg #[.int .i64 yo, .int .i64 ys]) (.agg #[.int .i64 o, .int .i64 s])).run Try.prog W = .ok false W := fun W => by rw [← e1]; exact eq_key yo ys o s W
        rw [e1] at hs'
        simp only [Bool.false_eq_true, if_false] at hs'
        have HS := Lib.hid hs'
        clear hs'
        go_wp2_with fail
        go_quiet (fail)
        go_wp2
        go_roundw
        case rel => exact ⟨k + 1, HP.out, by go_num, Lib.hid (below_drewN HB.out _), HS⟩
        case measure => have := HP.out; simp [intOf]; omega
    · have hs' := hs.out
      rw [List.drop_of_length_le (by omega), fndI] at hs'
      have HS := Lib.hid hs'
      clear hs hs'
      go_wp2
      go_ret
      exact ⟨by rw [← HS.out]; rfl, bn HAL.out HB.out⟩
end Go.Proofs.Ytgdajnjfkokmdaa
