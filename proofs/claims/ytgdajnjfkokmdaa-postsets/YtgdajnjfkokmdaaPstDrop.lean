/-
  Rows of Posts of one's own: append; Drop of chapter 10's own answer, by contract.
-/
import Derived.Test.YtgdajnjfkokmdaaPstOver
namespace Go.Proofs.Ytgdajnjfkokmdaa
open Go.RowKit Go.Lib

theorem nl_one {w : World} {v : Value} {l : List Int} (h : Nl w v l) : v.oneCell' = true := by
  obtain ⟨ad, cap, rfl, _⟩ := h.form
  rfl
theorem PRd.nls {w : World} {v : Value} {l : List Pv} (h : PRd w v l) : ∀ x ∈ l, Nl w x.a x.ns := fun x hx => by
  obtain ⟨ad, cap, _, _, h2⟩ := h
  obtain ⟨k, hk, rfl⟩ := List.getElem_of_mem hx
  obtain ⟨b, o, _, hs⟩ := h2 (by omega)
  exact (hs k hk).nl
theorem csP_one {w : World} {v : Value} (l : List Pv) (h : PRd w v l) : ∀ u ∈ csP l, u.oneCell' = true := by
  have hn := h.nls
  clear h
  induction l with
  | nil => intro u hu; cases hu
  | cons x r ih =>
    intro u hu
    simp only [csP, List.mem_cons] at hu
    rcases hu with rfl | rfl | rfl | hu
    · rfl
    · rfl
    · exact nl_one (hn x (List.mem_cons_self ..))
    · exact ih (fun y hy => hn y (List.mem_cons_of_mem _ hy)) u hu
/-- append of Posts to a row of one's own. -/
theorem papp_run (l m : List Pv) (v u : Value) (w : World) (ty : TypeId) (B : Nat) (h : PRow w B v l) (hu : PRd w u m) (hn : l.length + m.length ≤ 1000000) (hB : B ≤ w.heap.size) :
    ∃ A C w1, (Builtin.append_ #[30, 30] ty #[v, u]).run Try.prog w = .ok (.slice A (l ++ m).length C) w1 ∧ PRow w1 B (.slice A (l ++ m).length C) (l ++ m) ∧ w.grownBy w1 v.ownBlock ∧ ((Value.slice A (l ++ m).length C).ownBlock = v.ownBlock ∨ (Value.slice A (l ++ m).length C).ownBlock = some w.heap.size) := by
  obtain ⟨i0, hi, hz0, hz1, hz2⟩ := info_parts postInfo
  obtain ⟨ad, cap, rfl, hcap, h3⟩ := id hu
  have fin : ∀ a : Addr, (∀ j x, (csP m)[j]? = some x → w.cell? (a.add j) = some x) → ∃ A C w1, (Builtin.append_ #[30, 30] ty #[v, .slice (some a) m.length cap]).run Try.prog w = .ok (.slice A (l ++ m).length C) w1 ∧ PRow w1 B (.slice A (l ++ m).length C) (l ++ m) ∧ w.grownBy w1 v.ownBlock ∧ ((Value.slice A (l ++ m).length C).ownBlock = v.ownBlock ∨ (Value.slice A (l ++ m).length C).ownBlock = some w.heap.size) := fun a ha => by
    obtain ⟨v', w', h1, h2, h4, _, h5⟩ := run_append_own_at (P := Try.prog) w B 30 ty 37 i0 _ 3 40 Try.underlying30 hi hz0 hz1 hz2 rfl (by decide) v l.length (csP l) h a m.length cap (csP m) (csP_len m) ha (csP_one m hu) (by unfold maxLen; omega) (by omega) hB
    have hr : PRow w' B v' (l ++ m) := by
      unfold PRow
      rw [List.length_append, csP_app]
      exact h2
    obtain ⟨A, C, rfl, _⟩ := own_form hr
    exact ⟨A, C, w', h1, hr, h4, h5⟩
  cases m with
  | nil =>
    cases ad with
    | some a => exact fin a (fun j x hj => by simp [csP] at hj)
    | none =>
      obtain ⟨A, C, rfl, hc⟩ := own_form h
      refine ⟨A, C, w, ?_, ?_, grown_refl _ _, .inl ?_⟩
      · simp only [List.append_nil]
        cases A <;> simp [Builtin.append_, go_sem, run_underlying Try.underlying30, hc]
      · simp only [List.append_nil]
        exact h
      · simp only [List.append_nil]
  | cons k r =>
    obtain ⟨b, o, rfl, hat⟩ := h3 (by simp)
    refine fin ⟨b, o, none⟩ (fun j x hj => ?_)
    have hjl : j < (csP (k :: r)).length := by
      rcases Nat.lt_or_ge j (csP (k :: r)).length with h | h
      · exact h
      · rw [List.getElem?_eq_none h] at hj; cases hj
    rw [csP_len] at hjl
    rw [Go.WideShapes.add_plain]
    obtain ⟨t, rfl | rfl | rfl⟩ : ∃ t, j = t * 3 ∨ j = t * 3 + 1 ∨ j = t * 3 + 2 := ⟨j / 3, by omega⟩
    · rw [(csP_at (k :: r) t (by omega)).1] at hj
      rw [← Option.some.inj hj]
      exact (hat t (by omega)).c0
    · rw [(csP_at (k :: r) t (by omega)).2.1] at hj
      rw [← Option.some.inj hj]
      exact (hat t (by omega)).c1
    · rw [(csP_at (k :: r) t (by omega)).2.2] at hj
      rw [← Option.some.inj hj]
      exact (hat t (by omega)).c2
/-- One Post just laid. -/
theorem prd_one {w : World} {B : Nat} {x : Pv} (h : Bx 37 w B #[.int .i64 x.o, .int .i64 x.s, x.a]) (hn : Nl w x.a x.ns) : PRd w (.slice (some ⟨B, 0, none⟩) 1 1) [x] := by
  refine ⟨_, 1, rfl, by simp, fun _ => ⟨B, 0, rfl, fun k hk => ?_⟩⟩
  match k, hk with
  | 0, _ => exact ⟨h.cell 0, h.cell 1, h.cell 2, hn⟩
/-- One Post more behind a row of one's own. -/
theorem PRow.push {w : World} {B : Nat} {v : Value} {l : List Pv} (h : PRow w B v l) (o s : Int) (a : Value) (ns : List Int) (hx : Nl w a ns) (hn : l.length ≤ 100000) (hB : B ≤ w.heap.size) (ty : TypeId) :
    ∃ A C w1, (Builtin.append_ #[30, 30] ty #[v, .slice (some ⟨w.heap.size, 0, none⟩) 1 1]).run Try.prog (w.alloc (.cells #[.int .i64 o, .int .i64 s, a] 37)) = .ok (.slice A (l.length + 1) C) w1 ∧ PRow w1 B (.slice A (l.length + 1) C) (l ++ [⟨o, s, a, ns⟩]) ∧ Below B w w1 := by
  have hal := alloc_below w (.cells #[.int .i64 o, .int .i64 s, a] 37)
  obtain ⟨A, C, w1, h1, h2, h3, _⟩ := papp_run l [⟨o, s, a, ns⟩] v _ _ ty B (h.below hal) (prd_one (x := ⟨o, s, a, ns⟩) (Bx.new 37 w _) (hx.below hal)) (by simp; omega) (Nat.le_trans hB hal.size)
  simp only [List.length_append, List.length_singleton] at h1 h2
  refine ⟨A, C, w1, h1, h2, ?_⟩
  have hb := below_of_grown h3 (Nat.le_trans hB hal.size) (fun g hg => (World.ownsRow.lt h g hg).1)
  exact (hal.mono hB).trans hb
def dropV (l : List Pv) (o s : Int) : List Pv := if mayL (ps l) then l.filter (fun x => !(x.o == o && x.s == s)) else []
theorem dropV_ps (l : List Pv) (o s : Int) : ps (dropV l o s) = dropP (ps l) (o, s) := by
  unfold dropV dropP
  split
  · unfold ps
    rw [List.filter_map]
    rfl
  · rfl
def postsT (l : List Pv) (w : World) (e : Ending) (w' : World) : Prop := ∃ v, e = .returned v ∧ PRow w' w.heap.size v l ∧ Below w.heap.size w w'
set_option maxHeartbeats 8000000 in
theorem drop_c (l : List Pv) (o s : Int) (v : Value) (w : World) (h : PRd w v l) (hn : l.length ≤ 10000) (hm : ∀ x ∈ l, x.ns.length ≤ 1000000) :
    Calls Try.prog 25 #[v, .agg #[.int .i64 o, .int .i64 s]] w (postsT (dropV l o s) w) := by
  have HP := Lib.hid h
  obtain ⟨ad, cap, rfl, _, _⟩ := h
  have hal := alloc_below w (.cells #[.int .i64 o, .int .i64 s] 34)
  have bx := Bx.new 34 w #[.int .i64 o, .int .i64 s]
  obtain ⟨w1, hw1⟩ : ∃ w1, w1 = w.alloc (.cells #[.int .i64 o, .int .i64 s] 34) := ⟨_, rfl⟩
  rw [← hw1] at hal bx
  have CM := Lib.hid (may_c l _ w1 (HP.out.below hal) (by omega) hm)
  have CB := Lib.hid bx
  have HAL := Lib.hid hal
  have HW := Lib.hid hw1
  have HPP := Lib.hid (HP.out.below hal)
  clear hm hal bx hw1 HP
  cases h1 : mayL (ps l) with
  | false =>
    rw [h1] at CM
    have HO : Hid (dropV l o s = []) := Lib.hid (by unfold dropV; rw [h1]; rfl)
    clear h1
    go_enter Try.func25, Try.ntmps25
    go_wp2_with fail
    rw [← HW.out]
    refine CM.out.mono ?_
    rintro e w2 ⟨rfl, b2⟩
    have HB2 := Lib.hid (bn HAL.out b2)
    clear b2 CM
    go_wp2
    go_ret
    exact ⟨_, rfl, by rw [HO.out]; exact PRow.nil _ _, HB2.out⟩
  | true =>
    rw [h1] at CM
    have HO : Hid (dropV l o s = l.filter (fun x => !(x.o == o && x.s == s))) := Lib.hid (by unfold dropV; rw [if_pos h1])
    clear h1
    go_enter Try.func25, Try.ntmps25
    go_wp2_with fail
    rw [← HW.out]
    refine CM.out.mono ?_
    rintro e w2 ⟨rfl, b2⟩
    have HB2 := Lib.hid b2
    clear b2 CM
    go_wp2
    go_loopw [5, 6] (fun v5 v6 wr => ∃ i : Nat, i ≤ l.length ∧ v6 = .int .i64 (i : Int) ∧ Hid (PRow wr w1.heap.size v5 ((l.take i).filter (fun x => !(x.o == o && x.s == s)))) ∧ Hid (Below w1.heap.size w1 wr)) (fun _ v6 _ => l.length - (intOf v6).toNat)
    case atStart => exact ⟨0, by omega, rfl, Lib.hid (PRow.nil _ _), HB2⟩
    case round =>
      clear HB2
      obtain ⟨i, hi, rfl, HR, HB⟩ := hrel
      have cb0 := ((CB.out.below HB.out).cell 0)
      have cb1 := ((CB.out.below HB.out).cell 1)
      simp only [List.getElem?_toArray, List.getElem?_cons_succ, List.getElem?_cons_zero] at cb0 cb1
      have hgl := (CB.out.below HB.out).lt
      by_cases hp : i < l.length
      · obtain ⟨ad', cap', e2, _, c3⟩ := HPP.out.below HB.out
        simp only [Value.slice.injEq, true_and] at e2
        obtain ⟨rfl, rfl⟩ := e2
        obtain ⟨g1, o1, rfl, d1⟩ := c3 (by omega)
        have a1 := d1 i hp
        have HTK : Hid (l.take (i + 1) = l.take i ++ [l[i]]) := Lib.hid (List.take_succ_eq_append_getElem hp)
        have HP := Lib.hid hp
        generalize l[i] = y at a1 HTK
        obtain ⟨yo, ys, ya, yn⟩ := y
        have p0 := a1.c0
        have p1 := a1.c1
        have p2 := a1.c2
        simp only at p0 p1 p2
        have HA1 := Lib.hid a1
        have hgl1 := World.block_lt_of_cell? _ _ p0
        clear c3 d1 a1
        cases e1 : (yo == o && ys == s) with
        | true =>
          have q : ∀ W, (Op.equalIn 10000 34 (.agg #[.int .i64 yo, .int .i64 ys]) (.agg #[.int .i64 o, .int .i64 s])).run Try.prog W = .ok true W := fun W => by rw [← e1]; exact eq_key yo ys o s W
          have HF : Hid ((l.take (i + 1)).filter (fun x => !(x.o == o && x.s == s)) = (l.take i).filter (fun x => !(x.o == o && x.s == s))) := Lib.hid (by rw [HTK.out, List.filter_append, List.filter_cons_of_neg (by simp only [e1]; simp)]; simp)
          clear e1
          go_wp2_with fail
          go_quiet (fail)
          go_wp2
          go_roundw
          case rel => exact ⟨i + 1, HP.out, by go_num, Lib.hid (by rw [HF.out]; exact HR.out.below (below_drewN (Below.refl _ _) _)), Lib.hid (below_drewN HB.out _)⟩
          case measure => have := HP.out; simp [intOf]; omega
        | false =>
          have q : ∀ W, (Op.equalIn 10000 34 (.agg #[.int .i64 yo, .int .i64 ys]) (.agg #[.int .i64 o, .int .i64 s])).run Try.prog W = .ok false W := fun W => by rw [← e1]; exact eq_key yo ys o s W
          have HF : Hid ((l.take (i + 1)).filter (fun x => !(x.o == o && x.s == s)) = (l.take i).filter (fun x => !(x.o == o && x.s == s)) ++ [⟨yo, ys, ya, yn⟩]) := Lib.hid (by rw [HTK.out, List.filter_append, List.filter_cons_of_pos (by simp only [e1]; rfl)]; rfl)
          have HPU : Hid (∀ n, ∃ A C w5, (Builtin.append_ #[30, 30] 30 #[_, .slice (some ⟨(wr.drewN n).heap.size, 0, none⟩) 1 1]).run Try.prog ((wr.drewN n).alloc (.cells #[.int .i64 yo, .int .i64 ys, ya] 37)) = .ok (.slice A (((l.take i).filter (fun x => !(x.o == o && x.s == s))).length + 1) C) w5 ∧ PRow w5 w1.heap.size (.slice A (((l.take i).filter (fun x => !(x.o == o && x.s == s))).length + 1) C) ((l.take i).filter (fun x => !(x.o == o && x.s == s)) ++ [⟨yo, ys, ya, yn⟩]) ∧ Below w1.heap.size (wr.drewN n) w5) := Lib.hid (fun n => (HR.out.below (below_drewN (Below.refl _ _) n)).push yo ys ya yn (HA1.out.nl.below (below_drewN (Below.refl _ _) n)) (by have h1 := List.length_filter_le (fun x : Pv => !(x.o == o && x.s == s)) (l.take i); have h2 := List.length_take_le i l; omega) HB.out.size 30)
          clear e1
          go_wp2_with fail
          go_quiet (fail)
          obtain ⟨A, C, w5, run5, r5, b5⟩ := HPU.out nq
          obtain ⟨N, hN⟩ : ∃ N, N = ((l.take i).filter (fun x => !(x.o == o && x.s == s))).length + 1 := ⟨_, rfl⟩
          rw [← hN] at run5 r5
          clear hN
          have HR5 := Lib.hid run5
          have HK5 := Lib.hid r5
          have HB5 := Lib.hid ((below_drewN HB.out nq).trans b5)
          clear run5 r5 b5 HPU
          go_wp2_with (at_builtin; refine wpList_append_run rfl _ _ 30 rfl _ _ HR5.out ?_; clear HR5)
          go_roundw
          case rel => exact ⟨i + 1, HP.out, by go_num, Lib.hid (by rw [HF.out]; exact HK5.out), HB5⟩
          case measure => have := HP.out; simp [intOf]; omega
      · have HL : Hid ((l.take i).filter (fun x => !(x.o == o && x.s == s)) = dropV l o s) := Lib.hid (by rw [HO.out, show l.take i = l from List.take_of_length_le (by omega)])
        go_wp2
        go_ret
        exact ⟨_, rfl, by rw [← HL.out]; exact own_mono HR.out HAL.out.size, bn HAL.out HB.out⟩
end Go.Proofs.Ytgdajnjfkokmdaa
