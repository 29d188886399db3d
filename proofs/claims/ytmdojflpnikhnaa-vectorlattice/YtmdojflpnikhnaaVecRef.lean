/-
  The chapter's own fold, Join, Meet, by contract.
-/
import Derived.Test.YtmdojflpnikhnaaVecFold
import Derived.Maps.AppendAt
import Derived.BigRegion
namespace Go.Proofs.Ytmdojflpnikhnaa
open Go.RowKit Go.Lib

/-- append, as a step whose answer is known. -/
theorem wpList_append_run {P : Program} {w : World} {ops : Array Oper} {rest : List Oper} {o : Oper} {a : Act} {Q : Exit → Act → World → Prop} (hgd : o.guard = none) (s x : Operand) (t : TypeId)
    (ho : o.op = .call { callee := .builtin .append, args := #[s, x], argTypes := #[t, t] }) (v' : Value) (w' : World)
    (hr : (Builtin.append_ #[t, t] o.type #[a.eval s, a.eval x]).run P w = .ok v' w') (h : wpList P ops Q rest (a.put o.dst v') w') : wpList P ops Q (o :: rest) a w :=
  wpList_plain hgd fun _ hK => by
    unfold Oper.wp execOp
    simp only [ho, resolve, invoke, builtin, Sem.run_bind, Sem.run_pure, Result.andThen_ok, List.map_toArray, List.map_cons, List.map_nil, hr]
    exact hK _ _ h

theorem copy_run (l : List Int) (u : Value) (w : World) (ty : TypeId) (h : Nl w u l) (hn : l.length ≤ 1000000) :
    ∃ vm w1, (Builtin.append_ #[23, 23] ty #[.slice none 0 0, u]).run Try.prog w = .ok vm w1 ∧ Row w1 w.heap.size vm l ∧ Below w.heap.size w w1 := by
  rcases h with ⟨rfl, rfl⟩ | ⟨ad, cap, rfl, h⟩
  · refine ⟨.slice none 0 0, w, ?_, Row.nil _ _, Below.refl _ _⟩
    simp [Builtin.append_, go_sem, run_underlying Try.underlying23]
  · obtain ⟨i0, hi, hz0, hz1, hz2⟩ := info_parts intInfo
    obtain ⟨v', w', h1, h2, h3, _, _⟩ := run_append_own_at (P := Try.prog) w w.heap.size 23 ty 3 i0 (.int .i64 0) 1 8 Try.underlying23 hi hz0 hz1 hz2 rfl (by decide) (.slice none 0 0) 0 [] (World.ownsRow_nil _ _ _ _) ad l.length cap (ints l) (by rw [ints_len, Nat.mul_one]) (Nl.news h) (ints_one l) (by unfold maxLen; omega) (by omega) (Nat.le_refl _)
    refine ⟨v', w', h1, by rw [Nat.zero_add, List.nil_append] at h2; exact h2, below_of_grown h3 (Nat.le_refl _) (by intro g hg; cases hg)⟩

theorem fold_none (ad : Option Addr) (cap : Nat) (up : Bool) (w : World) : Calls Try.prog 34 #[.slice ad 0 cap, .bool up] w (rowT [] w) := by
  go_enter Try.func34, Try.ntmps34
  go_wp2
  go_ret
  exact ⟨_, rfl, Row.nil _ _, Below.refl _ _⟩

set_option maxHeartbeats 8000000 in
theorem fold_max (l : List Int) (t : List (List Int)) (b o cap : Nat) (w : World) (hS : Vs w b o (l :: t)) (hn : l.length ≤ 1000) (ht : t.length ≤ 1000) :
    Calls Try.prog 34 #[.slice (some ⟨b, o, none⟩) ((t.length + 1 : Nat)) cap, .bool true] w (rowT (foldF mx l t) w) := by
  obtain ⟨u, c0, hu⟩ := hS 0 (by simp)
  rw [Nat.add_zero] at c0
  simp only [List.getElem_cons_zero] at hu
  have hb0 : b < w.heap.size := World.block_lt_of_cell? w _ c0
  obtain ⟨vm, w1, happ, hr1, b1⟩ := copy_run l u w 23 hu (by omega)
  have HS := Lib.hid hS.tail
  have hz : ((t.length : Int) + 1 == 0) = false := by simp; omega
  clear hS hu
  obtain ⟨adm, capm, rfl, _⟩ := hr1.nl.form
  have HR := Lib.hid hr1
  have HB := Lib.hid b1
  have HAPP := Lib.hid happ
  clear hr1 b1 happ
  go_enter Try.func34, Try.ntmps34
  go_wp2_with (at_builtin; refine wpList_append_run rfl _ _ 23 rfl _ _ HAPP.out ?_)
  clear HAPP c0
  go_loopw [6] (fun v6 wr => ∃ (k : Nat) (acc : List Int), k ≤ t.length ∧ v6 = .int .i64 ((k : Int) + 1) ∧ acc.length = l.length ∧ Hid (foldF mx acc (t.drop k) = foldF mx l t) ∧ Hid (Row wr w.heap.size (.slice adm l.length capm) acc) ∧ Below w.heap.size w wr) (fun v6 _ => t.length + 1 - (intOf v6).toNat)
  case atStart => exact ⟨0, l, by omega, rfl, rfl, Lib.hid rfl, HR, HB.out⟩
  case round =>
    obtain ⟨k, acc, hk, rfl, hacc, hx, HA, hb⟩ := hrel
    have HACC := Lib.hid hacc
    clear hacc HR HB
    by_cases hp : k < t.length
    · obtain ⟨u2, c1, hu2⟩ := HS.out k hp
      have hx' := hx.out
      rw [List.drop_eq_getElem_cons hp, foldF] at hx'
      rw [show o + 1 + k = o + (k + 1) from by omega] at c1
      have hbb : b < w.heap.size := World.block_lt_of_cell? w _ c1
      have d1 := (hb.cell hbb).trans c1
      have hbl : b < wr.heap.size := World.block_lt_of_cell? wr _ d1
      have C1 := Lib.hid c1
      clear c1 hx
      generalize t[k] = v2 at hu2 hx'
      obtain ⟨ad2, cap2, rfl, hN⟩ := hu2.form
      have HN := Lib.hid hN
      clear hu2 hN
      by_cases hl : v2.length = acc.length
      · rw [if_pos hl] at hx'
        have hl2 : v2.length = l.length := by rw [hl]; exact HACC.out
        have e0 : ((v2.length : Int) != (l.length : Int)) = false := by simp [hl2]
        have HX := Lib.hid hx'
        have HL := Lib.hid hl
        clear hx' hl
        have hln : v2.length ≤ 1000 := by omega
        have HL2 := Lib.hid hl2
        clear hl2
        go_wp2
        clear d1 hbl
        go_loopw [7] (fun v7 ws => ∃ i : Nat, i ≤ l.length ∧ v7 = .int .i64 (i : Int) ∧ Hid (Row ws w.heap.size (.slice adm l.length capm) (mix mx acc v2 i)) ∧ Below w.heap.size w ws) (fun v7 _ => l.length - (intOf v7).toNat)
        case atStart => exact ⟨0, by omega, rfl, Lib.hid (by rw [mix_zero]; exact HA.out), hb⟩
        case round =>
          obtain ⟨i, hi, rfl, HM, hb2⟩ := hrel
          by_cases hil : i < l.length
          · have hq : i < v2.length := by have := HL2.out; omega
            obtain ⟨b2, o2, rfl, hs2⟩ := HN.out (by omega)
            have hbb2 := World.block_lt_of_cell? w _ (hs2 i hq)
            have c2 := (hb2.cell hbb2).trans (hs2 i hq)
            have hbl2 : b2 < wr.heap.size := World.block_lt_of_cell? wr _ c2
            have d1 := (hb2.cell hbb).trans C1.out
            have hbl : b < wr.heap.size := World.block_lt_of_cell? wr _ d1
            have hml : (mix mx acc v2 i).length = l.length := by rw [mix_len mx acc v2 i HL.out (by have := HL.out; omega)]; exact HACC.out
            have hia : i < acc.length := by have := HL.out; omega
            obtain ⟨g, cap3, e3, hg1, hg2⟩ := HM.out.form (by omega)
            simp only [Value.slice.injEq] at e3
            obtain ⟨rfl, e4, e5⟩ := e3
            clear e4 e5
            have c3 := HM.out.at2 hml i _ (mix_get mx acc v2 i HL.out hia)
            have f3 := HM.out.soft2 hml i
            have HM2 : Hid (Row (wr.setCell ⟨g, i, none⟩ (.int .i64 (mx acc[i] v2[i]))) w.heap.size (.slice (some ⟨g, 0, none⟩) l.length capm) (mix mx acc v2 (i + 1))) := Lib.hid (by
              rw [← mix_set mx acc v2 i HL.out hia hq]
              exact HM.out.set2 hml i _)
            generalize acc[i] = x at c3 HM2
            generalize v2[i] = y at c2 HM2
            have hrun := max2_run x y
            generalize mx x y = z at hrun HM2
            clear hs2 hml
            go_wp2
            go_region
            go_wp2
            go_roundw
            case rel => exact ⟨i + 1, hil, by go_num, HM2, (hb2.setCell (by exact hg1) _).drew⟩
            case measure => simp [intOf]; omega
          · have hii : i = v2.length := by have := HL2.out; omega
            have HM2 : Hid (Row wr w.heap.size (.slice adm l.length capm) (List.zipWith mx acc v2)) := Lib.hid (by rw [← mix_all mx acc v2 HL.out, ← hii]; exact HM.out)
            clear hii
            go_wp2
            go_roundw
            case rel => exact ⟨k + 1, List.zipWith mx acc v2, hp, by go_num, by rw [List.length_zipWith]; have := HL.out; have := HACC.out; omega, HX, HM2, hb2⟩
            case measure => simp [intOf]; omega
      · rw [if_neg hl] at hx'
        have HX := Lib.hid hx'
        have e0 : ((v2.length : Int) != (l.length : Int)) = true := by have := HACC.out; simp; omega
        clear hx' hl
        go_wp2
        go_ret
        exact ⟨_, rfl, by rw [← HX.out]; exact Row.nil _ _, hb⟩
    · have hx' := hx.out
      rw [List.drop_eq_nil_of_le (by omega), foldF] at hx'
      have HX := Lib.hid hx'
      clear hx hx'
      go_wp2
      go_ret
      exact ⟨_, rfl, by rw [← HX.out]; exact HA.out, hb⟩

set_option maxHeartbeats 8000000 in
theorem fold_min (l : List Int) (t : List (List Int)) (b o cap : Nat) (w : World) (hS : Vs w b o (l :: t)) (hn : l.length ≤ 1000) (ht : t.length ≤ 1000) :
    Calls Try.prog 34 #[.slice (some ⟨b, o, none⟩) ((t.length + 1 : Nat)) cap, .bool false] w (rowT (foldF mn l t) w) := by
  obtain ⟨u, c0, hu⟩ := hS 0 (by simp)
  rw [Nat.add_zero] at c0
  simp only [List.getElem_cons_zero] at hu
  have hb0 : b < w.heap.size := World.block_lt_of_cell? w _ c0
  obtain ⟨vm, w1, happ, hr1, b1⟩ := copy_run l u w 23 hu (by omega)
  have HS := Lib.hid hS.tail
  have hz : ((t.length : Int) + 1 == 0) = false := by simp; omega
  clear hS hu
  obtain ⟨adm, capm, rfl, _⟩ := hr1.nl.form
  have HR := Lib.hid hr1
  have HB := Lib.hid b1
  have HAPP := Lib.hid happ
  clear hr1 b1 happ
  go_enter Try.func34, Try.ntmps34
  go_wp2_with (at_builtin; refine wpList_append_run rfl _ _ 23 rfl _ _ HAPP.out ?_)
  clear HAPP c0
  go_loopw [6] (fun v6 wr => ∃ (k : Nat) (acc : List Int), k ≤ t.length ∧ v6 = .int .i64 ((k : Int) + 1) ∧ acc.length = l.length ∧ Hid (foldF mn acc (t.drop k) = foldF mn l t) ∧ Hid (Row wr w.heap.size (.slice adm l.length capm) acc) ∧ Below w.heap.size w wr) (fun v6 _ => t.length + 1 - (intOf v6).toNat)
  case atStart => exact ⟨0, l, by omega, rfl, rfl, Lib.hid rfl, HR, HB.out⟩
  case round =>
    obtain ⟨k, acc, hk, rfl, hacc, hx, HA, hb⟩ := hrel
    have HACC := Lib.hid hacc
    clear hacc HR HB
    by_cases hp : k < t.length
    · obtain ⟨u2, c1, hu2⟩ := HS.out k hp
      have hx' := hx.out
      rw [List.drop_eq_getElem_cons hp, foldF] at hx'
      rw [show o + 1 + k = o + (k + 1) from by omega] at c1
      have hbb : b < w.heap.size := World.block_lt_of_cell? w _ c1
      have d1 := (hb.cell hbb).trans c1
      have hbl : b < wr.heap.size := World.block_lt_of_cell? wr _ d1
      have C1 := Lib.hid c1
      clear c1 hx
      generalize t[k] = v2 at hu2 hx'
      obtain ⟨ad2, cap2, rfl, hN⟩ := hu2.form
      have HN := Lib.hid hN
      clear hu2 hN
      by_cases hl : v2.length = acc.length
      · rw [if_pos hl] at hx'
        have hl2 : v2.length = l.length := by rw [hl]; exact HACC.out
        have e0 : ((v2.length : Int) != (l.length : Int)) = false := by simp [hl2]
        have HX := Lib.hid hx'
        have HL := Lib.hid hl
        clear hx' hl
        have hln : v2.length ≤ 1000 := by omega
        have HL2 := Lib.hid hl2
        clear hl2
        go_wp2
        clear d1 hbl
        go_loopw [7] (fun v7 ws => ∃ i : Nat, i ≤ l.length ∧ v7 = .int .i64 (i : Int) ∧ Hid (Row ws w.heap.size (.slice adm l.length capm) (mix mn acc v2 i)) ∧ Below w.heap.size w ws) (fun v7 _ => l.length - (intOf v7).toNat)
        case atStart => exact ⟨0, by omega, rfl, Lib.hid (by rw [mix_zero]; exact HA.out), hb⟩
        case round =>
          obtain ⟨i, hi, rfl, HM, hb2⟩ := hrel
          by_cases hil : i < l.length
          · have hq : i < v2.length := by have := HL2.out; omega
            obtain ⟨b2, o2, rfl, hs2⟩ := HN.out (by omega)
            have hbb2 := World.block_lt_of_cell? w _ (hs2 i hq)
            have c2 := (hb2.cell hbb2).trans (hs2 i hq)
            have hbl2 : b2 < wr.heap.size := World.block_lt_of_cell? wr _ c2
            have d1 := (hb2.cell hbb).trans C1.out
            have hbl : b < wr.heap.size := World.block_lt_of_cell? wr _ d1
            have hml : (mix mn acc v2 i).length = l.length := by rw [mix_len mn acc v2 i HL.out (by have := HL.out; omega)]; exact HACC.out
            have hia : i < acc.length := by have := HL.out; omega
            obtain ⟨g, cap3, e3, hg1, hg2⟩ := HM.out.form (by omega)
            simp only [Value.slice.injEq] at e3
            obtain ⟨rfl, e4, e5⟩ := e3
            clear e4 e5
            have c3 := HM.out.at2 hml i _ (mix_get mn acc v2 i HL.out hia)
            have f3 := HM.out.soft2 hml i
            have HM2 : Hid (Row (wr.setCell ⟨g, i, none⟩ (.int .i64 (mn acc[i] v2[i]))) w.heap.size (.slice (some ⟨g, 0, none⟩) l.length capm) (mix mn acc v2 (i + 1))) := Lib.hid (by
              rw [← mix_set mn acc v2 i HL.out hia hq]
              exact HM.out.set2 hml i _)
            generalize acc[i] = x at c3 HM2
            generalize v2[i] = y at c2 HM2
            have hrun := min2_run x y
            generalize mn x y = z at hrun HM2
            clear hs2 hml
            go_wp2
            go_region
            go_wp2
            go_roundw
            case rel => exact ⟨i + 1, hil, by go_num, HM2, (hb2.setCell (by exact hg1) _).drew⟩
            case measure => simp [intOf]; omega
          · have hii : i = v2.length := by have := HL2.out; omega
            have HM2 : Hid (Row wr w.heap.size (.slice adm l.length capm) (List.zipWith mn acc v2)) := Lib.hid (by rw [← mix_all mn acc v2 HL.out, ← hii]; exact HM.out)
            clear hii
            go_wp2
            go_roundw
            case rel => exact ⟨k + 1, List.zipWith mn acc v2, hp, by go_num, by rw [List.length_zipWith]; have := HL.out; have := HACC.out; omega, HX, HM2, hb2⟩
            case measure => simp [intOf]; omega
      · rw [if_neg hl] at hx'
        have HX := Lib.hid hx'
        have e0 : ((v2.length : Int) != (l.length : Int)) = true := by have := HACC.out; simp; omega
        clear hx' hl
        go_wp2
        go_ret
        exact ⟨_, rfl, by rw [← HX.out]; exact Row.nil _ _, hb⟩
    · have hx' := hx.out
      rw [List.drop_eq_nil_of_le (by omega), foldF] at hx'
      have HX := Lib.hid hx'
      clear hx hx'
      go_wp2
      go_ret
      exact ⟨_, rfl, by rw [← HX.out]; exact HA.out, hb⟩

theorem fold_c (up : Bool) (ls : List (List Int)) (v : Value) (w : World) (h : Vl w v ls) (hn : ls.length ≤ 1000) (hm : ∀ l ∈ ls, l.length ≤ 1000) : Calls Try.prog 34 #[v, .bool up] w (rowT (allF (if up then mx else mn) ls) w) := by
  obtain ⟨ad, cap, rfl, _, h1⟩ := h
  cases ls with
  | nil => exact fold_none ad cap up w
  | cons l t =>
    obtain ⟨b, o, rfl, hS⟩ := h1 (by simp)
    simp only [List.length_cons] at hn
    have hl := hm l (List.mem_cons_self ..)
    cases up
    · exact fold_min l t b o cap w hS hl (by omega)
    · exact fold_max l t b o cap w hS hl (by omega)

theorem refjoin_c (ls : List (List Int)) (v : Value) (w : World) (h : Vl w v ls) (hn : ls.length ≤ 1000) (hm : ∀ l ∈ ls, l.length ≤ 1000) : Calls Try.prog 15 #[v] w (rowT (allF mx ls) w) := by
  have HC := Lib.hid (fold_c true ls v w h hn hm)
  clear h hm
  go_enter Try.func15, Try.ntmps15
  go_wp2_with fail
  refine HC.out.mono ?_
  rintro e w1 ⟨vm, rfl, hr1, b1⟩
  have HR := Lib.hid hr1
  have HB := Lib.hid b1
  clear HC hr1 b1
  go_wp2
  go_ret
  exact ⟨_, rfl, HR.out, HB.out⟩
theorem refmeet_c (ls : List (List Int)) (v : Value) (w : World) (h : Vl w v ls) (hn : ls.length ≤ 1000) (hm : ∀ l ∈ ls, l.length ≤ 1000) : Calls Try.prog 16 #[v] w (rowT (allF mn ls) w) := by
  have HC := Lib.hid (fold_c false ls v w h hn hm)
  clear h hm
  go_enter Try.func16, Try.ntmps16
  go_wp2_with fail
  refine HC.out.mono ?_
  rintro e w1 ⟨vm, rfl, hr1, b1⟩
  have HR := Lib.hid hr1
  have HB := Lib.hid b1
  clear HC hr1 b1
  go_wp2
  go_ret
  exact ⟨_, rfl, HR.out, HB.out⟩

end Go.Proofs.Ytmdojflpnikhnaa
