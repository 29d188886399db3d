/-
  placeByPlace, Join, Meet; the chapter's own fold, by contract: all are 'allF'.
-/
import Derived.Test.YtmdojflpnikhnaaVecMake
namespace Go.Proofs.Ytmdojflpnikhnaa
open Go.RowKit Go.Lib

def foldF (f : Int → Int → Int) (acc : List Int) : List (List Int) → List Int
  | [] => acc
  | v :: t => if v.length = acc.length then foldF f (List.zipWith f acc v) t else []
def allF (f : Int → Int → Int) : List (List Int) → List Int
  | [] => []
  | v :: t => foldF f v t

/-- Done up to place k. -/
def mix (f : Int → Int → Int) (a v : List Int) (k : Nat) : List Int := (List.zipWith f a v).take k ++ a.drop k
theorem mix_zero (f : Int → Int → Int) (a v : List Int) : mix f a v 0 = a := by simp [mix]
theorem mix_len (f : Int → Int → Int) (a v : List Int) (k : Nat) (h : v.length = a.length) (hk : k ≤ a.length) : (mix f a v k).length = a.length := by simp [mix]; omega
theorem mix_all (f : Int → Int → Int) (a v : List Int) (h : v.length = a.length) : mix f a v v.length = List.zipWith f a v := by
  unfold mix
  rw [List.drop_eq_nil_of_le (by omega), List.append_nil, List.take_of_length_le (by simp; omega)]
theorem mix_get (f : Int → Int → Int) (a v : List Int) (k : Nat) (h : v.length = a.length) (hk : k < a.length) : (mix f a v k)[k]? = some a[k] := by
  have hz : ((List.zipWith f a v).take k).length = k := by simp; omega
  unfold mix
  rw [List.getElem?_append_right (by omega), hz, Nat.sub_self, List.getElem?_drop, Nat.add_zero, List.getElem?_eq_getElem hk]
theorem mix_set (f : Int → Int → Int) (a v : List Int) (k : Nat) (h : v.length = a.length) (hk : k < a.length) (hk2 : k < v.length) : (mix f a v k).set k (f a[k] v[k]) = mix f a v (k + 1) := by
  have hz : ((List.zipWith f a v).take k).length = k := by simp; omega
  have hzk : k < (List.zipWith f a v).length := by simp; omega
  unfold mix
  rw [List.set_append_right _ _ (by omega), hz, Nat.sub_self, List.drop_eq_getElem_cons hk, List.set_cons_zero, List.take_succ_eq_append_getElem hzk, List.append_assoc, List.getElem_zipWith]
  rfl

/-- The slice v holds the vectors ls. -/
def Vl (w : World) (v : Value) (ls : List (List Int)) : Prop :=
  ∃ ad cap, v = .slice ad ls.length cap ∧ ls.length ≤ cap ∧ (0 < ls.length → ∃ b o, ad = some ⟨b, o, none⟩ ∧ ∀ k (hk : k < ls.length), ∃ u, w.cell? ⟨b, o + k, none⟩ = some u ∧ Nl w u ls[k])
def Vs (w : World) (b o : Nat) (ls : List (List Int)) : Prop := ∀ k (hk : k < ls.length), ∃ u, w.cell? ⟨b, o + k, none⟩ = some u ∧ Nl w u ls[k]
theorem Vs.below {w w' : World} {b o : Nat} {ls : List (List Int)} (h : Vs w b o ls) (hb : Below w.heap.size w w') : Vs w' b o ls := fun k hk => by
  obtain ⟨u, h1, h2⟩ := h k hk
  exact ⟨u, (hb.cell (World.block_lt_of_cell? w _ h1)).trans h1, h2.below hb⟩
theorem Vs.tail {w : World} {b o : Nat} {l : List Int} {ls : List (List Int)} (h : Vs w b o (l :: ls)) : Vs w b (o + 1) ls := fun k hk => by
  obtain ⟨u, h1, h2⟩ := h (k + 1) (by simpa using hk)
  refine ⟨u, ?_, by simpa using h2⟩
  rw [show o + 1 + k = o + (k + 1) from by omega]
  exact h1
theorem Vl.below {w w' : World} {v : Value} {ls : List (List Int)} (h : Vl w v ls) (hb : Below w.heap.size w w') : Vl w' v ls := by
  obtain ⟨ad, cap, h1, h2, h3⟩ := h
  exact ⟨ad, cap, h1, h2, fun h0 => by obtain ⟨b, o, e, hs⟩ := h3 h0; exact ⟨b, o, e, Vs.below hs hb⟩⟩

theorem Row.at2 {w : World} {B g cap n : Nat} {l : List Int} (h : Row w B (.slice (some ⟨g, 0, none⟩) n cap) l) (hn : l.length = n) (k : Nat) (x : Int) (hk : l[k]? = some x) : w.cell? ⟨g, k, none⟩ = some (.int .i64 x) := by
  subst hn
  obtain ⟨hk', rfl⟩ := List.getElem?_eq_some_iff.1 hk
  exact h.at k hk'
theorem Row.soft2 {w : World} {B g cap n : Nat} {l : List Int} (h : Row w B (.slice (some ⟨g, 0, none⟩) n cap) l) (hn : l.length = n) (k : Nat) : w.frozen? ⟨g, k, none⟩ = false := by
  subst hn
  exact h.soft k
theorem Row.set2 {w : World} {B g cap n : Nat} {l : List Int} (h : Row w B (.slice (some ⟨g, 0, none⟩) n cap) l) (hn : l.length = n) (k : Nat) (x : Int) : Row (w.setCell ⟨g, k, none⟩ (.int .i64 x)) B (.slice (some ⟨g, 0, none⟩) n cap) (l.set k x) := by
  subst hn
  have h1 := h.set k x
  rw [List.length_set] at h1
  exact h1

theorem pbp_none (ad : Option Addr) (cap : Nat) (pf : FuncId) (w : World) : Calls Try.prog 31 #[.slice ad 0 cap, .func (.func pf) #[] #[]] w (rowT [] w) := by
  go_enter Try.func31, Try.ntmps31
  go_wp2
  go_ret
  exact ⟨_, rfl, Row.nil _ _, Below.refl _ _⟩

set_option maxHeartbeats 4000000 in
theorem pbp_one (l : List Int) (b o : Nat) (pf : FuncId) (w : World) (hS : Vs w b o [l]) (hn : l.length ≤ 1000) :
    Calls Try.prog 31 #[.slice (some ⟨b, o, none⟩) 1 1, .func (.func pf) #[] #[]] w (rowT l w) := by
  obtain ⟨u, c0, hu⟩ := hS 0 (by simp)
  rw [Nat.add_zero] at c0
  simp only [List.getElem_cons_zero] at hu
  have hb0 : b < w.heap.size := World.block_lt_of_cell? w _ c0
  have HC := Lib.hid (clone_c l u w hu (by omega))
  clear hS hu
  go_enter Try.func31, Try.ntmps31
  go_wp2_with fail
  refine HC.out.mono ?_
  rintro e w1 ⟨vm, rfl, hr1, b1⟩
  have HR := Lib.hid hr1
  have HB := Lib.hid b1
  clear HC hr1 b1
  go_wp2
  go_loopw [20] (fun v20 wr => v20 = .int .i64 0 ∧ wr = w1) (fun _ _ => 0)
  case atStart => exact ⟨rfl, rfl⟩
  case round =>
    obtain ⟨rfl, rfl⟩ := hrel
    go_wp2
    go_ret
    exact ⟨_, rfl, HR.out, HB.out⟩

set_option maxHeartbeats 8000000 in
theorem pbp_max (l : List Int) (t : List (List Int)) (b o cap : Nat) (w : World) (hcap : ¬ cap = 1) (hS : Vs w b o (l :: t)) (hn : l.length ≤ 1000) (ht : t.length ≤ 1000) (_ : t.length + 1 ≤ cap) :
    Calls Try.prog 31 #[.slice (some ⟨b, o, none⟩) ((t.length + 1 : Nat)) cap, .func (.func 32) #[] #[]] w (rowT (foldF mx l t) w) := by
  obtain ⟨u, c0, hu⟩ := hS 0 (by simp)
  rw [Nat.add_zero] at c0
  simp only [List.getElem_cons_zero] at hu
  have hb0 : b < w.heap.size := World.block_lt_of_cell? w _ c0
  have HC := Lib.hid (clone_c l u w hu (by omega))
  have HS := Lib.hid hS.tail
  have hz : ((t.length : Int) + 1 == 0) = false := by simp; omega
  clear hS hu
  go_enter Try.func31, Try.ntmps31
  go_wp2_with fail
  refine HC.out.mono ?_
  rintro e w1 ⟨vm, rfl, hr1, b1⟩
  obtain ⟨adm, capm, rfl, _⟩ := hr1.nl.form
  have HR := Lib.hid hr1
  have HB := Lib.hid b1
  clear HC hr1 b1 c0
  go_wp2
  go_loopw [20] (fun v20 wr => ∃ (k : Nat) (acc : List Int), k ≤ t.length ∧ v20 = .int .i64 (k : Int) ∧ acc.length = l.length ∧ Hid (foldF mx acc (t.drop k) = foldF mx l t) ∧ Hid (Row wr w.heap.size (.slice adm l.length capm) acc) ∧ Below w.heap.size w wr) (fun v20 _ => t.length - (intOf v20).toNat)
  case atStart => exact ⟨0, l, by omega, rfl, rfl, Lib.hid rfl, HR, HB.out⟩
  case round =>
    obtain ⟨k, acc, hk, rfl, hacc, hx, HA, hb⟩ := hrel
    have HACC := Lib.hid hacc
    clear hacc HR HB
    by_cases hp : k < t.length
    · obtain ⟨u2, c1, hu2⟩ := HS.out k hp
      have hx' := hx.out
      rw [List.drop_eq_getElem_cons hp, foldF] at hx'
      have d1 := (hb.cell (World.block_lt_of_cell? w _ c1)).trans c1
      have hbl : b < wr.heap.size := World.block_lt_of_cell? wr _ d1
      clear c1 hx
      generalize t[k] = v2 at hu2 hx'
      obtain ⟨ad2, cap2, rfl, hN⟩ := hu2.form
      have HN := Lib.hid hN
      clear hu2 hN
      by_cases hl : v2.length = acc.length
      · rw [if_pos hl] at hx'
        have hl2 : v2.length = l.length := by rw [hl]; exact HACC.out
        have e0 : ((v2.length : Int) != (l.length : Int)) = false := by simp [hl2]
        have HX := Lib.hid hx'
        have HL := Lib.hid hl
        clear hx' hl
        have hln : v2.length ≤ 1000 := by omega
        have HL2 := Lib.hid hl2
        clear hl2
        go_wp2
        go_loopw [31] (fun v31 ws => ∃ i : Nat, i ≤ v2.length ∧ v31 = .int .i64 (i : Int) ∧ Hid (Row ws w.heap.size (.slice adm l.length capm) (mix mx acc v2 i)) ∧ Below w.heap.size w ws) (fun v31 _ => v2.length - (intOf v31).toNat)
        case atStart => exact ⟨0, by omega, rfl, Lib.hid (by rw [mix_zero]; exact HA.out), hb⟩
        case round =>
          obtain ⟨i, hi, rfl, HM, hb2⟩ := hrel
          by_cases hq : i < v2.length
          · obtain ⟨b2, o2, rfl, hs2⟩ := HN.out (by omega)
            have c2 := (hb2.cell (World.block_lt_of_cell? w _ (hs2 i hq))).trans (hs2 i hq)
            have hbl2 : b2 < wr.heap.size := World.block_lt_of_cell? wr _ c2
            have hml : (mix mx acc v2 i).length = l.length := by rw [mix_len mx acc v2 i HL.out (by have := HL.out; omega)]; exact HACC.out
            have hia : i < acc.length := by have := HL.out; omega
            have hil : i < l.length := by have := HACC.out; omega
            obtain ⟨g, cap3, e3, hg1, hg2⟩ := HM.out.form (by omega)
            simp only [Value.slice.injEq] at e3
            obtain ⟨rfl, e4, e5⟩ := e3
            clear e4 e5
            have c3 := HM.out.at2 hml i _ (mix_get mx acc v2 i HL.out hia)
            have f3 := HM.out.soft2 hml i
            have HM2 : Hid (Row (wr.setCell ⟨g, i, none⟩ (.int .i64 (mx acc[i] v2[i]))) w.heap.size (.slice (some ⟨g, 0, none⟩) l.length capm) (mix mx acc v2 (i + 1))) := Lib.hid (by
              rw [← mix_set mx acc v2 i HL.out hia hq]
              exact HM.out.set2 hml i _)
            generalize acc[i] = x at c3 HM2
            generalize v2[i] = y at c2 HM2
            have HPX := Lib.hid (pickMax_c x y)
            generalize mx x y = z at HPX HM2
            clear hs2 hml
            go_wp2_with fail
            refine (HPX.out _).mono ?_
            rintro e w5 ⟨rfl, rfl⟩
            go_wp2
            go_roundw
            case rel => exact ⟨i + 1, hq, by go_num, HM2, hb2.setCell (by exact hg1) _⟩
            case measure => simp [intOf]; omega
          · have hii : i = v2.length := by omega
            have HM2 : Hid (Row wr w.heap.size (.slice adm l.length capm) (List.zipWith mx acc v2)) := Lib.hid (by rw [← mix_all mx acc v2 HL.out, ← hii]; exact HM.out)
            clear hii
            go_wp2
            go_roundw
            case rel => exact ⟨k + 1, List.zipWith mx acc v2, hp, by go_num, by rw [List.length_zipWith]; have := HL.out; have := HACC.out; omega, HX, HM2, hb2⟩
            case measure => simp [intOf]; omega
      · rw [if_neg hl] at hx'
        have HX := Lib.hid hx'
        have e0 : ((v2.length : Int) != (l.length : Int)) = true := by have := HACC.out; simp; omega
        clear hx' hl
        go_wp2
        go_ret
        exact ⟨_, rfl, by rw [← HX.out]; exact Row.nil _ _, hb⟩
    · have hx' := hx.out
      rw [List.drop_eq_nil_of_le (by omega), foldF] at hx'
      have HX := Lib.hid hx'
      clear hx hx'
      go_wp2
      go_ret
      exact ⟨_, rfl, by rw [← HX.out]; exact HA.out, hb⟩

set_option maxHeartbeats 8000000 in
theorem pbp_min (l : List Int) (t : List (List Int)) (b o cap : Nat) (w : World) (hcap : ¬ cap = 1) (hS : Vs w b o (l :: t)) (hn : l.length ≤ 1000) (ht : t.length ≤ 1000) (_ : t.length + 1 ≤ cap) :
    Calls Try.prog 31 #[.slice (some ⟨b, o, none⟩) ((t.length + 1 : Nat)) cap, .func (.func 33) #[] #[]] w (rowT (foldF mn l t) w) := by
  obtain ⟨u, c0, hu⟩ := hS 0 (by simp)
  rw [Nat.add_zero] at c0
  simp only [List.getElem_cons_zero] at hu
  have hb0 : b < w.heap.size := World.block_lt_of_cell? w _ c0
  have HC := Lib.hid (clone_c l u w hu (by omega))
  have HS := Lib.hid hS.tail
  have hz : ((t.length : Int) + 1 == 0) = false := by simp; omega
  clear hS hu
  go_enter Try.func31, Try.ntmps31
  go_wp2_with fail
  refine HC.out.mono ?_
  rintro e w1 ⟨vm, rfl, hr1, b1⟩
  obtain ⟨adm, capm, rfl, _⟩ := hr1.nl.form
  have HR := Lib.hid hr1
  have HB := Lib.hid b1
  clear HC hr1 b1 c0
  go_wp2
  go_loopw [20] (fun v20 wr => ∃ (k : Nat) (acc : List Int), k ≤ t.length ∧ v20 = .int .i64 (k : Int) ∧ acc.length = l.length ∧ Hid (foldF mn acc (t.drop k) = foldF mn l t) ∧ Hid (Row wr w.heap.size (.slice adm l.length capm) acc) ∧ Below w.heap.size w wr) (fun v20 _ => t.length - (intOf v20).toNat)
  case atStart => exact ⟨0, l, by omega, rfl, rfl, Lib.hid rfl, HR, HB.out⟩
  case round =>
    obtain ⟨k, acc, hk, rfl, hacc, hx, HA, hb⟩ := hrel
    have HACC := Lib.hid hacc
    clear hacc HR HB
    by_cases hp : k < t.length
    · obtain ⟨u2, c1, hu2⟩ := HS.out k hp
      have hx' := hx.out
      rw [List.drop_eq_getElem_cons hp, foldF] at hx'
      have d1 := (hb.cell (World.block_lt_of_cell? w _ c1)).trans c1
      have hbl : b < wr.heap.size := World.block_lt_of_cell? wr _ d1
      clear c1 hx
      generalize t[k] = v2 at hu2 hx'
      obtain ⟨ad2, cap2, rfl, hN⟩ := hu2.form
      have HN := Lib.hid hN
      clear hu2 hN
      by_cases hl : v2.length = acc.length
      · rw [if_pos hl] at hx'
        have hl2 : v2.length = l.length := by rw [hl]; exact HACC.out
        have e0 : ((v2.length : Int) != (l.length : Int)) = false := by simp [hl2]
        have HX := Lib.hid hx'
        have HL := Lib.hid hl
        clear hx' hl
        have hln : v2.length ≤ 1000 := by omega
        have HL2 := Lib.hid hl2
        clear hl2
        go_wp2
        go_loopw [31] (fun v31 ws => ∃ i : Nat, i ≤ v2.length ∧ v31 = .int .i64 (i : Int) ∧ Hid (Row ws w.heap.size (.slice adm l.length capm) (mix mn acc v2 i)) ∧ Below w.heap.size w ws) (fun v31 _ => v2.length - (intOf v31).toNat)
        case atStart => exact ⟨0, by omega, rfl, Lib.hid (by rw [mix_zero]; exact HA.out), hb⟩
        case round =>
          obtain ⟨i, hi, rfl, HM, hb2⟩ := hrel
          by_cases hq : i < v2.length
          · obtain ⟨b2, o2, rfl, hs2⟩ := HN.out (by omega)
            have c2 := (hb2.cell (World.block_lt_of_cell? w _ (hs2 i hq))).trans (hs2 i hq)
            have hbl2 : b2 < wr.heap.size := World.block_lt_of_cell? wr _ c2
            have hml : (mix mn acc v2 i).length = l.length := by rw [mix_len mn acc v2 i HL.out (by have := HL.out; omega)]; exact HACC.out
            have hia : i < acc.length := by have := HL.out; omega
            have hil : i < l.length := by have := HACC.out; omega
            obtain ⟨g, cap3, e3, hg1, hg2⟩ := HM.out.form (by omega)
            simp only [Value.slice.injEq] at e3
            obtain ⟨rfl, e4, e5⟩ := e3
            clear e4 e5
            have c3 := HM.out.at2 hml i _ (mix_get mn acc v2 i HL.out hia)
            have f3 := HM.out.soft2 hml i
            have HM2 : Hid (Row (wr.setCell ⟨g, i, none⟩ (.int .i64 (mn acc[i] v2[i]))) w.heap.size (.slice (some ⟨g, 0, none⟩) l.length capm) (mix mn acc v2 (i + 1))) := Lib.hid (by
              rw [← mix_set mn acc v2 i HL.out hia hq]
              exact HM.out.set2 hml i _)
            generalize acc[i] = x at c3 HM2
            generalize v2[i] = y at c2 HM2
            have HPX := Lib.hid (pickMin_c x y)
            generalize mn x y = z at HPX HM2
            clear hs2 hml
            go_wp2_with fail
            refine (HPX.out _).mono ?_
            rintro e w5 ⟨rfl, rfl⟩
            go_wp2
            go_roundw
            case rel => exact ⟨i + 1, hq, by go_num, HM2, hb2.setCell (by exact hg1) _⟩
            case measure => simp [intOf]; omega
          · have hii : i = v2.length := by omega
            have HM2 : Hid (Row wr w.heap.size (.slice adm l.length capm) (List.zipWith mn acc v2)) := Lib.hid (by rw [← mix_all mn acc v2 HL.out, ← hii]; exact HM.out)
            clear hii
            go_wp2
            go_roundw
            case rel => exact ⟨k + 1, List.zipWith mn acc v2, hp, by go_num, by rw [List.length_zipWith]; have := HL.out; have := HACC.out; omega, HX, HM2, hb2⟩
            case measure => simp [intOf]; omega
      · rw [if_neg hl] at hx'
        have HX := Lib.hid hx'
        have e0 : ((v2.length : Int) != (l.length : Int)) = true := by have := HACC.out; simp; omega
        clear hx' hl
        go_wp2
        go_ret
        exact ⟨_, rfl, by rw [← HX.out]; exact Row.nil _ _, hb⟩
    · have hx' := hx.out
      rw [List.drop_eq_nil_of_le (by omega), foldF] at hx'
      have HX := Lib.hid hx'
      clear hx hx'
      go_wp2
      go_ret
      exact ⟨_, rfl, by rw [← HX.out]; exact HA.out, hb⟩

theorem join_c (ls : List (List Int)) (v : Value) (w : World) (h : Vl w v ls) (hn : ls.length ≤ 1000) (hm : ∀ l ∈ ls, l.length ≤ 1000) : Calls Try.prog 11 #[v] w (rowT (allF mx ls) w) := by
  have cP : Calls Try.prog 31 #[v, .func (.func 32) #[] #[]] w (rowT (allF mx ls) w) := by
    obtain ⟨ad, cap, rfl, hc, h1⟩ := h
    cases ls with
    | nil => exact pbp_none ad cap _ w
    | cons l t =>
      obtain ⟨b, o, rfl, hS⟩ := h1 (by simp)
      simp only [List.length_cons] at hn hc
      have hl := hm l (List.mem_cons_self ..)
      by_cases h2 : cap = 1
      · subst h2
        cases t with
        | nil => exact pbp_one l b o _ w hS hl
        | cons q t => simp at hc
      · exact pbp_max l t b o cap w h2 hS hl (by omega) hc
  have HC := Lib.hid cP
  clear h hm cP
  go_enter Try.func11, Try.ntmps11
  go_wp2_with fail
  refine HC.out.mono ?_
  rintro e w1 ⟨vm, rfl, hr1, b1⟩
  have HR := Lib.hid hr1
  have HB := Lib.hid b1
  clear HC hr1 b1
  go_wp2
  go_ret
  exact ⟨_, rfl, HR.out, HB.out⟩

theorem meet_c (ls : List (List Int)) (v : Value) (w : World) (h : Vl w v ls) (hn : ls.length ≤ 1000) (hm : ∀ l ∈ ls, l.length ≤ 1000) : Calls Try.prog 12 #[v] w (rowT (allF mn ls) w) := by
  have cP : Calls Try.prog 31 #[v, .func (.func 33) #[] #[]] w (rowT (allF mn ls) w) := by
    obtain ⟨ad, cap, rfl, hc, h1⟩ := h
    cases ls with
    | nil => exact pbp_none ad cap _ w
    | cons l t =>
      obtain ⟨b, o, rfl, hS⟩ := h1 (by simp)
      simp only [List.length_cons] at hn hc
      have hl := hm l (List.mem_cons_self ..)
      by_cases h2 : cap = 1
      · subst h2
        cases t with
        | nil => exact pbp_one l b o _ w hS hl
        | cons q t => simp at hc
      · exact pbp_min l t b o cap w h2 hS hl (by omega) hc
  have HC := Lib.hid cP
  clear h hm cP
  go_enter Try.func12, Try.ntmps12
  go_wp2_with fail
  refine HC.out.mono ?_
  rintro e w1 ⟨vm, rfl, hr1, b1⟩
  have HR := Lib.hid hr1
  have HB := Lib.hid b1
  clear HC hr1 b1
  go_wp2
  go_ret
  exact ⟨_, rfl, HR.out, HB.out⟩

end Go.Proofs.Ytmdojflpnikhnaa
