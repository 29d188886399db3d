/-
  Drop and Put of the program, by contract.
-/
import Derived.Test.YtgdajnjfkokmdaaPstCopy
import Derived.Test.YtgdajnjfkokmdaaPstArnd
import Derived.Test.YtgdajnjfkokmdaaPstPMay
import Derived.Test.YtgdajnjfkokmdaaPstNew
namespace Go.Proofs.Ytgdajnjfkokmdaa
open Go.RowKit Go.Lib
set_option maxRecDepth 100000

theorem drop_at {l : List Pv} {i : Nat} {x : Pv} (h : x ∈ l.drop i) : ∃ t, ∃ ht : t < l.length, i ≤ t ∧ l[t] = x := by
  obtain ⟨k, hk, e⟩ := List.getElem_of_mem h
  rw [List.getElem_drop] at e
  rw [List.length_drop] at hk
  exact ⟨i + k, by omega, by omega, e⟩
theorem take_at {l : List Pv} {i : Nat} {x : Pv} (h : x ∈ l.take i) : ∃ t, ∃ ht : t < l.length, t < i ∧ l[t] = x := by
  obtain ⟨k, hk, e⟩ := List.getElem_of_mem h
  rw [List.getElem_take] at e
  rw [List.length_take] at hk
  exact ⟨k, by omega, by omega, e⟩
theorem drop_place {l : List Pv} {o s : Int} {i : Nat} (hm : mayL (ps l) = true) (h : placeP l (o, s) i) : dropV l o s = l.take i ++ behindP l (o, s) i := by
  have hr := ((mayL_iff (ps l)).1 hm).2
  obtain ⟨hi, h1, h2⟩ := h
  have hne : ∀ x : Pv, ((x.o, x.s) : Ky) ≠ (o, s) → (!(x.o == o && x.s == s)) = true := fun x hx => by
    cases hc : (x.o == o && x.s == s) with
    | false => rfl
    | true =>
      simp only [Bool.and_eq_true, beq_iff_eq] at hc
      exact absurd (by rw [hc.1, hc.2]) hx
  have ha : (l.take i).filter (fun x => !(x.o == o && x.s == s)) = l.take i := List.filter_eq_self.2 (fun x hx => by
    obtain ⟨t, ht, hti, rfl⟩ := take_at hx
    exact hne _ (kLt_ne (h1 t ht hti)))
  have hb : (l.drop i).filter (fun x => !(x.o == o && x.s == s)) = behindP l (o, s) i := by
    unfold behindP
    cases hth : thereP l (o, s) i with
    | true =>
      rw [if_pos rfl]
      unfold thereP at hth
      split at hth
      · rename_i hil
        rw [beq_iff_eq] at hth
        rw [List.drop_eq_getElem_cons hil, List.filter_cons_of_neg (by
          rw [Prod.mk.injEq] at hth
          simp [hth.1, hth.2])]
        exact List.filter_eq_self.2 (fun x hx => by
          obtain ⟨t, ht, hti, rfl⟩ := drop_at hx
          have h3 := rise_at hr hil ht (by omega)
          rw [hth] at h3
          exact hne _ (fun e => kLt_ne h3 e.symm))
      · cases hth
    | false =>
      rw [if_neg (by simp)]
      refine List.filter_eq_self.2 (fun x hx => ?_)
      obtain ⟨t, ht, hti, rfl⟩ := drop_at hx
      refine hne _ (fun e => ?_)
      have hil : i < l.length := by omega
      unfold thereP at hth
      rw [dif_pos hil] at hth
      rcases Nat.lt_or_ge i t with h4 | h4
      · have h3 := rise_at hr hil ht h4
        rw [e, h2 i hil (Nat.le_refl _)] at h3
        cases h3
      · obtain rfl : t = i := by omega
        rw [e] at hth
        simp at hth
  unfold dropV
  rw [if_pos hm]
  have hsplit := congrArg (List.filter (fun x : Pv => !(x.o == o && x.s == s))) (List.take_append_drop i l)
  rw [← hsplit, List.filter_append, ha, hb]
theorem behind_ge {l : List Pv} {k : Ky} {i : Nat} (h : placeP l k i) : ∀ x ∈ behindP l k i, kLt (x.o, x.s) k = false := fun x hx => by
  unfold behindP at hx
  split at hx
  · obtain ⟨t, ht, hti, rfl⟩ := drop_at hx
    exact h.2.2 t ht (by omega)
  · obtain ⟨t, ht, hti, rfl⟩ := drop_at hx
    exact h.2.2 t ht hti
theorem ins_place {l : List Pv} {x : Pv} {i : Nat} (h : placeP l (x.o, x.s) i) : insV (l.take i ++ behindP l (x.o, x.s) i) x = l.take i ++ x :: behindP l (x.o, x.s) i := by
  have h1 : ∀ y ∈ l.take i, kLt (y.o, y.s) (x.o, x.s) = true := fun y hy => by
    obtain ⟨t, ht, hti, rfl⟩ := take_at hy
    exact h.2.1 t ht hti
  have h2 := behind_ge h
  unfold insV
  rw [List.takeWhile_append_of_pos h1, List.dropWhile_append_of_pos h1]
  generalize behindP l (x.o, x.s) i = b at h2
  cases b with
  | nil => simp
  | cons a r => simp [h2 a (List.mem_cons_self ..)]
theorem behind_sub (l : List Pv) (k : Ky) (i : Nat) : ∀ x ∈ behindP l k i, x ∈ l := fun x hx => by
  unfold behindP at hx
  split at hx <;> exact List.mem_of_mem_drop hx
theorem behind_len (l : List Pv) (k : Ky) (i : Nat) : (l.take i).length + (behindP l k i).length ≤ l.length := by
  unfold behindP
  split <;> simp <;> omega
def postsO (l : List Po) (w : World) (e : Ending) (w' : World) : Prop := ∃ v qs, e = .returned v ∧ POwn w' w.heap.size v qs ∧ ps qs = l ∧ Below w.heap.size w w'
theorem POwn.nil (w : World) (B : Nat) : POwn w B (.slice none 0 0) [] := ⟨PRow.nil _ _, fun x hx => (by cases hx), List.Pairwise.nil⟩
theorem POwn.mono {w : World} {B B' : Nat} {v : Value} {l : List Pv} (h : POwn w B v l) (hb : B' ≤ B) : POwn w B' v l := ⟨own_mono h.row hb, fun x hx => (h.rows x hx).mono hb, h.pw⟩
theorem POwn.form {w : World} {B : Nat} {v : Value} {l : List Pv} (h : POwn w B v l) : ∃ A C, v = .slice A l.length C := by
  obtain ⟨A, C, e, _⟩ := own_form h.row
  exact ⟨A, C, e⟩
set_option maxHeartbeats 8000000 in
theorem pdrop_c (l : List Pv) (o s : Int) (v : Value) (w : World) (h : PRd w v l) (hn : l.length ≤ 1000) (hm : ∀ x ∈ l, x.ns.length ≤ 1000000) :
    Calls Try.prog 21 #[v, .agg #[.int .i64 o, .int .i64 s]] w (postsO (dropP (ps l) (o, s)) w) := by
  have hal := alloc_below w (.cells #[.int .i64 o, .int .i64 s] 34)
  have bx := Bx.new 34 w #[.int .i64 o, .int .i64 s]
  obtain ⟨W1, hW1⟩ : ∃ W1, W1 = w.alloc (.cells #[.int .i64 o, .int .i64 s] 34) := ⟨_, rfl⟩
  rw [← hW1] at hal bx
  have HW1 := Lib.hid hW1
  have HB1 := Lib.hid hal
  have BX := Lib.hid bx
  have HP := Lib.hid h
  have HM := Lib.hid hm
  have CM := Lib.hid (pmay_c l v W1 (h.below hal) (by omega) hm)
  obtain ⟨ad, cap, rfl, _, _⟩ := h
  unfold postsO
  clear hW1 hal bx hm
  cases hmay : mayL (ps l) with
  | false =>
    rw [hmay] at CM
    have HE : Hid (dropP (ps l) (o, s) = []) := Lib.hid (by unfold dropP; rw [hmay]; rfl)
    clear hmay
    go_enter Try.func21, Try.ntmps21
    go_wp2_with fail
    rw [← HW1.out]
    refine CM.out.mono ?_
    rintro e w2 ⟨rfl, b2⟩
    have HB2 := Lib.hid b2
    clear b2 CM
    go_wp2
    go_ret
    exact ⟨_, [], rfl, POwn.nil _ _, by rw [HE.out]; rfl, bn HB1.out HB2.out⟩
  | true =>
    rw [hmay] at CM
    have HR := Lib.hid ((mayL_iff (ps l)).1 hmay).2
    have HMAY := Lib.hid hmay
    clear hmay
    go_enter Try.func21, Try.ntmps21
    go_wp2_with fail
    rw [← HW1.out]
    refine CM.out.mono ?_
    rintro e w2 ⟨rfl, b2⟩
    have x0 := (BX.out.below b2).cell 0
    have x1 := (BX.out.below b2).cell 1
    simp only [List.getElem?_toArray, List.getElem?_cons_succ, List.getElem?_cons_zero] at x0 x1
    have hgl := (BX.out.below b2).lt
    have HB2 := Lib.hid (bn HB1.out b2)
    have CA := Lib.hid (around_c l o s _ w2 (HP.out.below (bn HB1.out b2)) (by omega) HR.out)
    clear b2 CM
    go_wp2_with fail
    refine CA.out.mono ?_
    rintro e w3 ⟨A1, A2, N1, N2, C1, C2, i, rfl, hpl, hpa, hpb, b3⟩
    have HB3 := Lib.hid (bn HB2.out b3)
    have hl := lrd_new (w := w3) (vs := [.slice A1 N1 C1, .slice A2 N2 C2]) (ls := [⟨_, l.take i⟩, ⟨_, behindP l (o, s) i⟩]) rfl (fun x hx => by
      rcases List.mem_cons.1 hx with rfl | hx
      · exact hpa
      · simp only [List.mem_singleton] at hx; subst hx; exact hpb) 30
    have hfl : flatV [(⟨.slice A1 N1 C1, l.take i⟩ : Lv), ⟨.slice A2 N2 C2, behindP l (o, s) i⟩] = dropV l o s := by
      rw [drop_place HMAY.out hpl]
      simp [flatV]
    have CC := Lib.hid (copied_c _ _ _ hl (by simp) (by rw [hfl]; have := dropV_len l o s; omega) (by rw [hfl]; exact fun x hx => HM.out x (dropV_sub l o s x hx)))
    rw [hfl, dropV_ps] at CC
    have HAL3 := Lib.hid (alloc_below w3 (.cells #[.slice A1 N1 C1, .slice A2 N2 C2] 30))
    clear hl hfl hpl hpa hpb b3 CA x0 x1
    go_wp2_with fail
    refine CC.out.mono ?_
    rintro e w4 ⟨v4, qs, rfl, ho, hq, b4⟩
    obtain ⟨A4, C4, e4⟩ := ho.form
    subst e4
    have HB4 := Lib.hid (bn HB3.out HAL3.out)
    have HO := Lib.hid (ho.mono HB4.out.size)
    have HQ := Lib.hid hq
    have HB5 := Lib.hid (bn HB4.out b4)
    clear ho hq b4 CC
    go_wp2
    go_ret
    exact ⟨_, qs, rfl, HO.out, HQ.out, HB5.out⟩
end Go.Proofs.Ytgdajnjfkokmdaa
