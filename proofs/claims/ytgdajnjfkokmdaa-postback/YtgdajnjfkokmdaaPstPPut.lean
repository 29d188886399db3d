/-
  Put of the program, by contract.
-/
import Derived.Test.YtgdajnjfkokmdaaPstPDrop
namespace Go.Proofs.Ytgdajnjfkokmdaa
open Go.RowKit Go.Lib
set_option maxRecDepth 100000

set_option maxHeartbeats 8000000 in
theorem pput_c (l : List Pv) (o s : Int) (xa : Value) (xn : List Int) (v : Value) (w : World) (h : PRd w v l) (hx : Nl w xa xn) (hn : l.length ≤ 1000) (hm : ∀ x ∈ l, x.ns.length ≤ 1000000) (hxn : xn.length ≤ 1000000) :
    Calls Try.prog 20 #[v, .agg #[.int .i64 o, .int .i64 s, xa]] w (postsO (putP (ps l) ⟨(o, s), xn⟩) w) := by
  obtain ⟨XA, XC, ex, _⟩ := hx.form
  subst ex
  have hal := alloc_below w (.cells #[.int .i64 o, .int .i64 s, .slice XA xn.length XC] 37)
  have bx := Bx.new 37 w #[.int .i64 o, .int .i64 s, .slice XA xn.length XC]
  obtain ⟨W1, hW1⟩ : ∃ W1, W1 = w.alloc (.cells #[.int .i64 o, .int .i64 s, .slice XA xn.length XC] 37) := ⟨_, rfl⟩
  rw [← hW1] at hal bx
  have HW1 := Lib.hid hW1
  have HB1 := Lib.hid hal
  have BX := Lib.hid bx
  have HP := Lib.hid h
  have HX := Lib.hid hx
  have HM := Lib.hid hm
  have CM := Lib.hid (pmay_c l v W1 (h.below hal) (by omega) hm)
  have CS := Lib.hid (fun W (hW : Below w.heap.size w W) => stand_c xn _ W (hx.below hW) hxn)
  obtain ⟨ad, cap, rfl, _, _⟩ := h
  unfold postsO
  clear hW1 hal bx hm hx
  cases hmay : mayL (ps l) with
  | false =>
    rw [hmay] at CM
    have HE : Hid (putP (ps l) ⟨(o, s), xn⟩ = []) := Lib.hid (by unfold putP; rw [hmay]; rfl)
    clear hmay
    go_enter Try.func20, Try.ntmps20
    go_wp2_with fail
    rw [← HW1.out]
    refine CM.out.mono ?_
    rintro e w2 ⟨rfl, b2⟩
    have HB2 := Lib.hid b2
    clear b2 CM
    go_wp2
    go_ret
    exact ⟨_, [], rfl, POwn.nil _ _, by rw [HE.out]; rfl, bn HB1.out HB2.out⟩
  | true =>
    rw [hmay] at CM
    have HR := Lib.hid ((mayL_iff (ps l)).1 hmay).2
    have HMAY := Lib.hid hmay
    clear hmay
    go_enter Try.func20, Try.ntmps20
    go_wp2_with fail
    rw [← HW1.out]
    refine CM.out.mono ?_
    rintro e w2 ⟨rfl, b2⟩
    have x0 := (BX.out.below b2).cell 0
    have x1 := (BX.out.below b2).cell 1
    have x2 := (BX.out.below b2).cell 2
    simp only [List.getElem?_toArray, List.getElem?_cons_succ, List.getElem?_cons_zero] at x0 x1 x2
    have hgl := (BX.out.below b2).lt
    have HB2 := Lib.hid (bn HB1.out b2)
    have CS2 := Lib.hid (CS.out w2 (bn HB1.out b2))
    have BX2 := Lib.hid (BX.out.below b2)
    clear b2 CM CS
    cases hone : oneB xn with
    | false =>
      rw [hone] at CS2
      have HE : Hid (putP (ps l) ⟨(o, s), xn⟩ = ps l) := Lib.hid (by unfold putP; rw [HMAY.out, if_pos rfl, if_neg (by simp [hone])])
      clear hone
      have hl := lrd_new (w := w2) (vs := [.slice ad l.length cap]) (ls := [⟨_, l⟩]) rfl (fun x hx => by simp only [List.mem_singleton] at hx; subst hx; exact HP.out.below HB2.out) 30
      have hfl : flatV [(⟨.slice ad l.length cap, l⟩ : Lv)] = l := by simp [flatV]
      have CC := Lib.hid (copied_c _ _ _ hl (by simp) (by rw [hfl]; omega) (by rw [hfl]; exact HM.out))
      rw [hfl] at CC
      have HAL3 := Lib.hid (alloc_below w2 (.cells #[.slice ad l.length cap] 30))
      clear hl hfl
      go_wp2_with fail
      refine CS2.out.mono ?_
      rintro e w3 ⟨rfl, rfl⟩
      go_wp2_with fail
      refine CC.out.mono ?_
      rintro e w4 ⟨v4, qs, rfl, ho, hq, b4⟩
      obtain ⟨A4, C4, e4⟩ := ho.form
      subst e4
      have HB4 := Lib.hid (bn HB2.out HAL3.out)
      have HO := Lib.hid (ho.mono HB4.out.size)
      have HQ := Lib.hid hq
      have HB5 := Lib.hid (bn HB4.out b4)
      clear ho hq b4 CC
      go_wp2
      go_ret
      exact ⟨_, qs, rfl, HO.out, by rw [HE.out]; exact HQ.out, HB5.out⟩
    | true =>
      rw [hone] at CS2
      have HONE := Lib.hid hone
      have CA := Lib.hid (around_c l o s _ w2 (HP.out.below HB2.out) (by omega) HR.out)
      clear hone
      go_wp2_with fail
      refine CS2.out.mono ?_
      rintro e w3 ⟨rfl, rfl⟩
      go_wp2_with fail
      refine CA.out.mono ?_
      rintro e w3 ⟨A1, A2, N1, N2, C1, C2, i, rfl, hpl, hpa, hpb, b3⟩
      have y0 := (BX2.out.below b3).cell 0
      have y1 := (BX2.out.below b3).cell 1
      have y2 := (BX2.out.below b3).cell 2
      simp only [List.getElem?_toArray, List.getElem?_cons_succ, List.getElem?_cons_zero] at y0 y1 y2
      have hgl3 := (BX2.out.below b3).lt
      have HB3 := Lib.hid (bn HB2.out b3)
      have hal3 := alloc_below w3 (.cells #[.int .i64 o, .int .i64 s, .slice XA xn.length XC] 37)
      have hp1 := prd_one (x := ⟨o, s, .slice XA xn.length XC, xn⟩) (Bx.new 37 w3 _) ((HX.out.below HB3.out).below hal3)
      have hl := lrd_new (w := w3.alloc (.cells #[.int .i64 o, .int .i64 s, .slice XA xn.length XC] 37)) (vs := [.slice A1 N1 C1, .slice (some ⟨w3.heap.size, 0, none⟩) 1 1, .slice A2 N2 C2]) (ls := [⟨_, l.take i⟩, ⟨_, [⟨o, s, .slice XA xn.length XC, xn⟩]⟩, ⟨_, behindP l (o, s) i⟩]) rfl (fun x hx => by
        rcases List.mem_cons.1 hx with rfl | hx
        · exact hpa.below hal3
        · rcases List.mem_cons.1 hx with rfl | hx
          · exact hp1
          · simp only [List.mem_singleton] at hx; subst hx; exact hpb.below hal3) 30
      have hfl : flatV [(⟨.slice A1 N1 C1, l.take i⟩ : Lv), ⟨.slice (some ⟨w3.heap.size, 0, none⟩) 1 1, [⟨o, s, .slice XA xn.length XC, xn⟩]⟩, ⟨.slice A2 N2 C2, behindP l (o, s) i⟩] = putV l ⟨o, s, .slice XA xn.length XC, xn⟩ := by
        unfold putV
        rw [HMAY.out, if_pos rfl, if_pos HONE.out]
        simp only
        rw [drop_place HMAY.out hpl]
        have := ins_place (x := ⟨o, s, .slice XA xn.length XC, xn⟩) hpl
        simp only at this
        rw [this]
        simp [flatV]
      have hle := behind_len l (o, s) i
      have hlen : (flatV [(⟨.slice A1 N1 C1, l.take i⟩ : Lv), ⟨.slice (some ⟨w3.heap.size, 0, none⟩) 1 1, [⟨o, s, .slice XA xn.length XC, xn⟩]⟩, ⟨.slice A2 N2 C2, behindP l (o, s) i⟩]).length ≤ 10000 := by
        simp only [flatV, List.map_cons, List.map_nil, List.flatten_cons, List.flatten_nil, List.append_nil, List.length_append, List.length_singleton]
        omega
      have hnss : ∀ x ∈ flatV [(⟨.slice A1 N1 C1, l.take i⟩ : Lv), ⟨.slice (some ⟨w3.heap.size, 0, none⟩) 1 1, [⟨o, s, .slice XA xn.length XC, xn⟩]⟩, ⟨.slice A2 N2 C2, behindP l (o, s) i⟩], x.ns.length ≤ 1000000 := fun x hx => by
        simp only [flatV, List.map_cons, List.map_nil, List.flatten_cons, List.flatten_nil, List.append_nil, List.mem_append, List.mem_singleton] at hx
        rcases hx with hx | rfl | hx
        · exact HM.out x (List.mem_of_mem_take hx)
        · exact hxn
        · exact HM.out x (behind_sub l _ i x hx)
      have CC := Lib.hid (copied_c _ _ _ hl (by simp) hlen hnss)
      rw [hfl, putV_ps] at CC
      simp only [Pv.p, World.size_alloc] at CC
      have HAL3 : Hid (Below w3.heap.size w3 ((w3.alloc (.cells #[.int .i64 o, .int .i64 s, .slice XA xn.length XC] 37)).alloc (.cells #[.slice A1 N1 C1, .slice (some ⟨w3.heap.size, 0, none⟩) 1 1, .slice A2 N2 C2] 30))) := Lib.hid (bn hal3 (alloc_below _ _))
      clear hl hfl hle hlen hnss hpl hpa hpb hp1 hal3 b3 CA x0 x1 x2
      go_wp2_with fail
      refine CC.out.mono ?_
      rintro e w4 ⟨v4, qs, rfl, ho, hq, b4⟩
      obtain ⟨A4, C4, e4⟩ := ho.form
      subst e4
      have HB4 := Lib.hid (bn HB3.out HAL3.out)
      have hsz := HB4.out.size
      simp only [World.size_alloc] at hsz
      have HO := Lib.hid (ho.mono hsz)
      have HQ := Lib.hid hq
      have HB5 : Hid (Below w.heap.size w w4) := Lib.hid (HB4.out.trans (b4.mono hsz))
      clear ho hq b4 CC hsz
      go_wp2
      go_ret
      exact ⟨_, qs, rfl, HO.out, HQ.out, HB5.out⟩
end Go.Proofs.Ytgdajnjfkokmdaa
