/-
  Put of chapter 10's own answer, by contract.
-/
import Derived.Test.YtgdajnjfkokmdaaPstDrop
import Derived.Test.YtgdajnjfkokmdaaPstLaws
namespace Go.Proofs.Ytgdajnjfkokmdaa
open Go.RowKit Go.Lib
set_option maxRecDepth 100000

/-- A piece of a list of Posts holds the piece of them. -/
theorem prd_sliced {w : World} {ad : Option Addr} {cap : Nat} {l : List Pv} (h : PRd w (.slice ad l.length cap) l) (lo hi : Nat) (hlh : lo ≤ hi) (hhi : hi ≤ l.length) : PRd w (sliced ad lo hi cap 3) ((l.drop lo).take (hi - lo)) := by
  have hlen : ((l.drop lo).take (hi - lo)).length = hi - lo := by simp; omega
  obtain ⟨ad', cap', e, hcap, h2⟩ := h
  simp only [Value.slice.injEq, true_and] at e
  obtain ⟨rfl, rfl⟩ := e
  refine ⟨if cap = lo then ad else ad.map fun a => a.add (lo * 3), cap - lo, ?_, by rw [hlen]; omega, fun h0 => ?_⟩
  · rw [hlen]
    unfold sliced
    cases ad with
    | none => simp
    | some a =>
      by_cases h0 : cap = lo
      · simp [h0]
      · simp [h0]
  · rw [hlen] at h0
    obtain ⟨b, o, rfl, hs⟩ := h2 (by omega)
    have hne : ¬ cap = lo := by omega
    rw [if_neg hne]
    refine ⟨b, o + lo * 3, by simp only [Option.map_some]; rw [Go.WideShapes.add_plain], fun k hk => ?_⟩
    rw [hlen] at hk
    have h3 := hs (lo + k) (by omega)
    rw [List.getElem_take, List.getElem_drop, show o + lo * 3 + k * 3 = o + (lo + k) * 3 by omega]
    exact h3
theorem pslice_run (ad : Option Addr) (n cap : Nat) (lo hi : Option Value) (l h : Nat) (W : World) (hb : (Instr.sliceBounds true n cap lo hi none).run Try.prog W = .ok (l, h, cap) W) : (Instr.sliceAt 30 (.slice ad n cap) lo hi none).run Try.prog W = .ok (sliced ad l h cap 3) W := by
  have hs : (sizeOf 37).run Try.prog W = .ok 3 W := by
    have := Try.sizeOf37
    simp [sizeOf]
    rfl
  rw [run_sliceAt_slice W _ _ _ _ _ Try.underlying30, run_slice_any W _ _ _ _ Try.underlying30, hb]
  simp only [Result.andThen]
  rw [show Try.prog.elem 30 = 37 by kernel_rfl, hs]
theorem step_papp {w : World} {ops : Array Oper} {o : Oper} {a : Act} {K : Act → World → Prop} {Q : Exit → Act → World → Prop} {E : Prop} (hgd : o.guard = none) (s x : Operand)
    (ho : o.op = .call { callee := .builtin .append, args := #[s, x], argTypes := #[30, 30] })
    (B : Nat) (v u : Value) (m l : List Pv) (hs : a.eval s = v) (hx : a.eval x = u) (hv : PRow w B v m) (hu : PRd w u l) (hn : m.length + l.length ≤ 1000000) (hB : B ≤ w.heap.size)
    (h : ∀ v' w', PRow w' B v' (m ++ l) → w.grownBy w' v.ownBlock → K (a.put o.dst v') w') :
    if Region.wanted o (yielded ops a.tmps) = true then Oper.wp Try.prog o a w K Q else E := by
  have hw : Region.wanted o (yielded ops a.tmps) = true := by simp [Region.wanted, hgd]
  rw [if_pos hw]
  obtain ⟨A, C, w', hr, h2, h3, _⟩ := papp_run m l v u w o.type B hv hu hn hB
  unfold Oper.wp execOp
  simp only [ho, resolve, invoke, builtin, Sem.run_bind, Sem.run_pure, Result.andThen_ok, List.map_toArray, List.map_cons, List.map_nil, hs, hx, hr]
  exact h _ w' h2 h3
theorem prd_one2 {w : World} {B : Nat} {x : Pv} (hn : Nl w x.a x.ns) (h : Bx 37 w B #[.int .i64 x.o, .int .i64 x.s, x.a]) : PRd w (.slice (some ⟨B, 0, none⟩) 1 1) [x] := prd_one h hn
def insV (l : List Pv) (x : Pv) : List Pv := l.takeWhile (fun y => kLt (y.o, y.s) (x.o, x.s)) ++ x :: l.dropWhile fun y => kLt (y.o, y.s) (x.o, x.s)
theorem insV_ps : ∀ (l : List Pv) (x : Pv), ps (insV l x) = insP (ps l) x.p
  | [], x => rfl
  | y :: l, x => by
    have ih := insV_ps l x
    show ps (insV (y :: l) x) = insP (y.p :: ps l) x.p
    rw [insP_cons]
    cases h : kLt (y.o, y.s) (x.o, x.s) with
    | true =>
      have e1 : insV (y :: l) x = y :: insV l x := by simp [insV, h]
      have e2 : kLt y.p.k x.p.k = true := h
      rw [e1, if_pos e2]
      show y.p :: ps (insV l x) = _
      rw [ih]
    | false =>
      have e1 : insV (y :: l) x = x :: y :: l := by simp [insV, h]
      have e2 : kLt y.p.k x.p.k = false := h
      rw [e1, e2]
      rfl
def putV (l : List Pv) (x : Pv) : List Pv := if mayL (ps l) then (if oneB x.ns then insV (dropV l x.o x.s) x else l) else []
theorem putV_ps (l : List Pv) (x : Pv) : ps (putV l x) = putP (ps l) x.p := by
  unfold putV putP
  split
  · rw [Pv.p_ns]
    split
    · rw [insV_ps, dropV_ps]
      rfl
    · rfl
  · rfl
theorem twv_split (f : Pv → Bool) : ∀ (l : List Pv) (i : Nat), i ≤ l.length → (∀ t (ht : t < l.length), t < i → f l[t] = true) → (∀ h : i < l.length, f l[i] = false) → l.takeWhile f = l.take i ∧ l.dropWhile f = l.drop i
  | [], i, hi, _, _ => by simp
  | a :: l, 0, _, _, h => by
    have := h (by simp)
    simp only [List.getElem_cons_zero] at this
    simp [this]
  | a :: l, i + 1, hi, h1, h2 => by
    have h0 := h1 0 (by simp) (by omega)
    simp only [List.getElem_cons_zero] at h0
    have ih := twv_split f l i (by simpa using hi) (fun t ht hti => h1 (t + 1) (by simpa using ht) (by omega)) (fun h => h2 (by simpa using h))
    simp [h0, ih]
theorem dropV_sub (l : List Pv) (o s : Int) : ∀ x ∈ dropV l o s, x ∈ l := fun x hx => by
  unfold dropV at hx
  split at hx
  · exact (List.mem_filter.1 hx).1
  · cases hx
theorem dropV_len (l : List Pv) (o s : Int) : (dropV l o s).length ≤ l.length := by
  unfold dropV
  split
  · exact List.length_filter_le _ _
  · simp
set_option maxHeartbeats 16000000 in
theorem put_c (l : List Pv) (o s : Int) (xa : Value) (xn : List Int) (v : Value) (w : World) (h : PRd w v l) (hx : Nl w xa xn) (hn : l.length ≤ 10000) (hm : ∀ x ∈ l, x.ns.length ≤ 1000000) (hxn : xn.length ≤ 1000000) :
    Calls Try.prog 24 #[v, .agg #[.int .i64 o, .int .i64 s, xa]] w (postsT (putV l ⟨o, s, xa, xn⟩) w) := by
  have HP := Lib.hid h
  obtain ⟨ad0, cap0, rfl, _, _⟩ := h
  obtain ⟨adx, capx, rfl, _⟩ := id hx.form
  have hal := alloc_below w (.cells #[.int .i64 o, .int .i64 s, .slice adx xn.length capx] 37)
  have bx := Bx.new 37 w #[.int .i64 o, .int .i64 s, .slice adx xn.length capx]
  obtain ⟨w1, hw1⟩ : ∃ w1, w1 = w.alloc (.cells #[.int .i64 o, .int .i64 s, .slice adx xn.length capx] 37) := ⟨_, rfl⟩
  rw [← hw1] at hal bx
  have CM := Lib.hid (may_c l _ w1 (HP.out.below hal) (by omega) hm)
  have CB := Lib.hid bx
  have HAL := Lib.hid hal
  have HW := Lib.hid hw1
  have HPP := Lib.hid (HP.out.below hal)
  have HX := Lib.hid (hx.below hal)
  have HM := Lib.hid hm
  have CO : Hid (∀ W, Below w1.heap.size w1 W → Calls Try.prog 44 #[.agg #[.int .i64 o, .int .i64 s, .slice adx xn.length capx]] W fun e w' => e = .returned (.bool (oneB xn)) ∧ Below W.heap.size W w') := Lib.hid (fun W hW => one_c ⟨o, s, .slice adx xn.length capx, xn⟩ W (HX.out.below hW) hxn)
  obtain ⟨xa, hxa⟩ : ∃ xa : Value, xa = .slice adx xn.length capx := ⟨_, rfl⟩
  rw [← hxa] at CB HX CO HW ⊢
  clear hm hal bx hw1 hx hxa HP
  cases h1 : mayL (ps l) with
  | false =>
    rw [h1] at CM
    have HO : Hid (putV l ⟨o, s, xa, xn⟩ = []) := Lib.hid (by unfold putV; rw [h1]; rfl)
    clear h1
    go_enter Try.func24, Try.ntmps24
    go_wp2_with fail
    rw [← HW.out]
    refine CM.out.mono ?_
    rintro e w2 ⟨rfl, b2⟩
    have HB2 := Lib.hid (bn HAL.out b2)
    clear b2 CM
    go_wp2
    go_ret
    exact ⟨_, rfl, by rw [HO.out]; exact PRow.nil _ _, HB2.out⟩
  | true =>
    rw [h1] at CM
    cases h2 : oneB xn with
    | false =>
      rw [h2] at CO
      have HO : Hid (putV l ⟨o, s, xa, xn⟩ = l) := Lib.hid (by unfold putV; rw [if_pos h1]; simp only [h2]; rfl)
      clear h1 h2
      go_enter Try.func24, Try.ntmps24
      go_wp2_with fail
      rw [← HW.out]
      refine CM.out.mono ?_
      rintro e w2 ⟨rfl, b2⟩
      have cb := CB.out.below b2
      have c0 := cb.cell 0
      have c1 := cb.cell 1
      have c2 := cb.cell 2
      simp only [List.getElem?_toArray, List.getElem?_cons_succ, List.getElem?_cons_zero] at c0 c1 c2
      have hgl := cb.lt
      have CO2 := Lib.hid (CO.out w2 b2)
      have HB2 := Lib.hid b2
      clear b2 CM cb
      go_wp2_with fail
      refine CO2.out.mono ?_
      rintro e w3 ⟨rfl, b3⟩
      have HB3 := Lib.hid (bn HB2.out b3)
      obtain ⟨A, C, w4, run4, r4, g4, _⟩ := papp_run [] l (.slice none 0 0) _ w3 30 w3.heap.size (PRow.nil _ _) (HPP.out.below HB3.out) (by simp; omega) (Nat.le_refl _)
      rw [List.nil_append] at run4 r4
      have HR4 := Lib.hid run4
      have HK4 := Lib.hid r4
      have HB4 := Lib.hid (bn HB3.out (below_of_grown g4 (Nat.le_refl _) (fun g hg => by cases hg)))
      have HS3 := Lib.hid HB3.out.size
      clear b3 run4 r4 g4 c0 c1 c2 hgl CO2
      go_wp2_with (at_builtin; refine wpList_append_run rfl _ _ 30 rfl _ _ HR4.out ?_; clear HR4)
      go_ret
      exact ⟨_, rfl, by rw [HO.out]; exact own_mono HK4.out (Nat.le_trans HAL.out.size HS3.out), bn HAL.out HB4.out⟩
    | true =>
      rw [h2] at CO
      obtain ⟨d, hd⟩ : ∃ d, d = dropV l o s := ⟨_, rfl⟩
      have HO : Hid (putV l ⟨o, s, xa, xn⟩ = insV d ⟨o, s, xa, xn⟩) := Lib.hid (by unfold putV; rw [if_pos h1]; simp only [h2, if_true, hd])
      have HDL : Hid (d.length ≤ 10000) := Lib.hid (by have := dropV_len l o s; rw [hd]; omega)
      have HDN : Hid (∀ x ∈ d, x ∈ l) := Lib.hid (by rw [hd]; exact dropV_sub l o s)
      have CD : Hid (∀ W, Below w1.heap.size w1 W → Calls Try.prog 25 #[.slice ad0 l.length cap0, .agg #[.int .i64 o, .int .i64 s]] W (postsT d W)) := Lib.hid (fun W hW => by rw [hd]; exact drop_c l o s _ W (HPP.out.below hW) hn HM.out)
      clear h1 h2 hd
      go_enter Try.func24, Try.ntmps24
      go_wp2_with fail
      rw [← HW.out]
      refine CM.out.mono ?_
      rintro e w2 ⟨rfl, b2⟩
      have cb := CB.out.below b2
      have c0 := cb.cell 0
      have c1 := cb.cell 1
      have c2 := cb.cell 2
      simp only [List.getElem?_toArray, List.getElem?_cons_succ, List.getElem?_cons_zero] at c0 c1 c2
      have hgl := cb.lt
      have CO2 := Lib.hid (CO.out w2 b2)
      have HB2 := Lib.hid b2
      clear b2 CM cb
      go_wp2_with fail
      refine CO2.out.mono ?_
      rintro e w3 ⟨rfl, b3⟩
      have HB3 := Lib.hid (bn HB2.out b3)
      clear c0 c1 c2 hgl b3 CO2
      have cb := CB.out.below HB3.out
      have c0 := cb.cell 0
      have c1 := cb.cell 1
      simp only [List.getElem?_toArray, List.getElem?_cons_succ, List.getElem?_cons_zero] at c0 c1
      have hgl := cb.lt
      have CD2 := Lib.hid (CD.out w3 HB3.out)
      clear cb CD
      go_wp2_with fail
      refine CD2.out.mono ?_
      rintro e wd ⟨vd, rfl, rd, bd⟩
      have HBD := Lib.hid (bn HB3.out bd)
      have HD := Lib.hid (rd.rd (fun x hx => (HPP.out.nls x (HDN.out x hx)).below HBD.out))
      obtain ⟨ad, cap, rfl, hcap⟩ := own_form rd
      have hdl := HDL.out
      have CB := Lib.hid (CB.out.below HBD.out)
      have HX := Lib.hid (HX.out.below HBD.out)
      clear c0 c1 hgl rd bd CD2
      go_wp2
      go_loopw [6] (fun v6 wr => ∃ k : Nat, k ≤ d.length ∧ v6 = .int .i64 (k : Int) ∧ Hid (Below wd.heap.size wd wr) ∧ Hid (∀ t (ht : t < d.length), t < k → kLt (d[t].o, d[t].s) (o, s) = true)) (fun v6 _ => d.length - (intOf v6).toNat)
      case atStart => exact ⟨0, by omega, rfl, Lib.hid (Below.refl _ _), Lib.hid (fun t _ ht => by omega)⟩
      case round =>
        obtain ⟨k, hk, rfl, HB, hs⟩ := hrel
        have hgl := (CB.out.below HB.out).lt
        by_cases hp : k < d.length
        · obtain ⟨ad', cap', e1, _, c3⟩ := HD.out.below HB.out
          simp only [Value.slice.injEq, true_and] at e1
          obtain ⟨rfl, rfl⟩ := e1
          obtain ⟨g, o1, rfl, c1⟩ := c3 (by omega)
          have a1 := c1 k hp
          have HP := Lib.hid hp
          have HT : Hid (∀ y, d[k] = y → kLt (y.o, y.s) (o, s) = true → ∀ t (ht : t < d.length), t < k + 1 → kLt (d[t].o, d[t].s) (o, s) = true) := Lib.hid (fun y hy h t ht htk => by
            subst hy
            rcases Nat.lt_or_ge t k with h1 | h1
            · exact hs.out t ht h1
            · obtain rfl : t = k := by omega
              exact h)
          have HF : Hid (∀ y, d[k] = y → kLt (y.o, y.s) (o, s) = false → insV d ⟨o, s, xa, xn⟩ = d.take k ++ ⟨o, s, xa, xn⟩ :: d.drop k) := Lib.hid (fun y hy h => by
            subst hy
            have h1 := twv_split (fun x => kLt (x.o, x.s) (o, s)) d k hk hs.out (fun _ => h)
            unfold insV
            simp only [h1.1, h1.2])
          generalize hy : d[k] = y at a1
          have HF1 := Lib.hid (HF.out _ hy)
          have HT1 := Lib.hid (HT.out _ hy)
          obtain ⟨yo, ys, ya, yn⟩ := y
          have HS : Hid (∀ W, Below wr.heap.size wr W → W.cell? ⟨w.heap.size, 0, none⟩ = some (.int .i64 o) ∧ W.cell? ⟨w.heap.size, 1, none⟩ = some (.int .i64 s) ∧ W.cell? ⟨g, o1 + k * 3, none⟩ = some (.int .i64 yo) ∧ W.cell? ⟨g, o1 + k * 3 + 1, none⟩ = some (.int .i64 ys)) := Lib.hid (fun W hb => ⟨(CB.out.below (bn HB.out hb)).cell 0, (CB.out.below (bn HB.out hb)).cell 1, (a1.below hb).c0, (a1.below hb).c1⟩)
          have CK := Lib.hid (fun W => refbefore_c yo ys o s W)
          have hgl1 := World.block_lt_of_cell? _ _ a1.c0
          clear c3 c1 a1 hy HF HT
          cases hL : kLt (yo, ys) (o, s) with
          | true =>
            rw [hL] at CK
            have HT2 := Lib.hid (HT1.out hL)
            clear hL HT1 HF1
            go_wp2_with fail
            go_region_held3 (fun W => W.cell? ⟨w.heap.size, 0, none⟩ = some (.int .i64 o) ∧ W.cell? ⟨w.heap.size, 1, none⟩ = some (.int .i64 s) ∧ W.cell? ⟨g, o1 + k * 3, none⟩ = some (.int .i64 yo) ∧ W.cell? ⟨g, o1 + k * 3 + 1, none⟩ = some (.int .i64 ys)) (exact HS.out _ (by first | assumption | exact (Below.refl _ _).drew | exact Below.refl _ _))
              (first
              | (go_at_call 28; refine (CK.out _).mono ?_; rintro e w5 ⟨rfl, b5⟩; have b5' : Below wr.heap.size wr w5 := bn (by first | assumption | exact (Below.refl _ _).drew | exact Below.refl _ _) b5; clear b5)
              | fail)
            have HB5 := Lib.hid (bn HB.out b5')
            clear b5' HS CK
            go_wp2
            go_roundw
            case rel => exact ⟨k + 1, HP.out, by go_num, HB5, HT2⟩
            case measure => have := HP.out; simp [intOf]; omega
          | false =>
            rw [hL] at CK
            have HI : Hid (putV l ⟨o, s, xa, xn⟩ = d.take k ++ ⟨o, s, xa, xn⟩ :: d.drop k) := Lib.hid (by rw [HO.out]; exact HF1.out hL)
            clear hL HT1 HF1
            go_wp2_with fail
            go_region_held3 (fun W => W.cell? ⟨w.heap.size, 0, none⟩ = some (.int .i64 o) ∧ W.cell? ⟨w.heap.size, 1, none⟩ = some (.int .i64 s) ∧ W.cell? ⟨g, o1 + k * 3, none⟩ = some (.int .i64 yo) ∧ W.cell? ⟨g, o1 + k * 3 + 1, none⟩ = some (.int .i64 ys)) (exact HS.out _ (by first | assumption | exact (Below.refl _ _).drew | exact Below.refl _ _))
              (first
              | (go_at_call 28; refine (CK.out _).mono ?_; rintro e w5 ⟨rfl, b5⟩; have b5' : Below wr.heap.size wr w5 := bn (by first | assumption | exact (Below.refl _ _).drew | exact Below.refl _ _) b5; clear b5)
              | fail)
            have HB8 := Lib.hid (bn HB.out b5')
            clear b5' HS CK
            obtain ⟨W0, hW0⟩ : ∃ W0, W0 = w5 := ⟨_, rfl⟩
            rw [← hW0] at HB8
            obtain ⟨A1, N1, C1, hV1⟩ : ∃ A1 N1 C1, sliced (some ⟨g, o1, none⟩) 0 k cap 3 = .slice A1 N1 C1 := sliced_is ..
            obtain ⟨A3, N3, C3, hV3⟩ : ∃ A3 N3 C3, sliced (some ⟨g, o1, none⟩) k d.length cap 3 = .slice A3 N3 C3 := sliced_is ..
            have r1 : ∀ W, (Instr.sliceAt 30 (.slice (some ⟨g, o1, none⟩) d.length cap) none (some (.int .i64 (k : Int))) none).run Try.prog W = .ok (.slice A1 N1 C1) W := fun W => by
              rw [← hV1]
              exact pslice_run (some ⟨g, o1, none⟩) _ cap _ _ _ _ W (by simp [Instr.sliceBounds, run_sliceBound_if, show k ≤ cap by omega])
            have r3 : ∀ W, (Instr.sliceAt 30 (.slice (some ⟨g, o1, none⟩) d.length cap) (some (.int .i64 (k : Int))) none none).run Try.prog W = .ok (.slice A3 N3 C3) W := fun W => by
              rw [← hV3]
              exact pslice_run (some ⟨g, o1, none⟩) _ cap _ _ _ _ W (by simp [Instr.sliceBounds, run_sliceBound_if, hk])
            have HV1 : Hid (∀ W, Below W0.heap.size W0 W → PRd W (.slice A1 N1 C1) (d.take k)) := Lib.hid (fun W hb => by
              have h := (prd_sliced (HD.out.below (bn HB8.out hb)) 0 k (by omega) hk)
              rwa [hV1, List.drop_zero, Nat.sub_zero] at h)
            have HV3 : Hid (∀ W, Below W0.heap.size W0 W → PRd W (.slice A3 N3 C3) (d.drop k)) := Lib.hid (fun W hb => by
              have h := (prd_sliced (HD.out.below (bn HB8.out hb)) k d.length hk (Nat.le_refl _))
              rwa [hV3, List.take_of_length_le (by simp)] at h)
            have HC8 : Hid (∀ W, Below W0.heap.size W0 W → W.cell? ⟨w.heap.size, 0, none⟩ = some (.int .i64 o) ∧ W.cell? ⟨w.heap.size, 1, none⟩ = some (.int .i64 s) ∧ W.cell? ⟨w.heap.size, 2, none⟩ = some xa) := Lib.hid (fun W hb => ⟨(CB.out.below (bn HB8.out hb)).cell 0, (CB.out.below (bn HB8.out hb)).cell 1, (CB.out.below (bn HB8.out hb)).cell 2⟩)
            have HNX : Hid (∀ W, Below W0.heap.size W0 W → Nl W xa xn) := Lib.hid (fun W hb => HX.out.below (bn HB8.out hb))
            have HSZ := Lib.hid HB8.out.size
            clear hV1 hV3
            go_wp2_with fail
            rw [← hW0]
            clear hW0
            go_region_held3 (fun W => W.cell? ⟨w.heap.size, 0, none⟩ = some (.int .i64 o) ∧ W.cell? ⟨w.heap.size, 1, none⟩ = some (.int .i64 s) ∧ W.cell? ⟨w.heap.size, 2, none⟩ = some xa) (exact HC8.out _ (by first | assumption | exact Below.refl _ _ | exact (Below.refl _ _).drew | exact alloc_below _ _ | exact (alloc_below _ _).drew | exact ba.alloc ba.size _ | exact (ba.alloc ba.size _).drew))
              (first
              | (refine step_papp rfl _ _ rfl W0.heap.size vb (.slice A3 N3 C3) (d.take k ++ [⟨o, s, xa, xn⟩]) (d.drop k) rfl rfl (by exact hrb) (HV3.out _ (by exact bb)) (by simp; omega) (by exact bb.size) ?_; intro vc wc hrc hgc; have bc : Below W0.heap.size W0 wc := bb.trans (below_of_grown hgc bb.size (fun g hg => (World.ownsRow.lt hrb g hg).1)))
              | (refine step_papp rfl _ _ rfl W0.heap.size va (.slice (some ⟨W0.heap.size, 0, none⟩) 1 1) (d.take k) [⟨o, s, xa, xn⟩] rfl rfl (by exact hra) (by exact prd_one2 (x := ⟨o, s, xa, xn⟩) (HNX.out _ (by first | exact ba | exact ba.alloc ba.size _ | exact (ba.alloc ba.size _).drew)) ((hga.block W0.heap.size (by simp) (by intro h; cases h)).trans (Bx.new 37 W0 _))) (by simp; omega) (by exact ba.size) ?_; intro vb wb hrb hgb; have bb : Below W0.heap.size W0 wb := ba.trans (below_of_grown hgb ba.size (fun g hg => (World.ownsRow.lt hra g hg).1)))
              | (refine step_papp rfl _ _ rfl W0.heap.size va (.slice (some ⟨wa.heap.size, 0, none⟩) 1 1) (d.take k) [⟨o, s, xa, xn⟩] rfl rfl (by first | exact own_below hra (alloc_below _ _) | exact own_below hra (alloc_below _ _).drew) (by exact prd_one2 (x := ⟨o, s, xa, xn⟩) (HNX.out _ (by first | exact ba | exact ba.alloc ba.size _ | exact (ba.alloc ba.size _).drew)) (Bx.new 37 wa _)) (by simp; omega) (by first | exact (ba.alloc ba.size _).size | exact (ba.alloc ba.size _).drew.size) ?_; intro vb wb hrb hgb; have bb : Below W0.heap.size W0 wb := (ba.alloc ba.size _).trans (below_of_grown hgb (ba.alloc ba.size _).size (fun g hg => (World.ownsRow.lt hra g hg).1)))
              | (refine step_papp rfl _ _ rfl W0.heap.size (.slice none 0 0) (.slice A1 N1 C1) [] (d.take k) rfl rfl (World.ownsRow_nil _ _ _ _) (HV1.out _ (by first | assumption | exact Below.refl _ _ | exact (Below.refl _ _).drew | exact alloc_below _ _ | exact (alloc_below _ _).drew)) (by simp; omega) (by first | exact Nat.le_refl _ | (simp; done)) ?_; intro va wa hra hga; have ba : Below W0.heap.size W0 wa := bn (by first | assumption | exact Below.refl _ _ | exact (Below.refl _ _).drew | exact alloc_below _ _ | exact (alloc_below _ _).drew) (below_of_grown hga (Nat.le_refl _) (by intro g hg; cases hg)))
              | fail)
            all_goals
              go_wp2
              go_ret
              exact ⟨_, rfl, by rw [HI.out]; have h := own_mono hrc (Nat.le_trans HAL.out.size (Nat.le_trans HBD.out.size HSZ.out)); rwa [List.append_assoc] at h, bn HAL.out (bn HBD.out (HB8.out.trans (bc.mono HB8.out.size)))⟩
        · have HI : Hid (putV l ⟨o, s, xa, xn⟩ = d.take k ++ ⟨o, s, xa, xn⟩ :: d.drop k) := Lib.hid (by
            have h1 := twv_split (fun x => kLt (x.o, x.s) (o, s)) d k hk hs.out (fun h => absurd h hp)
            rw [HO.out]
            unfold insV
            simp only [h1.1, h1.2])
          have HS : Hid (∀ W, Below wr.heap.size wr W → W.cell? ⟨w.heap.size, 0, none⟩ = some (.int .i64 o) ∧ W.cell? ⟨w.heap.size, 1, none⟩ = some (.int .i64 s) ∧ W.cell? ⟨w.heap.size, 2, none⟩ = some xa) := Lib.hid (fun W hb => ⟨(CB.out.below (bn HB.out hb)).cell 0, (CB.out.below (bn HB.out hb)).cell 1, (CB.out.below (bn HB.out hb)).cell 2⟩)
          have hlk : decide ((k : Int) < (d.length : Int)) = false := by rw [decide_eq_false_iff_not]; omega
          go_wp2_with fail
          refine wp_region_held_drew (S := fun W => W.cell? ⟨w.heap.size, 0, none⟩ = some (.int .i64 o) ∧ W.cell? ⟨w.heap.size, 1, none⟩ = some (.int .i64 s) ∧ W.cell? ⟨w.heap.size, 2, none⟩ = some xa) (by kernel_rfl) (HS.out _ (Below.refl _ _).drew) (fun hHeld => ?_)
          refine take_ok (i := 0) (d := 19) (v := ?_) rfl rfl (by kernel_rfl) (by kernel_rfl) (by kernel_rfl) (fun _ _ _ h => h) (Or.inl ⟨by rfl, ?_⟩) (by assumption) ?_
          rotate_left
          · intro w9 hSw
            try dsimp only at hSw
            first | (go_simp; done) | (go_simp; with_reducible rfl)
          try simp only [Act.put, List.setIfInBounds_toArray, List.set_cons_zero, List.set_cons_succ]
          refine take_ok (i := 1) (d := 20) (v := ?_) rfl rfl (by kernel_rfl) (by kernel_rfl) (by kernel_rfl) (fun _ _ _ h => h) (Or.inl ⟨by rfl, ?_⟩) (by assumption) ?_
          rotate_left
          · intro w9 hSw
            try dsimp only at hSw
            first | (go_simp; done) | (go_simp; with_reducible rfl)
          try simp only [Act.put, List.setIfInBounds_toArray, List.set_cons_zero, List.set_cons_succ]
          refine take_ok (i := 2) (d := 21) (v := ?_) rfl rfl (by kernel_rfl) (by kernel_rfl) (by kernel_rfl) (fun _ _ _ h => h) (Or.inl ⟨by rfl, ?_⟩) (by assumption) ?_
          rotate_left
          · intro w9 hSw
            try dsimp only at hSw
            first | (go_simp; done) | (go_simp; with_reducible rfl)
          try simp only [Act.put, List.setIfInBounds_toArray, List.set_cons_zero, List.set_cons_succ]
          refine take_ok (i := 3) (d := 22) (v := ?_) rfl rfl (by kernel_rfl) (by kernel_rfl) (by kernel_rfl) (fun _ _ _ h => h) (Or.inl ⟨by rfl, ?_⟩) (by assumption) ?_
          rotate_left
          · intro w9 hSw
            try dsimp only at hSw
            first | (go_simp; done) | (go_simp; with_reducible rfl)
          try simp only [Act.put, List.setIfInBounds_toArray, List.set_cons_zero, List.set_cons_succ]
          refine take_ok (i := 4) (d := 23) (v := ?_) rfl rfl (by kernel_rfl) (by kernel_rfl) (by kernel_rfl) (fun _ _ _ h => h) (Or.inl ⟨by rfl, ?_⟩) (by assumption) ?_
          rotate_left
          · intro w9 hSw
            try dsimp only at hSw
            first | (go_simp; done) | (go_simp; with_reducible rfl)
          try simp only [Act.put, List.setIfInBounds_toArray, List.set_cons_zero, List.set_cons_succ]
          refine take_ok (i := 5) (d := 24) (v := undef) rfl rfl (by kernel_rfl) (by kernel_rfl) (by kernel_rfl) (fun _ _ _ h => h) (Or.inr ⟨by rfl, rfl⟩) (by assumption) ?_
          try simp only [Act.put, List.setIfInBounds_toArray, List.set_cons_zero, List.set_cons_succ]
          refine take_ok (i := 6) (d := 25) (v := undef) rfl rfl (by kernel_rfl) (by kernel_rfl) (by kernel_rfl) (fun _ _ _ h => h) (Or.inr ⟨by rfl, rfl⟩) (by assumption) ?_
          try simp only [Act.put, List.setIfInBounds_toArray, List.set_cons_zero, List.set_cons_succ]
          refine take_ok (i := 7) (d := 26) (v := undef) rfl rfl (by kernel_rfl) (by kernel_rfl) (by kernel_rfl) (fun _ _ _ h => h) (Or.inr ⟨by rfl, rfl⟩) (by assumption) ?_
          try simp only [Act.put, List.setIfInBounds_toArray, List.set_cons_zero, List.set_cons_succ]
          refine take_ok (i := 8) (d := 27) (v := undef) rfl rfl (by kernel_rfl) (by kernel_rfl) (by kernel_rfl) (fun _ _ _ h => h) (Or.inr ⟨by rfl, rfl⟩) (by assumption) ?_
          try simp only [Act.put, List.setIfInBounds_toArray, List.set_cons_zero, List.set_cons_succ]
          refine take_ok (i := 9) (d := 28) (v := undef) rfl rfl (by kernel_rfl) (by kernel_rfl) (by kernel_rfl) (fun _ _ _ h => h) (Or.inr ⟨by rfl, rfl⟩) (by assumption) ?_
          try simp only [Act.put, List.setIfInBounds_toArray, List.set_cons_zero, List.set_cons_succ]
          refine take_ok (i := 10) (d := 29) (v := undef) rfl rfl (by kernel_rfl) (by kernel_rfl) (by kernel_rfl) (fun _ _ _ h => h) (Or.inr ⟨by rfl, rfl⟩) (by assumption) ?_
          try simp only [Act.put, List.setIfInBounds_toArray, List.set_cons_zero, List.set_cons_succ]
          refine take_ok (i := 11) (d := 30) (v := undef) rfl rfl (by kernel_rfl) (by kernel_rfl) (by kernel_rfl) (fun _ _ _ h => h) (Or.inr ⟨by rfl, rfl⟩) (by assumption) ?_
          try simp only [Act.put, List.setIfInBounds_toArray, List.set_cons_zero, List.set_cons_succ]
          refine take_ok (i := 12) (d := 31) (v := undef) rfl rfl (by kernel_rfl) (by kernel_rfl) (by kernel_rfl) (fun _ _ _ h => h) (Or.inr ⟨by rfl, rfl⟩) (by assumption) ?_
          try simp only [Act.put, List.setIfInBounds_toArray, List.set_cons_zero, List.set_cons_succ]
          refine take_ok (i := 13) (d := 32) (v := ?_) rfl rfl (by kernel_rfl) (by kernel_rfl) (by kernel_rfl) (fun _ _ _ h => h) (Or.inl ⟨by rfl, ?_⟩) (by assumption) ?_
          rotate_left
          · intro w9 hSw
            try dsimp only at hSw
            first | (go_simp; done) | (go_simp; with_reducible rfl)
          try simp only [Act.put, List.setIfInBounds_toArray, List.set_cons_zero, List.set_cons_succ]
          refine wpAnyH_done (by kernel_rfl) ?_ _
          clear hHeld
          have HB8 : Hid (Below wd.heap.size wd wr.drew) := Lib.hid HB.out.drew
          obtain ⟨W0, hW0⟩ : ∃ W0, W0 = wr.drew := ⟨_, rfl⟩
          rw [← hW0] at HB8
          obtain ⟨A1, N1, C1, hV1⟩ : ∃ A1 N1 C1, sliced ad 0 k cap 3 = .slice A1 N1 C1 := sliced_is ..
          obtain ⟨A3, N3, C3, hV3⟩ : ∃ A3 N3 C3, sliced ad k d.length cap 3 = .slice A3 N3 C3 := sliced_is ..
          have r1 : ∀ W, (Instr.sliceAt 30 (.slice ad d.length cap) none (some (.int .i64 (k : Int))) none).run Try.prog W = .ok (.slice A1 N1 C1) W := fun W => by
            rw [← hV1]
            exact pslice_run ad _ cap _ _ _ _ W (by simp [Instr.sliceBounds, run_sliceBound_if, show k ≤ cap by omega])
          have r3 : ∀ W, (Instr.sliceAt 30 (.slice ad d.length cap) (some (.int .i64 (k : Int))) none none).run Try.prog W = .ok (.slice A3 N3 C3) W := fun W => by
            rw [← hV3]
            exact pslice_run ad _ cap _ _ _ _ W (by simp [Instr.sliceBounds, run_sliceBound_if, hk])
          have HV1 : Hid (∀ W, Below W0.heap.size W0 W → PRd W (.slice A1 N1 C1) (d.take k)) := Lib.hid (fun W hb => by
            have h := (prd_sliced (HD.out.below (bn HB8.out hb)) 0 k (by omega) hk)
            rwa [hV1, List.drop_zero, Nat.sub_zero] at h)
          have HV3 : Hid (∀ W, Below W0.heap.size W0 W → PRd W (.slice A3 N3 C3) (d.drop k)) := Lib.hid (fun W hb => by
            have h := (prd_sliced (HD.out.below (bn HB8.out hb)) k d.length hk (Nat.le_refl _))
            rwa [hV3, List.take_of_length_le (by simp)] at h)
          have HC8 : Hid (∀ W, Below W0.heap.size W0 W → W.cell? ⟨w.heap.size, 0, none⟩ = some (.int .i64 o) ∧ W.cell? ⟨w.heap.size, 1, none⟩ = some (.int .i64 s) ∧ W.cell? ⟨w.heap.size, 2, none⟩ = some xa) := Lib.hid (fun W hb => ⟨(CB.out.below (bn HB8.out hb)).cell 0, (CB.out.below (bn HB8.out hb)).cell 1, (CB.out.below (bn HB8.out hb)).cell 2⟩)
          have HNX : Hid (∀ W, Below W0.heap.size W0 W → Nl W xa xn) := Lib.hid (fun W hb => HX.out.below (bn HB8.out hb))
          have HSZ := Lib.hid HB8.out.size
          clear hV1 hV3
          go_wp2_with fail
          rw [← hW0]
          clear hW0
          go_region_held3 (fun W => W.cell? ⟨w.heap.size, 0, none⟩ = some (.int .i64 o) ∧ W.cell? ⟨w.heap.size, 1, none⟩ = some (.int .i64 s) ∧ W.cell? ⟨w.heap.size, 2, none⟩ = some xa) (exact HC8.out _ (by first | assumption | exact Below.refl _ _ | exact (Below.refl _ _).drew | exact alloc_below _ _ | exact (alloc_below _ _).drew | exact ba.alloc ba.size _ | exact (ba.alloc ba.size _).drew))
            (first
            | (refine step_papp rfl _ _ rfl W0.heap.size vb (.slice A3 N3 C3) (d.take k ++ [⟨o, s, xa, xn⟩]) (d.drop k) rfl rfl (by exact hrb) (HV3.out _ (by exact bb)) (by simp; omega) (by exact bb.size) ?_; intro vc wc hrc hgc; have bc : Below W0.heap.size W0 wc := bb.trans (below_of_grown hgc bb.size (fun g hg => (World.ownsRow.lt hrb g hg).1)))
            | (refine step_papp rfl _ _ rfl W0.heap.size va (.slice (some ⟨W0.heap.size, 0, none⟩) 1 1) (d.take k) [⟨o, s, xa, xn⟩] rfl rfl (by exact hra) (by exact prd_one2 (x := ⟨o, s, xa, xn⟩) (HNX.out _ (by first | exact ba | exact ba.alloc ba.size _ | exact (ba.alloc ba.size _).drew)) ((hga.block W0.heap.size (by simp) (by intro h; cases h)).trans (Bx.new 37 W0 _))) (by simp; omega) (by exact ba.size) ?_; intro vb wb hrb hgb; have bb : Below W0.heap.size W0 wb := ba.trans (below_of_grown hgb ba.size (fun g hg => (World.ownsRow.lt hra g hg).1)))
            | (refine step_papp rfl _ _ rfl W0.heap.size va (.slice (some ⟨wa.heap.size, 0, none⟩) 1 1) (d.take k) [⟨o, s, xa, xn⟩] rfl rfl (by first | exact own_below hra (alloc_below _ _) | exact own_below hra (alloc_below _ _).drew) (by exact prd_one2 (x := ⟨o, s, xa, xn⟩) (HNX.out _ (by first | exact ba | exact ba.alloc ba.size _ | exact (ba.alloc ba.size _).drew)) (Bx.new 37 wa _)) (by simp; omega) (by first | exact (ba.alloc ba.size _).size | exact (ba.alloc ba.size _).drew.size) ?_; intro vb wb hrb hgb; have bb : Below W0.heap.size W0 wb := (ba.alloc ba.size _).trans (below_of_grown hgb (ba.alloc ba.size _).size (fun g hg => (World.ownsRow.lt hra g hg).1)))
            | (refine step_papp rfl _ _ rfl W0.heap.size (.slice none 0 0) (.slice A1 N1 C1) [] (d.take k) rfl rfl (World.ownsRow_nil _ _ _ _) (HV1.out _ (by first | assumption | exact Below.refl _ _ | exact (Below.refl _ _).drew | exact alloc_below _ _ | exact (alloc_below _ _).drew)) (by simp; omega) (by first | exact Nat.le_refl _ | (simp; done)) ?_; intro va wa hra hga; have ba : Below W0.heap.size W0 wa := bn (by first | assumption | exact Below.refl _ _ | exact (Below.refl _ _).drew | exact alloc_below _ _ | exact (alloc_below _ _).drew) (below_of_grown hga (Nat.le_refl _) (by intro g hg; cases hg)))
            | fail)
          all_goals
            go_wp2
            go_ret
            exact ⟨_, rfl, by rw [HI.out]; have h := own_mono hrc (Nat.le_trans HAL.out.size (Nat.le_trans HBD.out.size HSZ.out)); rwa [List.append_assoc] at h, bn HAL.out (bn HBD.out (HB8.out.trans (bc.mono HB8.out.size)))⟩
end Go.Proofs.Ytgdajnjfkokmdaa
