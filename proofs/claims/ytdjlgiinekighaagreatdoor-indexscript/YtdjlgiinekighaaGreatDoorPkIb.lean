/-
  Put of chapter 10's own answer, by contract.
-/
import Derived.Test.YtdjlgiinekighaaGreatDoorPkIp
import Derived.Test.YtdjlgiinekighaaGreatDoorPkIa
import Derived.Test.YtdjlgiinekighaaGreatDoorPkIt
namespace Go.Proofs.YtdjlgiinekighaaGreatDoor.P
open Go.RowKit Go.Lib
set_option maxRecDepth 100000

/-- A piece of a list of Posts holds the piece of them. -/
theorem prd_sliced {w : World} {ad : Option Addr} {cap : Nat} {l : List Pv} (h : PRd w (.slice ad l.length cap) l) (lo hi : Nat) (hlh : lo ≤ hi) (hhi : hi ≤ l.length) : PRd w (sliced ad lo hi cap 3) ((l.drop lo).take (hi - lo)) := by
  have hlen : ((l.drop lo).take (hi - lo)).length = hi - lo := by simp; omega
  obtain ⟨ad', cap', e, hcap, h2⟩ := h
  simp only [Value.slice.injEq, true_and] at e
  obtain ⟨rfl, rfl⟩ := e
  refine ⟨if cap = lo then ad else ad.map fun a => a.add (lo * 3), cap - lo, ?_, by rw [hlen]; omega, fun h0 => ?_⟩
  · rw [hlen]
    unfold sliced
    cases ad with
    | none => simp
    | some a =>
      by_cases h0 : cap = lo
      · simp [h0]
      · simp [h0]
  · rw [hlen] at h0
    obtain ⟨b, o, rfl, hs⟩ := h2 (by omega)
    have hne : ¬ cap = lo := by omega
    rw [if_neg hne]
    refine ⟨b, o + lo * 3, by simp only [Option.map_some]; rw [Go.WideShapes.add_plain], fun k hk => ?_⟩
    rw [hlen] at hk
    have h3 := hs (lo + k) (by omega)
    rw [List.getElem_take, List.getElem_drop, show o + lo * 3 + k * 3 = o + (lo + k) * 3 by omega]
    exact h3
theorem pslice_run (ad : Option Addr) (n cap : Nat) (lo hi : Option Value) (l h : Nat) (W : World) (hb : (Instr.sliceBounds true n cap lo hi none).run Tryz.prog W = .ok (l, h, cap) W) : (Instr.sliceAt 42 (.slice ad n cap) lo hi none).run Tryz.prog W = .ok (sliced ad l h cap 3) W := by
  have hs : (sizeOf 66).run Tryz.prog W = .ok 3 W := by
    have := Tryz.sizeOf66
    simp [sizeOf]
    rfl
  rw [run_sliceAt_slice W _ _ _ _ _ Tryz.underlying42, run_slice_any W _ _ _ _ Tryz.underlying42, hb]
  simp only [Result.andThen]
  rw [show Tryz.prog.elem 42 = 66 by kernel_rfl, hs]
theorem step_papp {w : World} {ops : Array Oper} {o : Oper} {a : Act} {K : Act → World → Prop} {Q : Exit → Act → World → Prop} {E : Prop} (hgd : o.guard = none) (s x : Operand)
    (ho : o.op = .call { callee := .builtin .append, args := #[s, x], argTypes := #[42, 42] })
    (B : Nat) (v u : Value) (m l : List Pv) (hs : a.eval s = v) (hx : a.eval x = u) (hv : PRow w B v m) (hu : PRd w u l) (hn : m.length + l.length ≤ 1000000) (hB : B ≤ w.heap.size)
    (h : ∀ v' w', PRow w' B v' (m ++ l) → w.grownBy w' v.ownBlock → K (a.put o.dst v') w') :
    if Region.wanted o (yielded ops a.tmps) = true then Oper.wp Tryz.prog o a w K Q else E := by
  have hw : Region.wanted o (yielded ops a.tmps) = true := by simp [Region.wanted, hgd]
  rw [if_pos hw]
  obtain ⟨A, C, w', hr, h2, h3, _⟩ := papp_run m l v u w o.type B hv hu hn hB
  unfold Oper.wp execOp
  simp only [ho, resolve, invoke, builtin, Sem.run_bind, Sem.run_pure, Result.andThen_ok, List.map_toArray, List.map_cons, List.map_nil, hs, hx, hr]
  exact h _ w' h2 h3
theorem prd_one2 {w : World} {B : Nat} {x : Pv} (hn : Nl w x.a x.ns) (h : Bx 66 w B #[.int .i64 x.o, .int .i64 x.s, x.a]) : PRd w (.slice (some ⟨B, 0, none⟩) 1 1) [x] := prd_one h hn
def insV (l : List Pv) (x : Pv) : List Pv := l.takeWhile (fun y => kLt (y.o, y.s) (x.o, x.s)) ++ x :: l.dropWhile fun y => kLt (y.o, y.s) (x.o, x.s)
theorem insV_ps : ∀ (l : List Pv) (x : Pv), ps (insV l x) = insP (ps l) x.p
  | [], x => rfl
  | y :: l, x => by
    have ih := insV_ps l x
    show ps (insV (y :: l) x) = insP (y.p :: ps l) x.p
    rw [insP_cons]
    cases h : kLt (y.o, y.s) (x.o, x.s) with
    | true =>
      have e1 : insV (y :: l) x = y :: insV l x := by simp [insV, h]
      have e2 : kLt y.p.k x.p.k = true := h
      rw [e1, if_pos e2]
      show y.p :: ps (insV l x) = _
      rw [ih]
    | false =>
      have e1 : insV (y :: l) x = x :: y :: l := by simp [insV, h]
      have e2 : kLt y.p.k x.p.k = false := h
      rw [e1, e2]
      rfl
def putV (l : List Pv) (x : Pv) : List Pv := if mayL (ps l) then (if oneB x.ns then insV (dropV l x.o x.s) x else l) else []
theorem putV_ps (l : List Pv) (x : Pv) : ps (putV l x) = putP (ps l) x.p := by
  unfold putV putP
  split
  · rw [Pv.p_ns]
    split
    · rw [insV_ps, dropV_ps]
      rfl
    · rfl
  · rfl
theorem twv_split (f : Pv → Bool) : ∀ (l : List Pv) (i : Nat), i ≤ l.length → (∀ t (ht : t < l.length), t < i → f l[t] = true) → (∀ h : i < l.length, f l[i] = false) → l.takeWhile f = l.take i ∧ l.dropWhile f = l.drop i
  | [], i, hi, _, _ => by simp
  | a :: l, 0, _, _, h => by
    have := h (by simp)
    simp only [List.getElem_cons_zero] at this
    simp [this]
  | a :: l, i + 1, hi, h1, h2 => by
    have h0 := h1 0 (by simp) (by omega)
    simp only [List.getElem_cons_zero] at h0
    have ih := twv_split f l i (by simpa using hi) (fun t ht hti => h1 (t + 1) (by simpa using ht) (by omega)) (fun h => h2 (by simpa using h))
    simp [h0, ih]
theorem dropV_sub (l : List Pv) (o s : Int) : ∀ x ∈ dropV l o s, x ∈ l := fun x hx => by
  unfold dropV at hx
  split at hx
  · exact (List.mem_filter.1 hx).1
  · cases hx
theorem dropV_len (l : List Pv) (o s : Int) : (dropV l o s).length ≤ l.length := by
  unfold dropV
  split
  · exact List.length_filter_le _ _
  · simp
set_option maxHeartbeats 16000000 in
theorem put_c (l : List Pv) (o s : Int) (xa : Value) (xn : List Int) (v : Value) (w : World) (h : PRd w v l) (hx : Nl w xa xn) (hn : l.length ≤ 10000) (hm : ∀ x ∈ l, x.ns.length ≤ 1000000) (hxn : xn.length ≤ 1000000) :
    Calls Tryz.prog 38 #[v, .agg #[.int .i64 o, .int .i64 s, xa]] w (postsT (putV l ⟨o, s, xa, xn⟩) w) := by
  have HP := Lib.hid h
  obtain ⟨ad0, cap0, rfl, _, _⟩ := h
  obtain ⟨adx, capx, rfl, _⟩ := id hx.form
  have hal := alloc_below w (.cells #[.int .i64 o, .int .i64 s, .slice adx xn.length capx] 66)
  have bx := Bx.new 66 w #[.int .i64 o, .int .i64 s, .slice adx xn.length capx]
  obtain ⟨w1, hw1⟩ : ∃ w1, w1 = w.alloc (.cells #[.int .i64 o, .int .i64 s, .slice adx xn.length capx] 66) := ⟨_, rfl⟩
  rw [← hw1] at hal bx
  have CM := Lib.hid (may_c l _ w1 (HP.out.below hal) (by omega) hm)
  have CB := Lib.hid bx
  have HAL := Lib.hid hal
  have HW := Lib.hid hw1
  have HPP := Lib.hid (HP.out.below hal)
  have HX := Lib.hid (hx.below hal)
  have HM := Lib.hid hm
  have CO : Hid (∀ W, Below w1.heap.size w1 W → Calls Tryz.prog 50 #[.agg #[.int .i64 o, .int .i64 s, .slice adx xn.length capx]] W fun e w' => e = .returned (.bool (oneB xn)) ∧ Below W.heap.size W w') := Lib.hid (fun W hW => one_c ⟨o, s, .slice adx xn.length capx, xn⟩ W (HX.out.below hW) hxn)
  obtain ⟨xa, hxa⟩ : ∃ xa : Value, xa = .slice adx xn.length capx := ⟨_, rfl⟩
  rw [← hxa] at CB HX CO HW ⊢
  clear hm hal bx hw1 hx hxa HP
  cases h1 : mayL (ps l) with
  | false =>
    rw [h1] at CM
    have HO : Hid (putV l ⟨o, s, xa, xn⟩ = []) := Lib.hid (by unfold putV; rw [h1]; rfl)
    clear h1
    go_enter Tryz.func38, Tryz.ntmps38
    go_wp2_with fail
    rw [← HW.out]
    refine CM.out.mono ?_
    rintro e w2 ⟨rfl, b2⟩
    have HB2 := Lib.hid (bn HAL.out b2)
    clear b2 CM
    go_wp2
    go_ret
    exact ⟨_, rfl, by rw [HO.out]; exact PRow.nil _ _, HB2.out⟩
  | true =>
    rw [h1] at CM
    cases h2 : oneB xn with
    | false =>
      rw [h2] at CO
      have HO : Hid (putV l ⟨o, s, xa, xn⟩ = l) := Lib.hid (by unfold putV; rw [if_pos h1]; simp only [h2]; rfl)
      clear h1 h2
      go_enter Tryz.func38, Tryz.ntmps38
      go_wp2_with fail
      rw [← HW.out]
      refine CM.out.mono ?_
      rintro e w2 ⟨rfl, b2⟩
      have cb := CB.out.below b2
      have c0 := cb.cell 0
      have c1 := cb.cell 1
      have c2 := cb.cell 2
      simp only [List.getElem?_toArray, List.getElem?_cons_succ, List.getElem?_cons_zero] at c0 c1 c2
      have hgl := cb.lt
      have CO2 := Lib.hid (CO.out w2 b2)
      have HB2 := Lib.hid b2
      clear b2 CM cb
      go_wp2_with fail
      refine CO2.out.mono ?_
      rintro e w3 ⟨rfl, b3⟩
      have HB3 := Lib.hid (bn HB2.out b3)
      obtain ⟨A, C, w4, run4, r4, g4, _⟩ := papp_run [] l (.slice none 0 0) _ w3 42 w3.heap.size (PRow.nil _ _) (HPP.out.below HB3.out) (by simp; omega) (Nat.le_refl _)
      rw [List.nil_append] at run4 r4
      have HR4 := Lib.hid run4
      have HK4 := Lib.hid r4
      have HB4 := Lib.hid (bn HB3.out (below_of_grown g4 (Nat.le_refl _) (fun g hg => by cases hg)))
      have HS3 := Lib.hid HB3.out.size
      clear b3 run4 r4 g4 c0 c1 c2 hgl CO2
      go_wp2_with (at_builtin; refine wpList_append_run rfl _ _ 42 rfl _ _ HR4.out ?_; clear HR4)
      go_ret
      exact ⟨_, rfl, by rw [HO.out]; exact own_mono HK4.out (Nat.le_trans HAL.out.size HS3.out), bn HAL.out HB4.out⟩
    | true =>
      rw [h2] at CO
      obtain ⟨d, hd⟩ : ∃ d, d = dropV l o s := ⟨_, rfl⟩
      have HO : Hid (putV l ⟨o, s, xa, xn⟩ = insV d ⟨o, s, xa, xn⟩) := Lib.hid (by unfold putV; rw [if_pos h1]; simp only [h2, if_true, hd])
      have HDL : Hid (d.length ≤ 10000) := Lib.hid (by have := dropV_len l o s; rw [hd]; omega)
      have HDN : Hid (∀ x ∈ d, x ∈ l) := Lib.hid (by rw [hd]; exact dropV_sub l o s)
      have CD : Hid (∀ W, Below w1.heap.size w1 W → Calls Tryz.prog 61 #[.slice ad0 l.length cap0, .agg #[.int .i64 o, .int .i64 s]] W (postsT d W)) := Lib.hid (fun W hW => by rw [hd]; exact drop_c l o s _ W (HPP.out.below hW) hn HM.out)
      clear h1 h2 hd
      go_enter Tryz.func38, Tryz.ntmps38
      go_wp2_with fail
      rw [← HW.out]
      refine CM.out.mono ?_
      rintro e w2 ⟨rfl, b2⟩
      have cb := CB.out.below b2
      have c0 := cb.cell 0
      have c1 := cb.cell 1
      have c2 := cb.cell 2
      simp only [List.getElem?_toArray, List.getElem?_cons_succ, List.getElem?_cons_zero] at c0 c1 c2
      have hgl := cb.lt
      have CO2 := Lib.hid (CO.out w2 b2)
      have HB2 := Lib.hid b2
      clear b2 CM cb
      go_wp2_with fail
      refine CO2.out.mono ?_
      rintro e w3 ⟨rfl, b3⟩
      have HB3 := Lib.hid (bn HB2.out b3)
      clear c0 c1 c2 hgl b3 CO2
      have cb := CB.out.below HB3.out
      have c0 := cb.cell 0
      have c1 := cb.cell 1
      simp only [List.getElem?_toArray, List.getElem?_cons_succ, List.getElem?_cons_zero] at c0 c1
      have hgl := cb.lt
      have CD2 := Lib.hid (CD.out w3 HB3.out)
      clear cb CD
      go_wp2_with fail
      refine CD2.out.mono ?_
      rintro e wd ⟨vd, rfl, rd, bd⟩
      have HBD := Lib.hid (bn HB3.out bd)
      have HD := Lib.hid (rd.rd (fun x hx => (HPP.out.nls x (HDN.out x hx)).below HBD.out))
      obtain ⟨ad, cap, rfl, hcap⟩ := own_form rd
      have hdl := HDL.out
      have CB := Lib.hid (CB.out.below HBD.out)
      have HX := Lib.hid (HX.out.below HBD.out)
      clear c0 c1 hgl rd bd CD2
      go_wp2
      go_loopw [6] (fun v6 wr => ∃ k : Nat, k ≤ d.length ∧ v6 = .int .i64 (k : Int) ∧ Hid (Below wd.heap.size wd wr) ∧ Hid (∀ t (ht : t < d.length), t < k → kLt (d[t].o, d[t].s) (o, s) = true)) (fun v6 _ => d.length - (intOf v6).toNat)
      case atStart => exact ⟨0, by omega, rfl, Lib.hid (Below.refl _ _), Lib.hid (fun t _ ht => by omega)⟩
      case round =>
        obtain ⟨k, hk, rfl, HB, hs⟩ := hrel
        have hgl := (CB.out.below HB.out).lt
        by_cases hp : k < d.length
        · obtain ⟨ad', cap', e1, _, c3⟩ := HD.out.below HB.out
          simp only [Value.slice.injEq, true_and] at e1
          obtain ⟨rfl, rfl⟩ := e1
          obtain ⟨g, o1, rfl, c1⟩ := c3 (by omega)
          have a1 := c1 k hp
          have HP := Lib.hid hp
          have HT : Hid (∀ y, d[k] = y → kLt (y.o, y.s) (o, s) = true → ∀ t (ht : t < d.length), t < k + 1 → kLt (d[t].o, d[t].s) (o, s) = true) := Lib.hid (fun y hy h t ht htk => by
            subst hy
            rcases Nat.lt_or_ge t k with h1 | h1
            · exact hs.out t ht h1
            · obtain rfl : t = k := by omega
              exact h)
          have HF : Hid (∀ y, d[k] = y → kLt (y.o, y.s) (o, s) = false → insV d ⟨o, s, xa, xn⟩ = d.take k ++ ⟨o, s, xa, xn⟩ :: d.drop k) := Lib.hid (fun y hy h => by
            subst hy
            have h1 := twv_split (fun x => kLt (x.o, x.s) (o, s)) d k hk hs.out (fun _ => h)
            unfold insV
            simp only [h1.1, h1.2])
          generalize hy : d[k] = y at a1
          have HF1 := Lib.hid (HF.out _ hy)
          have HT1 := Lib.hid (HT.out _ hy)
          obtain ⟨yo, ys, ya, yn⟩ := y
          have HS : Hid (∀ W, Below wr.heap.size wr W → W.cell? ⟨w.heap.size, 0, none⟩ = some (.int .i64 o) ∧ W.cell? ⟨w.heap.size, 1, none⟩ = some (.int .i64 s) ∧ W.cell? ⟨g, o1 + k * 3, none⟩ = some (.int .i64 yo) ∧ W.cell? ⟨g, o1 + k * 3 + 1, none⟩ = some (.int .i64 ys)) := Lib.hid (fun W hb => ⟨(CB.out.below (bn HB.out hb)).cell 0, (CB.out.below (bn HB.out hb)).cell 1, (a1.below hb).c0, (a1.below hb).c1⟩)
          have CK := Lib.hid (fun W => refbefore_c yo ys o s W)
          have hgl1 := World.block_lt_of_cell? _ _ a1.c0
          clear c3 c1 a1 hy HF HT
          cases hL : kLt (yo, ys) (o, s) with
          | true =>
            rw [hL] at CK
            have HT2 := Lib.hid (HT1.out hL)
            clear hL HT1 HF1
            go_wp2_with fail
            go_region_held3 (fun W => W.cell? ⟨w.heap.size, 0, none⟩ = some (.int .i64 o) ∧ W.cell? ⟨w.heap.size, 1, none⟩ = some (.int .i64 s) ∧ W.cell? ⟨g, o1 + k * 3, none⟩ = some (.int .i64 yo) ∧ W.cell? ⟨g, o1 + k * 3 + 1, none⟩ = some (.int .i64 ys)) (exact HS.out _ (by first | assumption | exact (Below.refl _ _).drew | exact Below.refl _ _))
              (first
              | (go_at_call 40; refine (CK.out _).mono ?_; rintro e w5 ⟨rfl, b5⟩; have b5' : Below wr.heap.size wr w5 := bn (by first | assumption | exact (Below.refl _ _).drew | exact Below.refl _ _) b5; clear b5)
              | fail)
            have HB5 := Lib.hid (bn HB.out b5')
            clear b5' HS CK
            go_wp2
            go_roundw
            case rel => exact ⟨k + 1, HP.out, by go_num, HB5, HT2⟩
            case measure => have := HP.out; simp [intOf]; omega
          | false =>
            rw [hL] at CK
            have HI : Hid (putV l ⟨o, s, xa, xn⟩ = d.take k ++ ⟨o, s, xa, xn⟩ :: d.drop k) := Lib.hid (by rw [HO.out]; exact HF1.out hL)
            clear hL HT1 HF1
            go_wp2_with fail
            go_region_held3 (fun W => W.cell? ⟨w.heap.size, 0, none⟩ = some (.int .i64 o) ∧ W.cell? ⟨w.heap.size, 1, none⟩ = some (.int .i64 s) ∧ W.cell? ⟨g, o1 + k * 3, none⟩ = some (.int .i64 yo) ∧ W.cell? ⟨g, o1 + k * 3 + 1, none⟩ = some (.int .i64 ys)) (exact HS.out _ (by first | assumption | exact (Below.refl _ _).drew | exact Below.refl _ _))
              (first
              | (go_at_call 40; refine (CK.out _).mono ?_; rintro e w5 ⟨rfl, b5⟩; have b5' : Below wr.heap.size wr w5 := bn (by first | assumption | exact (Below.refl _ _).drew | exact Below.refl _ _) b5; clear b5)
              | fail)
            have HB8 := Lib.hid (bn HB.out b5')
            clear b5' HS CK
            obtain ⟨W0, hW0⟩ : ∃ W0, W0 = w5 := ⟨_, rfl⟩
            rw [← hW0] at HB8
            obtain ⟨A1, N1, C1, hV1⟩ : ∃ A1 N1 C1, sliced (some ⟨g, o1, none⟩) 0 k cap 3 = .slice A1 N1 C1 := sliced_is ..
            obtain ⟨A3, N3, C3, hV3⟩ : ∃ A3 N3 C3, sliced (some ⟨g, o1, none⟩) k d.length cap 3 = .slice A3 N3 C3 := sliced_is ..
            have r1 : ∀ W, (Instr.sliceAt 42 (.slice (some ⟨g, o1, none⟩) d.length cap) none (some (.int .i64 (k : Int))) none).run Tryz.prog W = .ok (.slice A1 N1 C1) W := fun W => by
              rw [← hV1]
              exact pslice_run (some ⟨g, o1, none⟩) _ cap _ _ _ _ W (by simp [Instr.sliceBounds, run_sliceBound_if, show k ≤ cap by omega])
            have r3 : ∀ W, (Instr.sliceAt 42 (.slice (some ⟨g, o1, none⟩) d.length cap) (some (.int .i64 (k : Int))) none none).run Tryz.prog W = .ok (.slice A3 N3 C3) W := fun W => by
              rw [← hV3]
              exact pslice_run (some ⟨g, o1, none⟩) _ cap _ _ _ _ W (by simp [Instr.sliceBounds, run_sliceBound_if, hk])
            have HV1 : Hid (∀ W, Below W0.heap.size W0 W → PRd W (.slice A1 N1 C1) (d.take k)) := Lib.hid (fun W hb => by
              have h := (prd_sliced (HD.out.below (bn HB8.out hb)) 0 k (by omega) hk)
              rwa [hV1, List.drop_zero, Nat.sub_zero] at h)
            have HV3 : Hid (∀ W, Below W0.heap.size W0 W → PRd W (.slice A3 N3 C3) (d.drop k)) := Lib.hid (fun W hb => by
              have h := (prd_sliced (HD.out.below (bn HB8.out hb)) k d.length hk (Nat.le_refl _))
              rwa [hV3, List.take_of_length_le (by simp)] at h)
            have HC8 : Hid (∀ W, Below W0.heap.size W0 W → W.cell? ⟨w.heap.size, 0, none⟩ = some (.int .i64 o) ∧ W.cell? ⟨w.heap.size, 1, none⟩ = some (.int .i64 s) ∧ W.cell? ⟨w.heap.size, 2, none⟩ = some xa) := Lib.hid (fun W hb => ⟨(CB.out.below (bn HB8.out hb)).cell 0, (CB.out.below (bn HB8.out hb)).cell 1, (CB.out.below (bn HB8.out hb)).cell 2⟩)
            have HNX : Hid (∀ W, Below W0.heap.size W0 W → Nl W xa xn) := Lib.hid (fun W hb => HX.out.below (bn HB8.out hb))
            have HSZ := Lib.hid HB8.out.size
            clear hV1 hV3
            go_wp2_with fail
            rw [← hW0]
            clear hW0
            go_region_held3 (fun W => W.cell? ⟨w.heap.size, 0, none⟩ = some (.int .i64 o) ∧ W.cell? ⟨w.heap.size, 1, none⟩ = some (.int .i64 s) ∧ W.cell? ⟨w.heap.size, 2, none⟩ = some xa) (exact HC8.out _ (by first | assumption | exact Below.refl _ _ | exact (Below.refl _ _).drew | exact alloc_below _ _ | exact (alloc_below _ _).drew | exact ba.alloc ba.size _ | exact (ba.alloc ba.size _).drew))
              (first
              | (refine step_papp rfl _ _ rfl W0.heap.size vb (.slice A3 N3 C3) (d.take k ++ [⟨o, s, xa, xn⟩]) (d.drop k) rfl rfl (by exact hrb) (HV3.out _ (by exact bb)) (by simp; omega) (by exact bb.size) ?_; intro vc wc hrc hgc; have bc : Below W0.heap.size W0 wc := bb.trans (below_of_grown hgc bb.size (fun g hg => (World.ownsRow.lt hrb g hg).1)))
              | (refine step_papp rfl _ _ rfl W0.heap.size va (.slice (some ⟨W0.heap.size, 0, none⟩) 1 1) (d.take k) [⟨o, s, xa, xn⟩] rfl rfl (by exact hra) (by exact prd_one2 (x := ⟨o, s, xa, xn⟩) (HNX.out _ (by first | exact ba | exact ba.alloc ba.size _ | exact (ba.alloc ba.size _).drew)) ((hga.block W0.heap.size (by simp) (by intro h; cases h)).trans (Bx.new 66 W0 _))) (by simp; omega) (by exact ba.size) ?_; intro vb wb hrb hgb; have bb : Below W0.heap.size W0 wb := ba.trans (below_of_grown hgb ba.size (fun g hg => (World.ownsRow.lt hra g hg).1)))
              | (refine step_papp rfl _ _ rfl W0.heap.size va (.slice (some ⟨wa.heap.size, 0, none⟩) 1 1) (d.take k) [⟨o, s, xa, xn⟩] rfl rfl (by first | exact own_below hra (alloc_below _ _) | exact own_below hra (alloc_below _ _).drew) (by exact prd_one2 (x := ⟨o, s, xa, xn⟩) (HNX.out _ (by first | exact ba | exact ba.alloc ba.size _ | exact (ba.alloc ba.size _).drew)) (Bx.new 66 wa _)) (by simp; omega) (by first | exact (ba.alloc ba.size _).size | exact (ba.alloc ba.size _).drew.size) ?_; intro vb wb hrb hgb; have bb : Below W0.heap.size W0 wb := (ba.alloc ba.size _).trans (below_of_grown hgb (ba.alloc ba.size _).size (fun g hg => (World.ownsRow.lt hra g hg).1)))
              | (refine step_papp rfl _ _ rfl W0.heap.size (.slice none 0 0) (.slice A1 N1 C1) [] (d.take k) rfl rfl (World.ownsRow_nil _ _ _ _) (HV1.out _ (by first | assumption | exact Below.refl _ _ | exact (Below.refl _ _).drew | exact alloc_below _ _ | exact (alloc_below _ _).drew)) (by simp; omega) (by first | exact Nat.le_refl _ | (simp; done)) ?_; intro va wa hra hga; have ba : Below W0.heap.size W0 wa := bn (by first | assumption | exact Below.refl _ _ | exact (Below.refl _ _).drew | exact alloc_below _ _ | exact (alloc_below _ _).drew) (below_of_grown hga (Nat.le_refl _) (by intro g hg; cases hg)))
              | fail)
            all_goals
              go_wp2
              go_ret
              exact ⟨_, rfl, by rw [HI.out]; have h := own_mono hrc (Nat.le_trans HAL.out.size (Nat.le_trans HBD.out.size HSZ.out)); rwa [List.append_assoc] at h, bn HAL.out (bn HBD.out (HB8.out.trans (bc.mono HB8.out.size)))⟩
        · have HI : Hid (putV l ⟨o, s, xa, xn⟩ = d.take k ++ ⟨o, s, xa, xn⟩ :: d.drop k) := Lib.hid (by
            have h1 := twv_split (fun x => kLt (x.o, x.s) (o, s)) d k hk hs.out (fun h => absurd h hp)
            rw [HO.out]
            unfold insV
            simp only [h1.1, h1.2])
          have HS : Hid (∀ W, Below wr.heap.size wr W → W.cell? ⟨w.heap.size, 0, none⟩ = some (.int .i64 o) ∧ W.cell? ⟨w.heap.size, 1, none⟩ = some (.int .i64 s) ∧ W.cell? ⟨w.heap.size, 2, none⟩ = some xa) := Lib.hid (fun W hb => ⟨(CB.out.below (bn HB.out hb)).cell 0, (CB.out.below (bn HB.out hb)).cell 1, (CB.out.below (bn HB.out hb)).cell 2⟩)
          have hlk : decide ((k : Int) < (d.length : Int)) = false := by rw [decide_eq_false_iff_not]; omega
          go_wp2_with fail
          refine wp_region_held_drew (S := fun W => W.cell? ⟨w.heap.size, 0, none⟩ = some (.int .i64 o) ∧ W.cell? ⟨w.heap.size, 1, none⟩ = some (.int .i64 s) ∧ W.cell? ⟨w.heap.size, 2, none⟩ = some xa) (by kernel_rfl) (HS.out _ (Below.refl _ _).drew) (fun hHeld => ?_)
          refine take_ok (i := 0) (d := 19) (v := ?_) rfl rfl (by kernel_rfl) (by kernel_rfl) (by kernel_rfl) (fun _ _ _ h => h) (Or.inl ⟨by rfl, ?_⟩) (by assumption) ?_
          rotate_left
          · intro w9 hSw
            try dsimp only at hSw
            first | (go_simp; done) | (go_simp; with_reducible rfl)
          try simp only [Act.put, List.setIfInBounds_toArray, List.set_cons_zero, List.set_cons_succ]
          refine take_ok (i := 1) (d := 20) (v := ?_) rfl rfl (by kernel_rfl) (by kernel_rfl) (by kernel_rfl) (fun _ _ _ h => h) (Or.inl ⟨by rfl, ?_⟩) (by assumption) ?_
          rotate_left
          · intro w9 hSw
            try dsimp only at hSw
            first | (go_simp; done) | (go_simp; with_reducible rfl)
          try simp only [Act.put, List.setIfInBounds_toArray, List.set_cons_zero, List.set_cons_succ]
          refine take_ok (i := 2) (d := 21) (v := ?_) rfl rfl (by kernel_rfl) (by kernel_rfl) (by kernel_rfl) (fun _ _ _ h => h) (Or.inl ⟨by rfl, ?_⟩) (by assumption) ?_
          rotate_left
          · intro w9 hSw
            try dsimp only at hSw
            first | (go_simp; done) | (go_simp; with_reducible rfl)
          try simp only [Act.put, List.setIfInBounds_toArray, List.set_cons_zero, List.set_cons_succ]
          refine take_ok (i := 3) (d := 22) (v := ?_) rfl rfl (by kernel_rfl) (by kernel_rfl) (by kernel_rfl) (fun _ _ _ h => h) (Or.inl ⟨by rfl, ?_⟩) (by assumption) ?_
          rotate_left
          · intro w9 hSw
            try dsimp only at hSw
            first | (go_simp; done) | (go_simp; with_reducible rfl)
          try simp only [Act.put, List.setIfInBounds_toArray, List.set_cons_zero, List.set_cons_succ]
          refine take_ok (i := 4) (d := 23) (v := ?_) rfl rfl (by kernel_rfl) (by kernel_rfl) (by kernel_rfl) (fun _ _ _ h => h) (Or.inl ⟨by rfl, ?_⟩) (by assumption) ?_
          rotate_left
          · intro w9 hSw
            try dsimp only at hSw
            first | (go_simp; done) | (go_simp; with_reducible rfl)
          try simp only [Act.put, List.setIfInBounds_toArray, List.set_cons_zero, List.set_cons_succ]
          refine take_ok (i := 5) (d := 24) (v := undef) rfl rfl (by kernel_rfl) (by kernel_rfl) (by kernel_rfl) (fun _ _ _ h => h) (Or.inr ⟨by rfl, rfl⟩) (by assumption) ?_
          try simp only [Act.put, List.setIfInBounds_toArray, List.set_cons_zero, List.set_cons_succ]
          refine take_ok (i := 6) (d := 25) (v := undef) rfl rfl (by kernel_rfl) (by kernel_rfl) (by kernel_rfl) (fun _ _ _ h => h) (Or.inr ⟨by rfl, rfl⟩) (by assumption) ?_
          try simp only [Act.put, List.setIfInBounds_toArray, List.set_cons_zero, List.set_cons_succ]
          refine take_ok (i := 7) (d := 26) (v := undef) rfl rfl (by kernel_rfl) (by kernel_rfl) (by kernel_rfl) (fun _ _ _ h => h) (Or.inr ⟨by rfl, rfl⟩) (by assumption) ?_
          try simp only [Act.put, List.setIfInBounds_toArray, List.set_cons_zero, List.set_cons_succ]
          refine take_ok (i := 8) (d := 27) (v := undef) rfl rfl (by kernel_rfl) (by kernel_rfl) (by kernel_rfl) (fun _ _ _ h => h) (Or.inr ⟨by rfl, rfl⟩) (by assumption) ?_
          try simp only [Act.put, List.setIfInBounds_toArray, List.set_cons_zero, List.set_cons_succ]
          refine take_ok (i := 9) (d := 28) (v := undef) rfl rfl (by kernel_rfl) (by kernel_rfl) (by kernel_rfl) (fun _ _ _ h => h) (Or.inr ⟨by rfl, rfl⟩) (by assumption) ?_
          try simp only [Act.put, List.setIfInBounds_toArray, List.set_cons_zero, List.set_cons_succ]
          refine take_ok (i := 10) (d := 29) (v := undef) rfl rfl (by kernel_rfl) (by kernel_rfl) (by kernel_rfl) (fun _ _ _ h => h) (Or.inr ⟨by rfl, rfl⟩) (by assumption) ?_
          try simp only [Act.put, List.setIfInBounds_toArray, List.set_cons_zero, List.set_cons_succ]
          refine take_ok (i := 11) (d := 30) (v := undef) rfl rfl (by kernel_rfl) (by kernel_rfl) (by kernel_rfl) (fun _ _ _ h => h) (Or.inr ⟨by rfl, rfl⟩) (by assumption) ?_
          try simp only [Act.put, List.setIfInBounds_toArray, List.set_cons_zero, List.set_cons_succ]
          refine take_ok (i := 12) (d := 31) (v := undef) rfl rfl (by kernel_rfl) (by kernel_rfl) (by kernel_rfl) (fun _ _ _ h => h) (Or.inr ⟨by rfl, rfl⟩) (by assumption) ?_
          try simp only [Act.put, List.setIfInBounds_toArray, List.set_cons_zero, List.set_cons_succ]
          refine take_ok (i := 13) (d := 32) (v := ?_) rfl rfl (by kernel_rfl) (by kernel_rfl) (by kernel_rfl) (fun _ _ _ h => h) (Or.inl ⟨by rfl, ?_⟩) (by assumption) ?_
          rotate_left
          · intro w9 hSw
            try dsimp only at hSw
            first | (go_simp; done) | (go_simp; with_reducible rfl)
          try simp only [Act.put, List.setIfInBounds_toArray, List.set_cons_zero, List.set_cons_succ]
          refine wpAnyH_done (by kernel_rfl) ?_ _
          clear hHeld
          have HB8 : Hid (Below wd.heap.size wd wr.drew) := Lib.hid HB.out.drew
          obtain ⟨W0, hW0⟩ : ∃ W0, W0 = wr.drew := ⟨_, rfl⟩
          rw [← hW0] at HB8
          obtain ⟨A1, N1, C1, hV1⟩ : ∃ A1 N1 C1, sliced ad 0 k cap 3 = .slice A1 N1 C1 := sliced_is ..
          obtain ⟨A3, N3, C3, hV3⟩ : ∃ A3 N3 C3, sliced ad k d.length cap 3 = .slice A3 N3 C3 := sliced_is ..
          have r1 : ∀ W, (Instr.sliceAt 42 (.slice ad d.length cap) none (some (.int .i64 (k : Int))) none).run Tryz.prog W = .ok (.slice A1 N1 C1) W := fun W => by
            rw [← hV1]
            exact pslice_run ad _ cap _ _ _ _ W (by simp [Instr.sliceBounds, run_sliceBound_if, show k ≤ cap by omega])
          have r3 : ∀ W, (Instr.sliceAt 42 (.slice ad d.length cap) (some (.int .i64 (k : Int))) none none).run Tryz.prog W = .ok (.slice A3 N3 C3) W := fun W => by
            rw [← hV3]
            exact pslice_run ad _ cap _ _ _ _ W (by simp [Instr.sliceBounds, run_sliceBound_if, hk])
          have HV1 : Hid (∀ W, Below W0.heap.size W0 W → PRd W (.slice A1 N1 C1) (d.take k)) := Lib.hid (fun W hb => by
            have h := (prd_sliced (HD.out.below (bn HB8.out hb)) 0 k (by omega) hk)
            rwa [hV1, List.drop_zero, Nat.sub_zero] at h)
          have HV3 : Hid (∀ W, Below W0.heap.size W0 W → PRd W (.slice A3 N3 C3) (d.drop k)) := Lib.hid (fun W hb => by
            have h := (prd_sliced (HD.out.below (bn HB8.out hb)) k d.length hk (Nat.le_refl _))
            rwa [hV3, List.take_of_length_le (by simp)] at h)
          have HC8 : Hid (∀ W, Below W0.heap.size W0 W → W.cell? ⟨w.heap.size, 0, none⟩ = some (.int .i64 o) ∧ W.cell? ⟨w.heap.size, 1, none⟩ = some (.int .i64 s) ∧ W.cell? ⟨w.heap.size, 2, none⟩ = some xa) := Lib.hid (fun W hb => ⟨(CB.out.below (bn HB8.out hb)).cell 0, (CB.out.below (bn HB8.out hb)).cell 1, (CB.out.below (bn HB8.out hb)).cell 2⟩)
          have HNX : Hid (∀ W, Below W0.heap.size W0 W → Nl W xa xn) := Lib.hid (fun W hb => HX.out.below (bn HB8.out hb))
          have HSZ := Lib.hid HB8.out.size
          clear hV1 hV3
          go_wp2_with fail
          rw [← hW0]
          clear hW0
          go_region_held3 (fun W => W.cell? ⟨w.heap.size, 0, none⟩ = some (.int .i64 o) ∧ W.cell? ⟨w.heap.size, 1, none⟩ = some (.int .i64 s) ∧ W.cell? ⟨w.heap.size, 2, none⟩ = some xa) (exact HC8.out _ (by first | assumption | exact Below.refl _ _ | exact (Below.refl _ _).drew | exact alloc_below _ _ | exact (alloc_below _ _).drew | exact ba.alloc ba.size _ | exact (ba.alloc ba.size _).drew))
            (first
            | (refine step_papp rfl _ _ rfl W0.heap.size vb (.slice A3 N3 C3) (d.take k ++ [⟨o, s, xa, xn⟩]) (d.drop k) rfl rfl (by exact hrb) (HV3.out _ (by exact bb)) (by simp; omega) (by exact bb.size) ?_; intro vc wc hrc hgc; have bc : Below W0.heap.size W0 wc := bb.trans (below_of_grown hgc bb.size (fun g hg => (World.ownsRow.lt hrb g hg).1)))
            | (refine step_papp rfl _ _ rfl W0.heap.size va (.slice (some ⟨W0.heap.size, 0, none⟩) 1 1) (d.take k) [⟨o, s, xa, xn⟩] rfl rfl (by exact hra) (by exact prd_one2 (x := ⟨o, s, xa, xn⟩) (HNX.out _ (by first | exact ba | exact ba.alloc ba.size _ | exact (ba.alloc ba.size _).drew)) ((hga.block W0.heap.size (by simp) (by intro h; cases h)).trans (Bx.new 66 W0 _))) (by simp; omega) (by exact ba.size) ?_; intro vb wb hrb hgb; have bb : Below W0.heap.size W0 wb := ba.trans (below_of_grown hgb ba.size (fun g hg => (World.ownsRow.lt hra g hg).1)))
            | (refine step_papp rfl _ _ rfl W0.heap.size va (.slice (some ⟨wa.heap.size, 0, none⟩) 1 1) (d.take k) [⟨o, s, xa, xn⟩] rfl rfl (by first | exact own_below hra (alloc_below _ _) | exact own_below hra (alloc_below _ _).drew) (by exact prd_one2 (x := ⟨o, s, xa, xn⟩) (HNX.out _ (by first | exact ba | exact ba.alloc ba.size _ | exact (ba.alloc ba.size _).drew)) (Bx.new 66 wa _)) (by simp; omega) (by first | exact (ba.alloc ba.size _).size | exact (ba.alloc ba.size _).drew.size) ?_; intro vb wb hrb hgb; have bb : Below W0.heap.size W0 wb := (ba.alloc ba.size _).trans (below_of_grown hgb (ba.alloc ba.size _).size (fun g hg => (World.ownsRow.lt hra g hg).1)))
            | (refine step_papp rfl _ _ rfl W0.heap.size (.slice none 0 0) (.slice A1 N1 C1) [] (d.take k) rfl rfl (World.ownsRow_nil _ _ _ _) (HV1.out _ (by first | assumption | exact Below.refl _ _ | exact (Below.refl _ _).drew | exact alloc_below _ _ | exact (alloc_below _ _).drew)) (by simp; omega) (by first | exact Nat.le_refl _ | (simp; done)) ?_; intro va wa hra hga; have ba : Below W0.heap.size W0 wa := bn (by first | assumption | exact Below.refl _ _ | exact (Below.refl _ _).drew | exact alloc_below _ _ | exact (alloc_below _ _).drew) (below_of_grown hga (Nat.le_refl _) (by intro g hg; cases hg)))
            | fail)
          all_goals
            go_wp2
            go_ret
            exact ⟨_, rfl, by rw [HI.out]; have h := own_mono hrc (Nat.le_trans HAL.out.size (Nat.le_trans HBD.out.size HSZ.out)); rwa [List.append_assoc] at h, bn HAL.out (bn HBD.out (HB8.out.trans (bc.mono HB8.out.size)))⟩
end Go.Proofs.YtdjlgiinekighaaGreatDoor.P
/-
  The statement's own list of places: plain facts.
-/
namespace Go.Proofs.YtdjlgiinekighaaGreatDoor
open Go.RowKit Go.Lib Go.Sort Go.Shelf Go.Maps Go.Proofs.YtdjlgiinekighaaGreatDoor.P Go.Proofs
set_option maxRecDepth 100000
set_option linter.unusedSimpArgs false

def lstG (K : List Ky) (F : Ky → List Int) : List Po := (srtK (K.filter fun k => decide (F k ≠ []))).map fun k => (⟨k, F k⟩ : Po)
theorem lstG_keys (K : List Ky) (F : Ky → List Int) : (lstG K F).map Po.k = srtK (K.filter fun k => decide (F k ≠ [])) := by
  unfold lstG
  rw [List.map_map]
  exact List.map_id' _
theorem lstG_mem (K : List Ky) (F : Ky → List Int) (x : Po) : x ∈ lstG K F ↔ x.k ∈ K ∧ F x.k ≠ [] ∧ x.ns = F x.k := by
  unfold lstG
  rw [List.mem_map]
  constructor
  · rintro ⟨k, hk, rfl⟩
    have h1 := List.mem_filter.1 ((srtK_perm _).mem_iff.1 hk)
    exact ⟨h1.1, by simpa using h1.2, rfl⟩
  · rintro ⟨h1, h2, h3⟩
    refine ⟨x.k, (srtK_perm _).mem_iff.2 (List.mem_filter.2 ⟨h1, by simpa using h2⟩), ?_⟩
    rw [← h3]
theorem po_uniq {a b : List Po} (ha : Rise (a.map Po.k)) (hb : Rise (b.map Po.k)) (h : ∀ x, x ∈ a ↔ x ∈ b) : a = b := by
  have pa : a.Pairwise fun x y => kLt x.k y.k = true := List.pairwise_map.1 ha
  have pb : b.Pairwise fun x y => kLt x.k y.k = true := List.pairwise_map.1 hb
  have na : a.Nodup := pa.imp fun {x y} hxy (e : x = y) => kLt_ne hxy (by rw [e])
  have nb : b.Nodup := pb.imp fun {x y} hxy (e : x = y) => kLt_ne hxy (by rw [e])
  exact List.Perm.eq_of_pairwise (le := fun x y : Po => kLt x.k y.k = true) (fun x y _ _ h1 h2 => by rw [kLt_no h1] at h2; cases h2) pa pb ((List.perm_ext_iff_of_nodup na nb).2 h)
theorem put_G {K : List Ky} {F F' : Ky → List Int} {k : Ky} {n : List Int} (hk : k ∉ K) (hK : K.Nodup) (hm : mayL (lstG K F) = true) (hn : n = [] ∨ oneB n = true) (hF : ∀ k', F' k' = if k' = k then n else F k') :
    putP (lstG K F) ⟨k, n⟩ = lstG (K ++ [k]) F' := by
  have hsame : ∀ k' ∈ K, F' k' = F k' := fun k' h' => by rw [hF, if_neg (fun (e : k' = k) => hk (e ▸ h'))]
  have hKk : (K ++ [k]).Nodup := List.nodup_append.2 ⟨hK, by simp, fun a ha b hb e => by
    simp only [List.mem_singleton] at hb
    subst hb
    exact hk (e ▸ ha)⟩
  have hr : Rise ((lstG (K ++ [k]) F').map Po.k) := by
    rw [lstG_keys]
    exact srtK_rise (hKk.filter _)
  have hr0 : Rise ((lstG K F).map Po.k) := by
    rw [lstG_keys]
    exact srtK_rise (hK.filter _)
  have hmem : ∀ x : Po, x ∈ lstG (K ++ [k]) F' ↔ x ∈ lstG K F ∨ (n ≠ [] ∧ x = ⟨k, n⟩) := fun x => by
    rw [lstG_mem, lstG_mem, List.mem_append, List.mem_singleton]
    constructor
    · rintro ⟨h1 | h1, h2, h3⟩
      · rw [hsame _ h1] at h2 h3
        exact .inl ⟨h1, h2, h3⟩
      · rw [hF, if_pos h1] at h2 h3
        refine .inr ⟨h2, ?_⟩
        obtain ⟨xk, xn⟩ := x
        simp only at h1 h3
        rw [h1, h3]
    · rintro (⟨h1, h2, h3⟩ | ⟨h1, rfl⟩)
      · exact ⟨.inl h1, by rw [hsame _ h1]; exact h2, by rw [hsame _ h1]; exact h3⟩
      · exact ⟨.inr rfl, by rw [hF, if_pos rfl]; exact h1, by rw [hF, if_pos rfl]⟩
  have hno : ∀ x ∈ lstG K F, x.k ≠ k := fun x hx e => hk (e ▸ ((lstG_mem K F x).1 hx).1)
  unfold putP
  rw [if_pos hm]
  by_cases h0 : n = []
  · subst h0
    rw [if_neg (by simp [oneB])]
    exact po_uniq hr0 hr fun x => by rw [hmem]; simp
  · have ho : oneB n = true := hn.resolve_left h0
    simp only [ho, if_true]
    rw [dropP_eq hm, drop_none _ hno]
    refine po_uniq (insP_rise _ hr0 hno) hr fun x => ?_
    rw [insP_mem, hmem]
    constructor
    · rintro (rfl | h)
      · exact .inr ⟨h0, rfl⟩
      · exact .inl h
    · rintro (h | ⟨_, h⟩)
      · exact .inr h
      · exact .inl h
/-- Where a word (or what begins so) stands. -/
def lstF (pf : Bool) (S : Sx) (q : Bs) : List Po := if pf = true then lstR S q else lstS S q
def posF (pf : Bool) (i : Nat) (ts : List Bs) (q : Bs) : List Int := if pf = true then preN i ts q else posN i ts q
def hitB (pf : Bool) (t q : Bs) : Bool := if pf = true then hasB t q else decide (t = q)
theorem posF_snoc (pf : Bool) (ts : List Bs) (i : Nat) (a q : Bs) : posF pf i (ts ++ [a]) q = posF pf i ts q ++ (if hitB pf a q = true then [((i + ts.length : Nat) : Int)] else []) := by
  unfold posF hitB
  cases pf with
  | false => simp only [Bool.false_eq_true, if_false, decide_eq_true_eq]; exact posN_snoc ts i a q
  | true =>
    simp only [if_true]
    induction ts generalizing i with
    | nil => simp [preN]
    | cons b r ih =>
      simp only [List.cons_append, preN, ih (i + 1), List.length_cons]
      rw [show i + 1 + r.length = i + (r.length + 1) from by omega]
      split <;> simp
theorem preS_snoc : ∀ (S : Sx) (k : Ky) (ts : List Bs) (k' : Ky) (t : Bs), k ∉ S.map Prod.fst → preS (S ++ [(k, ts)]) k' t = if k' = k then preN 0 ts t else preS S k' t
  | [], k, ts, k', t, _ => by
    simp only [List.nil_append, preS]
    by_cases h : k = k'
    · rw [if_pos h, if_pos h.symm]
    · rw [if_neg h, if_neg (fun e => h e.symm)]
  | x :: r, k, ts, k', t, h => by
    simp only [List.map_cons, List.mem_cons, not_or] at h
    simp only [List.cons_append, preS, preS_snoc r k ts k' t h.2]
    by_cases h1 : x.1 = k'
    · rw [if_pos h1, if_neg (fun e => h.1 (e.symm.trans h1.symm)), if_pos h1]
    · rw [if_neg h1, if_neg h1]
theorem posF_one (pf : Bool) (ts : List Bs) (q : Bs) : posF pf 0 ts q = [] ∨ oneB (posF pf 0 ts q) = true := by
  by_cases h0 : posF pf 0 ts q = []
  · exact .inl h0
  · refine .inr ?_
    unfold oneB
    rw [Bool.and_eq_true]
    have h1 : (posF pf 0 ts q).Pairwise (· < ·) ∧ ∀ x ∈ posF pf 0 ts q, ((0 : Nat) : Int) ≤ x ∧ x < ((0 + ts.length : Nat) : Int) := by
      unfold posF
      split
      · exact preN_up ts 0 q
      · exact posN_up ts 0 q
    refine ⟨by simpa using h0, upB_of h1.1 _ fun y hy => ?_⟩
    have := (h1.2 y hy).1
    omega
theorem posF_len (pf : Bool) (ts : List Bs) (i : Nat) (q : Bs) : (posF pf i ts q).length ≤ ts.length := by
  unfold posF
  split
  · exact preN_len ts i q
  · exact posN_len ts i q
theorem lstF_nil (pf : Bool) (q : Bs) : lstF pf (sx []) q = [] := by
  unfold lstF
  cases pf with
  | false => simp [lstS, sx, srtK]
  | true => simp [lstR, sx, srtK]
theorem lstF_next (pf : Bool) (l : List R.Rc) (i : Nat) (h : i < l.length) (hnd : (l.map kyR).Nodup) (q : Bs) :
    lstF pf (sx (l.take (i + 1))) q = putP (lstF pf (sx (l.take i)) q) ⟨kyR l[i], posF pf 0 (wordsOf l[i].t) q⟩ := by
  have e : l.take (i + 1) = l.take i ++ [l[i]] := List.take_succ_eq_append_getElem h
  have hnd1 : ((l.take (i + 1)).map kyR).Nodup := hnd.sublist ((List.take_sublist _ _).map _)
  rw [e, List.map_append, List.nodup_append] at hnd1
  have hS : ((sx (l.take i)).map Prod.fst).Nodup := by rw [sx_keys]; exact hnd1.1
  have hk : kyR l[i] ∉ (sx (l.take i)).map Prod.fst := by
    rw [sx_keys]
    exact fun hm => hnd1.2.2 _ hm _ (by simp) rfl
  rw [e, sx_app]
  unfold lstF posF
  cases pf with
  | false =>
    simp only [Bool.false_eq_true, if_false]
    have := put_G (F := fun k => posS (sx (l.take i)) k q) (F' := fun k => posS (sx (l.take i) ++ [(kyR l[i], wordsOf l[i].t)]) k q) (n := posN 0 (wordsOf l[i].t) q) hk hS (lstS_may _ q hS) (by simpa [posF] using posF_one false (wordsOf l[i].t) q) (fun k' => posS_snoc _ _ _ k' q hk)
    refine Eq.trans ?_ this.symm
    unfold lstS lstG
    simp [sx]
  | true =>
    simp only [if_true]
    have := put_G (F := fun k => preS (sx (l.take i)) k q) (F' := fun k => preS (sx (l.take i) ++ [(kyR l[i], wordsOf l[i].t)]) k q) (n := preN 0 (wordsOf l[i].t) q) hk hS (lstR_may _ q hS) (by simpa [posF] using posF_one true (wordsOf l[i].t) q) (fun k' => preS_snoc _ _ _ k' q hk)
    refine Eq.trans ?_ this.symm
    unfold lstR lstG
    simp [sx]
end Go.Proofs.YtdjlgiinekighaaGreatDoor
/-
  The statement's own list of places, by contract.
-/
namespace Go.Proofs.YtdjlgiinekighaaGreatDoor
open Go.RowKit Go.Lib Go.Sort Go.Shelf Go.Maps Go.Proofs.YtdjlgiinekighaaGreatDoor.P Go.Proofs
set_option maxRecDepth 100000
set_option linter.unusedSimpArgs false

theorem Row.keep {w w' : World} {B : Nat} {v : Value} {l : List Int} (h : Row w B v l) (hb : ∀ g, v.ownBlock = some g → w'.heap[g]? = w.heap[g]?) : Row w' B v l := ownsRow_of_block h hb
theorem PRd.nl {w : World} {v : Value} {l : List Pv} (h : PRd w v l) : ∀ x ∈ l, Nl w x.a x.ns := fun x hx => by
  obtain ⟨ad, cap, _, _, h3⟩ := h
  obtain ⟨i, hi, rfl⟩ := List.mem_iff_getElem.1 hx
  obtain ⟨b, o, _, hs⟩ := h3 (by omega)
  exact (hs i hi).nl
theorem putV_mem (l : List Pv) (y : Pv) : ∀ x ∈ putV l y, x = y ∨ x ∈ l := fun x hx => by
  unfold putV at hx
  split at hx
  · split at hx
    · unfold insV at hx
      rcases List.mem_append.1 hx with hx | hx
      · exact .inr (dropV_sub _ _ _ _ ((List.takeWhile_sublist _).subset hx))
      · rcases List.mem_cons.1 hx with rfl | hx
        · exact .inl rfl
        · exact .inr (dropV_sub _ _ _ _ ((List.dropWhile_sublist _).subset hx))
    · exact .inr hx
  · cases hx
set_option maxHeartbeats 16000000 in
theorem lst_c (l : List R.Rc) (v : Value) (q : Bs) (pf : Bool) (w : World) (h : R.Rl w v l) (hn : l.length ≤ 100) (hnd : (l.map kyR).Nodup) (hmy : ∀ r ∈ l, R.mayR r = true) (hT : T.Tabs w) (hq : q.length ≤ 1000) :
    Calls Tryz.prog 18 #[v, .string ⟨q.toArray⟩, .bool pf] w fun e w' => ∃ v' qs, e = .returned v' ∧ PRd w' v' qs ∧ ps qs = lstF pf (sx l) q ∧ Below w.heap.size w w' := by
  have mixed : Tryz.prog.follows .mixedOrders = true := by kernel_rfl
  obtain ⟨ad, cap, rfl, _, _⟩ := id h.form
  have HRL := Lib.hid h
  have HND := Lib.hid hnd
  have HMY := Lib.hid hmy
  have HT := Lib.hid hT
  have HQ := Lib.hid hq
  clear h hnd hmy hT hq
  go_enter Tryz.func18, Tryz.ntmps18
  go_wp2_with fail
  go_loopw [7, 8] (fun v7 v8 wr => ∃ (i : Nat) (qs : List Pv), i ≤ l.length ∧ v8 = .int .i64 (i : Int) ∧ Hid (PRd wr v7 qs) ∧ Hid (ps qs = lstF pf (sx (l.take i)) q) ∧ Hid (Below w.heap.size w wr)) (fun _ v8 _ => l.length - (RowKit.intOf v8).toNat)
  case atStart => exact ⟨0, [], by omega, rfl, Lib.hid ⟨none, 0, rfl, Nat.le_refl _, fun h => by simp at h⟩, Lib.hid (by rw [List.take_zero, lstF_nil]; rfl), Lib.hid (Below.refl _ _)⟩
  case round =>
    obtain ⟨i, qs, hi, rfl, HQ1, HE1, HB1⟩ := hrel
    obtain ⟨ad7, cap7, rfl, _, _⟩ := id HQ1.out
    by_cases hp : i < l.length
    · obtain ⟨ad2, cap2, e, _, hc⟩ := (HRL.out.below HB1.out).form
      simp only [Value.slice.injEq, true_and] at e
      obtain ⟨rfl, rfl⟩ := e
      obtain ⟨b, o, rfl, hrc⟩ := hc (by omega)
      have hx := hrc i hp
      have HNX := Lib.hid (lstF_next pf l i hp HND.out q)
      have hmy := HMY.out _ (List.getElem_mem hp)
      have HP := Lib.hid hp
      have hql : qs.length ≤ 100 := by
        have h1 := congrArg List.length HE1.out
        unfold ps lstF at h1
        rw [List.length_map] at h1
        have h2 := lstS_len (sx (l.take i)) q
        have h3 := lstR_len (sx (l.take i)) q
        rw [sx_len, List.length_take] at h2 h3
        split at h1 <;> omega
      have HNS : Hid (∀ x ∈ qs, x.ns.length ≤ 120) := Lib.hid (fun x hx => by
        have hg : Good (sx (l.take i)) := good_sx fun r hr => HMY.out r (List.mem_of_mem_take hr)
        have h1 : x.p ∈ ps qs := List.mem_map_of_mem hx
        rw [HE1.out] at h1
        unfold lstF at h1
        split at h1
        · obtain ⟨k, _, hk⟩ := List.mem_map.1 h1
          have h2 : x.ns = preS (sx (l.take i)) k q := (congrArg Po.ns hk).symm
          rw [h2]
          exact preS_len _ k q 120 fun y hy => (hg y hy).1
        · obtain ⟨k, _, hk⟩ := List.mem_map.1 h1
          have h2 : x.ns = posS (sx (l.take i)) k q := (congrArg Po.ns hk).symm
          rw [h2]
          exact posS_len _ k q 120 fun y hy => (hg y hy).1)
      clear hc hrc
      generalize l[i] = r at hx HNX hmy
      simp only [R.mayR, Bool.and_eq_true] at hmy
      obtain ⟨rs, hok, hen, hz, hrl⟩ := may_text hmy.2.2
      have hwo := wordsOf_eq hok hen
      have hwf := (words_few hrl).1
      have CO := Lib.hid (T.refof_ok rs r.t wr hok hen hz (HT.out.below HB1.out))
      rw [hwo] at HNX
      clear hwo hok hen hz hrl hmy
      generalize GvTok.words rs = ts at *
      obtain ⟨x0, x1, x2, x3, x4⟩ := hx
      have HX0 := Lib.hid x0
      have HX1 := Lib.hid x1
      have hgl := World.block_lt_of_cell? _ _ x0
      clear x0 x1 x2 x3
      go_wp2_with fail
      refine CO.out.mono ?_
      rintro e w4 ⟨v9, rfl, hw9, b4⟩
      obtain ⟨A9, C9, rfl, _⟩ := own_form hw9
      have W9 := Lib.hid hw9
      have B4 := Lib.hid b4
      have z0 := (b4.cell hgl).trans HX0.out
      have z1 := (b4.cell hgl).trans HX1.out
      have hgl4 := World.block_lt_of_cell? _ _ z0
      clear hw9 b4 CO x4 hgl
      obtain ⟨pb, hpb⟩ : ∃ pb, pb = w4.heap.size := ⟨_, rfl⟩
      obtain ⟨w5, hw5⟩ : ∃ w5, w5 = w4.alloc (.cells #[.int .i64 r.o, .int .i64 r.s, .slice none 0 0] 66) := ⟨_, rfl⟩
      have b5 : Below w4.heap.size w4 w5 := by rw [hw5]; exact alloc_below _ _
      have X5 : Hid (Bx 66 w5 pb #[.int .i64 r.o, .int .i64 r.s, .slice none 0 0]) := Lib.hid (by rw [hw5, hpb]; exact Bx.new _ w4 _)
      have B5 := Lib.hid b5
      have HPB : Hid (pb = w4.heap.size) := Lib.hid hpb
      clear b5
      go_wp2_with fail
      rw [← hw5]
      try rw [← hpb]
      clear hw5 hpb z0 z1 hgl4
      have R5 : Hid (Row w5 w4.heap.size (.slice none 0 0) (posF pf 0 (ts.take 0) q)) := Lib.hid (by rw [List.take_zero, show posF pf 0 [] q = [] from by cases pf <;> rfl]; exact World.ownsRow_nil _ _ _ _)
      go_loopw [11] (fun v11 wq => ∃ (k : Nat) (va : Value), k ≤ ts.length ∧ v11 = .int .i64 (k : Int) ∧ Hid (Bx 66 wq pb #[.int .i64 r.o, .int .i64 r.s, va]) ∧ Hid (Row wq w4.heap.size va (posF pf 0 (ts.take k) q)) ∧ Hid (va.ownBlock ≠ some pb) ∧ Hid (Below w4.heap.size w4 wq)) (fun v11 _ => ts.length - (RowKit.intOf v11).toNat)
      case atStart => exact ⟨0, _, by omega, rfl, X5, R5, Lib.hid (by intro h; cases h), B5⟩
      case round =>
        obtain ⟨k, va, hk, rfl, X6, R6, N6, B6⟩ := hrel
        clear X5 R5 B5
        obtain ⟨Aa, Ca, rfl, _⟩ := own_form R6.out
        have x2 := X6.out.cell 2
        have x0 := X6.out.cell 0
        have x1 := X6.out.cell 1
        simp only [List.getElem?_toArray, List.getElem?_cons_succ, List.getElem?_cons_zero] at x0 x1 x2
        have hgx := X6.out.lt
        by_cases hp2 : k < ts.length
        · obtain ⟨gw, C, e, c1, _⟩ := words_at (W9.out.below B6.out) hp2
          simp only [Value.slice.injEq, true_and] at e
          obtain ⟨rfl, rfl⟩ := e
          have hgl := World.block_lt_of_cell? _ _ c1
          have HSN := Lib.hid (posF_snoc pf (ts.take k) 0 ts[k] q)
          rw [← List.take_succ_eq_append_getElem hp2, List.length_take, Nat.min_eq_left (Nat.le_of_lt hp2), Nat.zero_add] at HSN
          have HP2 := Lib.hid hp2
          have hpl := posF_len pf (ts.take k) 0 q
          rw [List.length_take] at hpl
          generalize ts[k] = t at c1 HSN
          generalize posF pf 0 (ts.take k) q = ns at *
          have hcp := cut_pre t q
          cases hh : hitB pf t q with
          | false =>
            rw [hh, if_neg (by simp), List.append_nil] at HSN
            have R7 : Hid (Row wr w4.heap.size (.slice Aa ns.length Ca) (posF pf 0 (ts.take (k + 1)) q)) := Lib.hid (by rw [HSN.out]; exact R6.out)
            clear x0 x1 x2
            cases pf with
            | false =>
              have hne : ¬ t = q := by simpa [hitB] using hh
              have hte : (t == q) = false := by simpa using hne
              clear hh hcp hne
              go_wp2_with fail
              go_roundw
              case rel => exact ⟨k + 1, _, HP2.out, by go_num, X6, R7, N6, B6⟩
              case measure => have := HP2.out; simp [RowKit.intOf]; omega
            | true =>
              have hhb : hasB t q = false := by simpa [hitB] using hh
              have hne : ¬ t = q := fun e => by subst e; simp [hasB] at hhb
              have hte : (t == q) = false := by simpa using hne
              rw [hhb] at hcp
              clear hh
              by_cases hlq : q.length ≤ t.length
              · have hlq2 : (q.length : Int) ≤ (t.length : Int) := by omega
                clear hhb
                go_wp2_with fail
                go_roundw
                case rel => exact ⟨k + 1, _, HP2.out, by go_num, X6, R7, N6, B6⟩
                case measure => have := HP2.out; simp [RowKit.intOf]; omega
              · have hlq2 : ¬ (q.length : Int) ≤ (t.length : Int) := by omega
                clear hhb hcp
                go_wp2_with fail
                go_roundw
                case rel => exact ⟨k + 1, _, HP2.out, by go_num, X6, R7, N6, B6⟩
                case measure => have := HP2.out; simp [RowKit.intOf]; omega
          | true =>
            rw [hh, if_pos rfl] at HSN
            obtain ⟨w6, hw6⟩ : ∃ w6, w6 = wr.alloc (.cells #[.int .i64 (k : Int)] 3) := ⟨_, rfl⟩
            have b6 : Below wr.heap.size wr w6 := by rw [hw6]; exact alloc_below _ _
            have g6 : Bx 3 w6 wr.heap.size #[.int .i64 (k : Int)] := by rw [hw6]; exact Bx.new _ wr _
            have hs6 : w6.heap.size = wr.heap.size + 1 := by rw [hw6]; simp
            obtain ⟨A7, C7, w7, run7, r7, gr7, o7⟩ := iapp_run ns (k : Int) (.slice Aa ns.length Ca) wr.heap.size w6 64 w4.heap.size (R6.out.below b6) g6 (by omega) (Nat.le_trans B6.out.size b6.size)
            have X7 : Hid (Bx 66 w7 pb #[.int .i64 r.o, .int .i64 r.s, .slice Aa ns.length Ca]) := Lib.hid ((X6.out.below b6).far gr7 (fun h => N6.out h.symm))
            have B7 : Hid (Below w4.heap.size w4 w7) := Lib.hid ((bn B6.out b6).trans (R.below_of_grown gr7 (Nat.le_trans B6.out.size b6.size) (fun g hg => (World.ownsRow.lt R6.out g hg).1)))
            have hne7 : (Value.slice A7 (ns.length + 1) C7).ownBlock ≠ some pb := by
              rcases o7 with h | h
              · rw [h]; exact N6.out
              · rw [h]
                intro e
                have := Option.some.inj e
                omega
            have X8 : Hid (Bx 66 (w7.setCell ⟨pb, 2, none⟩ (.slice A7 (ns.length + 1) C7)) pb #[.int .i64 r.o, .int .i64 r.s, .slice A7 (ns.length + 1) C7]) := Lib.hid (by
              have := X7.out.set 2 (.slice A7 (ns.length + 1) C7)
              simpa using this)
            have R8 : Hid (Row (w7.setCell ⟨pb, 2, none⟩ (.slice A7 (ns.length + 1) C7)) w4.heap.size (.slice A7 (ns.length + 1) C7) (posF pf 0 (ts.take (k + 1)) q)) := Lib.hid (by
              rw [HSN.out]
              exact Row.keep r7 fun g hg => Below.heap_setCell _ _ _ g (show g ≠ pb from fun e => hne7 (e ▸ hg)))
            have B8 : Hid (Below w4.heap.size w4 (w7.setCell ⟨pb, 2, none⟩ (.slice A7 (ns.length + 1) C7))) := Lib.hid (B7.out.setCell (by rw [HPB.out]; exact Nat.le_refl _) _)
            have N8 := Lib.hid hne7
            rw [hw6] at run7
            have HR7 := Lib.hid run7
            have y2 := X7.out.cell 2
            simp only [List.getElem?_toArray, List.getElem?_cons_succ, List.getElem?_cons_zero] at y2
            have hgy := X7.out.lt
            have hso := X7.out.soft 2
            clear b6 g6 hs6 run7 r7 gr7 o7 hne7 X7 B7 hw6
            cases pf with
            | false =>
              obtain rfl : t = q := by simpa [hitB] using hh
              clear hh hcp
              go_wp2_with (at_builtin; refine wpList_append_run rfl _ _ 64 rfl _ _ HR7.out ?_; clear HR7)
              go_roundw
              case rel => exact ⟨k + 1, _, HP2.out, by go_num, X8, R8, N8, B8⟩
              case measure => have := HP2.out; simp [RowKit.intOf]; omega
            | true =>
              have hhb : hasB t q = true := by simpa [hitB] using hh
              rw [hhb] at hcp
              have hlq2 : (q.length : Int) ≤ (t.length : Int) := by
                unfold hasB at hhb
                rw [decide_eq_true_eq] at hhb
                have := hhb.length_le
                omega
              clear hh hhb
              by_cases htq : t = q
              · subst htq
                clear hcp
                go_wp2_with (at_builtin; refine wpList_append_run rfl _ _ 64 rfl _ _ HR7.out ?_; clear HR7)
                go_roundw
                case rel => exact ⟨k + 1, _, HP2.out, by go_num, X8, R8, N8, B8⟩
                case measure => have := HP2.out; simp [RowKit.intOf]; omega
              · have hte : (t == q) = false := by simpa using htq
                clear htq
                go_wp2_with (at_builtin; refine wpList_append_run rfl _ _ 64 rfl _ _ HR7.out ?_; clear HR7)
                go_roundw
                case rel => exact ⟨k + 1, _, HP2.out, by go_num, X8, R8, N8, B8⟩
                case measure => have := HP2.out; simp [RowKit.intOf]; omega
        · have hkl : k = ts.length := by omega
          subst hkl
          have R9 : Hid (Row wr w4.heap.size (.slice Aa (posF pf 0 (ts.take ts.length) q).length Ca) (posF pf 0 ts q)) := Lib.hid (by have := R6.out; rwa [List.take_length] at this ⊢)
          have hpl := posF_len pf ts 0 q
          generalize (posF pf 0 (ts.take ts.length) q).length = nl at *
          have CP := Lib.hid (Go.Proofs.YtdjlgiinekighaaGreatDoor.P.put_c qs r.o r.s (.slice Aa nl Ca) (posF pf 0 ts q) (.slice ad7 qs.length cap7) wr ((HQ1.out.below B4.out).below B6.out) R9.out.nl (by omega) (fun x hx => Nat.le_trans (HNS.out x hx) (by omega)) (by omega))
          go_wp2_with fail
          refine CP.out.mono ?_
          rintro e w10 ⟨v10, rfl, r10, b10⟩
          have Q10 : Hid (PRd w10 v10 (putV qs ⟨r.o, r.s, .slice Aa nl Ca, posF pf 0 ts q⟩)) := Lib.hid (r10.rd fun x hx => by
            rcases putV_mem _ _ x hx with rfl | hx
            · exact R9.out.nl.below b10
            · exact ((PRd.nl HQ1.out x hx).below (B4.out)).below (bn B6.out b10))
          have E10 : Hid (ps (putV qs ⟨r.o, r.s, .slice Aa nl Ca, posF pf 0 ts q⟩) = lstF pf (sx (l.take (i + 1))) q) := Lib.hid (by
            rw [putV_ps, HE1.out, HNX.out]
            rfl)
          have B10 := Lib.hid (bn HB1.out (bn B4.out (bn B6.out b10)))
          clear r10 b10 CP
          go_wp2_with fail
          go_roundw
          case rel => exact ⟨i + 1, _, HP.out, by go_num, Q10, E10, B10⟩
          case measure => have := HP.out; simp [RowKit.intOf]; omega
    · have hil : i = l.length := by omega
      subst hil
      rw [List.take_length] at HE1
      clear HRL HND HMY HT HQ
      go_wp2_with fail
      go_ret
      exact ⟨_, qs, rfl, HQ1.out, HE1.out, HB1.out⟩
end Go.Proofs.YtdjlgiinekighaaGreatDoor
/-
  OverPosts, with what stays above it.
-/
namespace Go.Proofs.YtdjlgiinekighaaGreatDoor.P
open Go.RowKit Go.Lib


/-- From C on the blocks that were there are as they were. -/
def Fro (C : Nat) (w w' : World) : Prop := w.heap.size ≤ w'.heap.size ∧ ∀ k, C ≤ k → k < w.heap.size → w'.heap[k]? = w.heap[k]?
theorem Fro.refl (C : Nat) (w : World) : Fro C w w := ⟨Nat.le_refl _, fun _ _ _ => rfl⟩
theorem Fro.trans {C : Nat} {w a b : World} (h : Fro C w a) (k : Fro C a b) : Fro C w b := ⟨Nat.le_trans h.1 k.1, fun i hi hl => (k.2 i hi (Nat.lt_of_lt_of_le hl h.1)).trans (h.2 i hi hl)⟩
theorem Fro.of_grown {C : Nat} {w w' : World} {r : Option Nat} (h : w.grownBy w' r) (hr : ∀ g, r = some g → g < C) : Fro C w w' := ⟨h.size, fun k hk hl => h.block k hl (fun e => by have := hr k e.symm; omega)⟩
theorem own_fro {w w' : World} {B C : Nat} {e : TypeId} {z n : Nat} {v : Value} {xs : List Value} (h : w.ownsRow B e z v n xs) (hf : Fro C w w') (hg : ∀ g, v.ownBlock = some g → C ≤ g ∧ g < w.heap.size) : w'.ownsRow B e z v n xs := by
  refine ⟨h.1, h.2.imp id ?_⟩
  rintro ⟨g, cap, cur, rfl, h1, h2, h3⟩
  exact ⟨g, cap, cur, rfl, h1, (hf.2 g (hg g rfl).1 (hg g rfl).2).trans h2, h3⟩
theorem POwn.fro {w w' : World} {B C : Nat} {v : Value} {l : List Pv} (h : POwn w B v l) (hf : Fro C w w') (h1 : ∀ g, v.ownBlock = some g → C ≤ g ∧ g < w.heap.size) (h2 : ∀ x ∈ l, ∀ g, x.a.ownBlock = some g → C ≤ g ∧ g < w.heap.size) : POwn w' B v l :=
  ⟨own_fro h.row hf h1, fun x hx => own_fro (h.rows x hx) hf (h2 x hx), h.pw⟩
set_option maxHeartbeats 8000000 in
theorem overpr_c (C : Nat) (l : List Pv) (v : Value) (w : World) (B : Nat) (h : POwn w B v l) (hn : l.length ≤ 1000000) (hv : ∀ x ∈ l, x.ns.length ≤ 1000000) (hB : B ≤ w.heap.size) (hC1 : ∀ g, v.ownBlock = some g → g < C) (hC2 : ∀ x ∈ l, ∀ g, x.a.ownBlock = some g → g < C) :
    Calls Tryz.prog 19 #[v] w fun e w' => e = .returned (.tuple #[]) ∧ Below B w w' ∧ Fro C w w' := by
  have HV := Lib.hid hv
  rcases h.row.2 with ⟨rfl, h0⟩ | ⟨g, cap, cur, rfl, hg, hh, hnn, _⟩
  · go_enter Tryz.func19, Tryz.ntmps19
    go_wp2
    go_loopw [2] (fun v2 wr => v2 = .int .i64 0 ∧ wr = w) (fun _ _ => 0)
    case atStart => exact ⟨rfl, rfl⟩
    case round =>
      obtain ⟨rfl, rfl⟩ := hrel
      go_wp2
      go_end0
      exact ⟨rfl, Below.refl _ _, Fro.refl _ _⟩
  · obtain ⟨ho, hBg⟩ := h.ov
    have HO := Lib.hid ho
    have HC2 := Lib.hid hC2
    have hgC : g < C := hC1 g rfl
    clear hC1 hC2
    clear h ho hv hh hg hnn
    go_enter Tryz.func19, Tryz.ntmps19
    go_wp2
    go_loopw [2] (fun v2 wr => ∃ k : Nat, k ≤ l.length ∧ v2 = .int .i64 (k : Int) ∧ Hid (OvAt wr B g l k) ∧ Hid (Below B w wr) ∧ Hid (Fro C w wr)) (fun v2 _ => l.length - (RowKit.intOf v2).toNat)
    case atStart => exact ⟨0, by omega, rfl, HO, Lib.hid (Below.refl _ _), Lib.hid (Fro.refl _ _)⟩
    case round =>
      obtain ⟨k, hk, rfl, HK, HB, HF⟩ := hrel
      by_cases hp : k < l.length
      · obtain ⟨cs, hx, hsz, hat⟩ := HK.out.cells
        have hrows := HK.out.rows
        have hpw := HK.out.pw
        rw [List.drop_eq_getElem_cons hp] at hrows hpw
        have ca := hat k hp (Nat.le_refl _)
        have hv1 := HV.out l[k] (List.getElem_mem hp)
        have hx1 := HC2.out l[k] (List.getElem_mem hp)
        have ra := hrows l[k] (List.mem_cons_self ..)
        have rest : ∀ x ∈ l.drop (k + 1), Row wr B x.a x.ns := fun x hx => hrows x (List.mem_cons_of_mem _ hx)
        simp only [List.map_cons, List.pairwise_cons] at hpw
        obtain ⟨pa, pr⟩ := hpw
        have HAT : Hid (∀ j (hj : j < l.length), k + 1 ≤ j → cs[j * 3 + 2]? = some l[j].a) := Lib.hid (fun j hj hkj => hat j hj (by omega))
        generalize l[k] = X at ca hv1 ra pa hx1
        obtain ⟨xo, xs, A, ns⟩ := X
        simp only at ca hv1 ra pa hx1
        have HX1 := Lib.hid hx1
        clear hx1
        have C1 := Lib.hid (over_c ns A wr B ra hv1 (Nat.le_trans hB HB.out.size))
        have HXr := Lib.hid hx
        have HRA := Lib.hid ra
        have HREST := Lib.hid rest
        have HPA := Lib.hid pa
        have HPR := Lib.hid pr
        have HSZ := Lib.hid hsz
        have c1 : wr.cell? ⟨g, k * 3 + 2, none⟩ = some A := (hx.cell _).trans ca
        have hgl := hx.lt
        obtain ⟨adA, capA, rfl, _⟩ := ra.nl.form
        have hpi : decide ((k : Int) < (l.length : Int)) = true := by simpa using hp
        clear hat hrows pa pr ra rest hx hsz
        go_wp2_with fail
        refine C1.out.mono ?_
        rintro e w3 ⟨rfl, g3⟩
        have hx3 := HXr.out.far g3 (fun e => tag_bx HXr.out HRA.out e.symm)
        have hb3 : Below B w w3 := HB.out.trans (below_of_grown g3 (Nat.le_trans hB HB.out.size) (fun i hi => (World.ownsRow.lt HRA.out i hi).1))
        have hf3 : Fro C w w3 := HF.out.trans (Fro.of_grown g3 HX1.out)
        have rest3 : ∀ x ∈ l.drop (k + 1), Row w3 B x.a x.ns := fun x hx =>
          (HREST.out x hx).far g3 (by rintro i hi i' hi' rfl; exact HPA.out x.a (List.mem_map_of_mem hx) i hi hi')
        have hsz := HSZ.out
        have ex : ∀ t, t < 3 → ∃ u, w3.cell? ⟨g, k * 3 + t, none⟩ = some u := fun t ht => ⟨cs[k * 3 + t]'(by omega), (hx3.cell _).trans (Array.getElem?_eq_getElem (by omega))⟩
        obtain ⟨y0, e0⟩ := ex 0 (by omega)
        rw [Nat.add_zero] at e0
        obtain ⟨y1, e1⟩ := ex 1 (by omega)
        obtain ⟨y2, e2⟩ := ex 2 (by omega)
        have s0 := hx3.soft (k * 3)
        have s1 := hx3.soft (k * 3 + 1)
        have s2 := hx3.soft (k * 3 + 2)
        have hgl3 := hx3.lt
        have HX3 := Lib.hid hx3
        have HB3 := Lib.hid hb3
        have HREST3 := Lib.hid rest3
        have HF3 := Lib.hid hf3
        clear g3 hx3 hb3 rest3 ex c1 hsz hf3
        have fin : Hid (OvAt (set3 w3 g (k * 3) (.int .i64 (-9)) (.int .i64 0) (.slice none 0 0)) B g l (k + 1)) := Lib.hid (by
          obtain ⟨ds, hd1, hd2, hd3⟩ := bx_set3At (o := k * 3) HX3.out (.int .i64 (-9)) (.int .i64 0) (.slice none 0 0)
          refine ⟨⟨ds, hd1, by rw [hd2]; exact HSZ.out, fun j hj hkj => ?_⟩, fun x hx => row_set3 (HREST3.out x hx) (tag_bx HX3.out (HREST3.out x hx)) _ _ _, HPR.out⟩
          rw [hd3 _ (.inr (by omega))]
          exact HAT.out j hj hkj)
        have finb : Hid (Below B w (set3 w3 g (k * 3) (.int .i64 (-9)) (.int .i64 0) (.slice none 0 0))) := Lib.hid (below_set3 HB3.out hBg _ _ _ _)
        have finf : Hid (Fro C w (set3 w3 g (k * 3) (.int .i64 (-9)) (.int .i64 0) (.slice none 0 0))) := Lib.hid (HF3.out.trans (Fro.of_grown (grown_set3 _ _ _ _ _ _) (fun i e => by cases e; exact hgC)))
        go_wp2
        go_roundw
        case rel => exact ⟨k + 1, hp, by go_num, fin, finb, finf⟩
        case measure => simp [RowKit.intOf]; omega
      · go_wp2
        go_end0
        exact ⟨rfl, HB.out, HF.out⟩
end Go.Proofs.YtdjlgiinekighaaGreatDoor.P
