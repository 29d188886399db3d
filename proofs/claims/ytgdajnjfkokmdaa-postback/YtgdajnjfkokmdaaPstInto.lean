/-
  Into of chapter 10's own answer, by contract: a Key among rising ones.
-/
import Derived.Test.YtgdajnjfkokmdaaPstLess
namespace Go.Proofs.Ytgdajnjfkokmdaa
open Go.RowKit Go.Lib
set_option maxRecDepth 100000

theorem sliced_is (ad : Option Addr) (lo hi cap z : Nat) : ∃ A N C, sliced ad lo hi cap z = .slice A N C := by
  unfold sliced
  cases ad with
  | none => exact ⟨_, _, _, rfl⟩
  | some a => exact ⟨_, _, _, rfl⟩
/-- A piece of a list of Keys holds the piece of them. -/
theorem krd_sliced {w : World} {ad : Option Addr} {cap : Nat} {l : List Ky} (h : KRd w (.slice ad l.length cap) l) (lo hi : Nat) (hlh : lo ≤ hi) (hhi : hi ≤ l.length) : KRd w (sliced ad lo hi cap 2) ((l.drop lo).take (hi - lo)) := by
  have hlen : ((l.drop lo).take (hi - lo)).length = hi - lo := by simp; omega
  obtain ⟨ad', cap', e, hcap, h2⟩ := h
  simp only [Value.slice.injEq, true_and] at e
  obtain ⟨rfl, rfl⟩ := e
  refine ⟨if cap = lo then ad else ad.map fun a => a.add (lo * 2), cap - lo, ?_, by rw [hlen]; omega, fun h0 => ?_⟩
  · rw [hlen]
    unfold sliced
    cases ad with
    | none => simp
    | some a =>
      by_cases h0 : cap = lo
      · simp [h0]
      · simp [h0]
  · rw [hlen] at h0
    obtain ⟨b, o, rfl, hs⟩ := h2 (by omega)
    have hne : ¬ cap = lo := by omega
    rw [if_neg hne]
    refine ⟨b, o + lo * 2, by simp only [Option.map_some]; rw [Go.WideShapes.add_plain], fun k hk => ?_⟩
    rw [hlen] at hk
    have h3 := hs (lo + k) (by omega)
    rw [List.getElem_take, List.getElem_drop, show o + lo * 2 + k * 2 = o + (lo + k) * 2 by omega]
    exact h3
theorem kslice_run (ad : Option Addr) (n cap : Nat) (lo hi : Option Value) (l h : Nat) (W : World) (hb : (Instr.sliceBounds true n cap lo hi none).run Try.prog W = .ok (l, h, cap) W) : (Instr.sliceAt 25 (.slice ad n cap) lo hi none).run Try.prog W = .ok (sliced ad l h cap 2) W := by
  have hs : (sizeOf 34).run Try.prog W = .ok 2 W := by
    have := Try.sizeOf34
    simp [sizeOf]
    rfl
  rw [run_sliceAt_slice W _ _ _ _ _ Try.underlying25, run_slice_any W _ _ _ _ Try.underlying25, hb]
  simp only [Result.andThen]
  rw [show Try.prog.elem 25 = 34 by kernel_rfl, hs]
theorem step_kapp {w : World} {ops : Array Oper} {o : Oper} {a : Act} {K : Act → World → Prop} {Q : Exit → Act → World → Prop} {E : Prop} (hgd : o.guard = none) (s x : Operand)
    (ho : o.op = .call { callee := .builtin .append, args := #[s, x], argTypes := #[25, 25] })
    (B : Nat) (v u : Value) (m l : List Ky) (hs : a.eval s = v) (hx : a.eval x = u) (hv : KRow w B v m) (hu : KRd w u l) (hn : m.length + l.length ≤ 1000000) (hB : B ≤ w.heap.size)
    (h : ∀ v' w', KRow w' B v' (m ++ l) → w.grownBy w' v.ownBlock → K (a.put o.dst v') w') :
    if Region.wanted o (yielded ops a.tmps) = true then Oper.wp Try.prog o a w K Q else E := by
  have hw : Region.wanted o (yielded ops a.tmps) = true := by simp [Region.wanted, hgd]
  rw [if_pos hw]
  obtain ⟨A, C, w', hr, h2, h3, _⟩ := kapp_run m l v u w o.type B hv hu hn hB
  unfold Oper.wp execOp
  simp only [ho, resolve, invoke, builtin, Sem.run_bind, Sem.run_pure, Result.andThen_ok, List.map_toArray, List.map_cons, List.map_nil, hs, hx, hr]
  exact h _ w' h2 h3
theorem krd_one {w : World} {B : Nat} {o s : Int} (h : Bx 34 w B #[.int .i64 o, .int .i64 s]) : KRd w (.slice (some ⟨B, 0, none⟩) 1 1) [(o, s)] := by
  refine ⟨_, 1, rfl, by simp, fun _ => ⟨B, 0, rfl, fun k hk => ?_⟩⟩
  match k, hk with
  | 0, _ => exact ⟨h.cell 0, h.cell 1⟩
theorem tw_split (f : Ky → Bool) : ∀ (l : List Ky) (i : Nat), i ≤ l.length → (∀ t (ht : t < l.length), t < i → f l[t] = true) → (∀ h : i < l.length, f l[i] = false) → l.takeWhile f = l.take i ∧ l.dropWhile f = l.drop i
  | [], i, hi, _, _ => by simp
  | a :: l, 0, _, _, h => by
    have := h (by simp)
    simp only [List.getElem_cons_zero] at this
    simp [this]
  | a :: l, i + 1, hi, h1, h2 => by
    have h0 := h1 0 (by simp) (by omega)
    simp only [List.getElem_cons_zero] at h0
    have ih := tw_split f l i (by simpa using hi) (fun t ht hti => h1 (t + 1) (by simpa using ht) (by omega)) (fun h => h2 (by simpa using h))
    simp [h0, ih]
set_option maxHeartbeats 16000000 in
theorem into_c (l : List Ky) (o s : Int) (v : Value) (w : World) (B : Nat) (h : KRow w B v l) (hB : B ≤ w.heap.size) (hn : l.length ≤ 100000) :
    Calls Try.prog 41 #[v, .agg #[.int .i64 o, .int .i64 s]] w fun e w' => ∃ v', e = .returned v' ∧ KRow w' B v' (into l (o, s)) ∧ Below w.heap.size w w' := by
  obtain ⟨ad, cap, rfl, hcap⟩ := own_form h
  have hal := alloc_below w (.cells #[.int .i64 o, .int .i64 s] 34)
  have bx := Bx.new 34 w #[.int .i64 o, .int .i64 s]
  obtain ⟨w1, hw1⟩ : ∃ w1, w1 = w.alloc (.cells #[.int .i64 o, .int .i64 s] 34) := ⟨_, rfl⟩
  rw [← hw1] at hal bx
  have HK := Lib.hid (h.below hal)
  have CB := Lib.hid bx
  have HW := Lib.hid hw1
  have HAL := Lib.hid hal
  have HBB := Lib.hid hB
  clear h hal bx hw1
  go_enter Try.func41, Try.ntmps41
  go_wp2
  go_loopw [5] (fun v5 wr => ∃ k : Nat, k ≤ l.length ∧ v5 = .int .i64 (k : Int) ∧ Hid (Below w1.heap.size w1 wr) ∧ Hid (∀ t (ht : t < l.length), t < k → kLt l[t] (o, s) = true)) (fun v5 _ => l.length - (intOf v5).toNat)
  case atStart => exact ⟨0, by omega, rfl, Lib.hid (by rw [HW.out]; exact Below.refl _ _), Lib.hid (fun t _ ht => by omega)⟩
  case round =>
    obtain ⟨k, hk, rfl, HB, hs⟩ := hrel
    have hgl := (CB.out.below HB.out).lt
    by_cases hp : k < l.length
    · obtain ⟨ad', cap', e1, _, c3⟩ := (HK.out.below HB.out).rd
      simp only [Value.slice.injEq, true_and] at e1
      obtain ⟨rfl, rfl⟩ := e1
      obtain ⟨g, o1, rfl, c1⟩ := c3 (by omega)
      have a1 := c1 k hp
      have HP := Lib.hid hp
      have HT : Hid (∀ y, l[k] = y → kLt y (o, s) = true → ∀ t (ht : t < l.length), t < k + 1 → kLt l[t] (o, s) = true) := Lib.hid (fun y hy h t ht htk => by
        subst hy
        rcases Nat.lt_or_ge t k with h1 | h1
        · exact hs.out t ht h1
        · obtain rfl : t = k := by omega
          exact h)
      have HF : Hid (∀ y, l[k] = y → kLt y (o, s) = false → l.takeWhile (fun x => kLt x (o, s)) = l.take k ∧ l.dropWhile (fun x => kLt x (o, s)) = y :: l.drop (k + 1)) := Lib.hid (fun y hy h => by
        subst hy
        have h1 := tw_split (fun x => kLt x (o, s)) l k hk hs.out (fun _ => h)
        rw [h1.1, h1.2, List.drop_eq_getElem_cons hp]
        exact ⟨rfl, rfl⟩)
      have HD : Hid (∀ y, l[k] = y → l.drop k = y :: l.drop (k + 1)) := Lib.hid (fun y hy => by subst hy; exact List.drop_eq_getElem_cons hp)
      generalize hy : l[k] = y at a1
      obtain ⟨yo, ys⟩ := y
      have HY := Lib.hid hy
      have HA1 := Lib.hid a1
      have HS : Hid (∀ W, Below wr.heap.size wr W → W.cell? ⟨w.heap.size, 0, none⟩ = some (.int .i64 o) ∧ W.cell? ⟨w.heap.size, 1, none⟩ = some (.int .i64 s) ∧ W.cell? ⟨g, o1 + k * 2, none⟩ = some (.int .i64 yo) ∧ W.cell? ⟨g, o1 + k * 2 + 1, none⟩ = some (.int .i64 ys)) := Lib.hid (fun W hb => ⟨(CB.out.below (bn HB.out hb)).cell 0, (CB.out.below (bn HB.out hb)).cell 1, (a1.below hb).1, (a1.below hb).2⟩)
      have CK := Lib.hid (fun W => refbefore_c yo ys o s W)
      have hgl1 := World.block_lt_of_cell? _ _ a1.1
      clear c3 c1 a1 hy
      cases hL : kLt (yo, ys) (o, s) with
      | true =>
        rw [hL] at CK
        have HT2 := Lib.hid (HT.out _ HY.out hL)
        clear hL HT HF HD
        go_wp2_with fail
        go_region_held3 (fun W => W.cell? ⟨w.heap.size, 0, none⟩ = some (.int .i64 o) ∧ W.cell? ⟨w.heap.size, 1, none⟩ = some (.int .i64 s) ∧ W.cell? ⟨g, o1 + k * 2, none⟩ = some (.int .i64 yo) ∧ W.cell? ⟨g, o1 + k * 2 + 1, none⟩ = some (.int .i64 ys)) (exact HS.out _ (by first | assumption | exact (Below.refl _ _).drew | exact Below.refl _ _))
          (first
          | (go_at_call 28; refine (CK.out _).mono ?_; rintro e w5 ⟨rfl, b5⟩; have b5' : Below wr.heap.size wr w5 := bn (by first | assumption | exact (Below.refl _ _).drew | exact Below.refl _ _) b5; clear b5)
          | fail)
        have HB5 := Lib.hid (bn HB.out b5')
        clear b5' HS CK
        go_wp2
        go_roundw
        case rel => exact ⟨k + 1, HP.out, by go_num, HB5, HT2⟩
        case measure => have := HP.out; simp [intOf]; omega
      | false =>
        rw [hL] at CK
        have HF2 := Lib.hid (HF.out _ HY.out hL)
        clear hL HT HF
        go_wp2_with fail
        go_region_held3 (fun W => W.cell? ⟨w.heap.size, 0, none⟩ = some (.int .i64 o) ∧ W.cell? ⟨w.heap.size, 1, none⟩ = some (.int .i64 s) ∧ W.cell? ⟨g, o1 + k * 2, none⟩ = some (.int .i64 yo) ∧ W.cell? ⟨g, o1 + k * 2 + 1, none⟩ = some (.int .i64 ys)) (exact HS.out _ (by first | assumption | exact (Below.refl _ _).drew | exact Below.refl _ _))
          (first
          | (go_at_call 28; refine (CK.out _).mono ?_; rintro e w5 ⟨rfl, b5⟩; have b5' : Below wr.heap.size wr w5 := bn (by first | assumption | exact (Below.refl _ _).drew | exact Below.refl _ _) b5; clear b5)
          | fail)
        have HB8 := Lib.hid (bn HB.out b5')
        obtain ⟨c0, c1, y0, y1⟩ := HS.out w5 b5'
        have hgl2 := World.block_lt_of_cell? _ _ c0
        have hgl3 := World.block_lt_of_cell? _ _ y0
        clear b5' HS CK
        cases e1 : (yo == o && ys == s) with
        | true =>
          have q : ∀ W, (Op.equalIn 10000 34 (.agg #[.int .i64 yo, .int .i64 ys]) (.agg #[.int .i64 o, .int .i64 s])).run Try.prog W = .ok true W := fun W => by rw [← e1]; exact eq_key yo ys o s W
          have HI : Hid (into l (o, s) = l) := Lib.hid (by
            simp only [Bool.and_eq_true, beq_iff_eq] at e1
            unfold into
            rw [HF2.out.2, List.head?_cons, e1.1, e1.2, if_pos rfl])
          clear e1
          go_wp2_with fail
          go_quiet (fail)
          go_wp2
          go_ret
          exact ⟨_, rfl, by rw [HI.out]; exact HK.out.below (below_drewN HB8.out _), bn HAL.out (below_drewN HB8.out _)⟩
        | false =>
          have q : ∀ W, (Op.equalIn 10000 34 (.agg #[.int .i64 yo, .int .i64 ys]) (.agg #[.int .i64 o, .int .i64 s])).run Try.prog W = .ok false W := fun W => by rw [← e1]; exact eq_key yo ys o s W
          have HI : Hid (into l (o, s) = l.take k ++ (o, s) :: l.drop k) := Lib.hid (by
            unfold into
            rw [HF2.out.2, List.head?_cons, if_neg (by intro e; cases e; simp at e1), HF2.out.1, HD.out _ HY.out])
          have HB9 : Hid (∀ n, Below w1.heap.size w1 (w5.drewN n)) := Lib.hid (fun n => below_drewN HB8.out n)
          clear e1 HF2 HD HB8
          go_wp2_with fail
          go_quiet (fail)
          have HB8 : Hid (Below w1.heap.size w1 (w5.drewN nq)) := Lib.hid (HB9.out _)
          obtain ⟨W0, hW0⟩ : ∃ W0, W0 = w5.drewN nq := ⟨_, rfl⟩
          rw [← hW0] at HB8
          obtain ⟨A1, N1, C1, hV1⟩ : ∃ A1 N1 C1, sliced (some ⟨g, o1, none⟩) 0 k cap 2 = .slice A1 N1 C1 := sliced_is ..
          obtain ⟨A3, N3, C3, hV3⟩ : ∃ A3 N3 C3, sliced (some ⟨g, o1, none⟩) k l.length cap 2 = .slice A3 N3 C3 := sliced_is ..
          have r1 : ∀ W, (Instr.sliceAt 25 (.slice (some ⟨g, o1, none⟩) l.length cap) none (some (.int .i64 (k : Int))) none).run Try.prog W = .ok (.slice A1 N1 C1) W := fun W => by
            rw [← hV1]
            exact kslice_run (some ⟨g, o1, none⟩) _ cap _ _ _ _ W (by simp [Instr.sliceBounds, run_sliceBound_if, show k ≤ cap by omega])
          have r3 : ∀ W, (Instr.sliceAt 25 (.slice (some ⟨g, o1, none⟩) l.length cap) (some (.int .i64 (k : Int))) none none).run Try.prog W = .ok (.slice A3 N3 C3) W := fun W => by
            rw [← hV3]
            exact kslice_run (some ⟨g, o1, none⟩) _ cap _ _ _ _ W (by simp [Instr.sliceBounds, run_sliceBound_if, hk])
          have HV1 : Hid (∀ W, Below W0.heap.size W0 W → KRd W (.slice A1 N1 C1) (l.take k)) := Lib.hid (fun W hb => by
            have h := (krd_sliced (HK.out.below (bn HB8.out hb)).rd 0 k (by omega) hk)
            rwa [hV1, List.drop_zero, Nat.sub_zero] at h)
          have HV3 : Hid (∀ W, Below W0.heap.size W0 W → KRd W (.slice A3 N3 C3) (l.drop k)) := Lib.hid (fun W hb => by
            have h := (krd_sliced (HK.out.below (bn HB8.out hb)).rd k l.length hk (Nat.le_refl _))
            rwa [hV3, List.take_of_length_le (by simp)] at h)
          have HC8 : Hid (∀ W, Below W0.heap.size W0 W → W.cell? ⟨w.heap.size, 0, none⟩ = some (.int .i64 o) ∧ W.cell? ⟨w.heap.size, 1, none⟩ = some (.int .i64 s)) := Lib.hid (fun W hb => ⟨(CB.out.below (bn HB8.out hb)).cell 0, (CB.out.below (bn HB8.out hb)).cell 1⟩)
          have HSZ := Lib.hid HB8.out.size
          clear hV1 hV3
          go_wp2_with fail
          rw [← hW0]
          clear hW0
          go_region_held3 (fun W => W.cell? ⟨w.heap.size, 0, none⟩ = some (.int .i64 o) ∧ W.cell? ⟨w.heap.size, 1, none⟩ = some (.int .i64 s)) (exact HC8.out _ (by first | assumption | exact Below.refl _ _ | exact (Below.refl _ _).drew | exact alloc_below _ _ | exact (alloc_below _ _).drew | exact ba.alloc ba.size _ | exact (ba.alloc ba.size _).drew))
            (first
            | (refine step_kapp rfl _ _ rfl W0.heap.size vb (.slice A3 N3 C3) (l.take k ++ [(o, s)]) (l.drop k) rfl rfl (by exact hrb) (HV3.out _ (by exact bb)) (by simp; omega) (by exact bb.size) ?_; intro vc wc hrc hgc; have bc : Below W0.heap.size W0 wc := bb.trans (below_of_grown hgc bb.size (fun g hg => (World.ownsRow.lt hrb g hg).1)))
            | (refine step_kapp rfl _ _ rfl W0.heap.size va (.slice (some ⟨W0.heap.size, 0, none⟩) 1 1) (l.take k) [(o, s)] rfl rfl (by exact hra) (by exact krd_one ((hga.block W0.heap.size (by simp) (by intro h; cases h)).trans (Bx.new 34 W0 _))) (by simp; omega) (by exact ba.size) ?_; intro vb wb hrb hgb; have bb : Below W0.heap.size W0 wb := ba.trans (below_of_grown hgb ba.size (fun g hg => (World.ownsRow.lt hra g hg).1)))
            | (refine step_kapp rfl _ _ rfl W0.heap.size va (.slice (some ⟨wa.heap.size, 0, none⟩) 1 1) (l.take k) [(o, s)] rfl rfl (by first | exact own_below hra (alloc_below _ _) | exact own_below hra (alloc_below _ _).drew) (by exact krd_one (Bx.new 34 wa _)) (by simp; omega) (by first | exact (ba.alloc ba.size _).size | exact (ba.alloc ba.size _).drew.size) ?_; intro vb wb hrb hgb; have bb : Below W0.heap.size W0 wb := (ba.alloc ba.size _).trans (below_of_grown hgb (ba.alloc ba.size _).size (fun g hg => (World.ownsRow.lt hra g hg).1)))
            | (refine step_kapp rfl _ _ rfl W0.heap.size (.slice none 0 0) (.slice A1 N1 C1) [] (l.take k) rfl rfl (World.ownsRow_nil _ _ _ _) (HV1.out _ (by first | assumption | exact Below.refl _ _ | exact (Below.refl _ _).drew | exact alloc_below _ _ | exact (alloc_below _ _).drew)) (by simp; omega) (by first | exact Nat.le_refl _ | (simp; done)) ?_; intro va wa hra hga; have ba : Below W0.heap.size W0 wa := bn (by first | assumption | exact Below.refl _ _ | exact (Below.refl _ _).drew | exact alloc_below _ _ | exact (alloc_below _ _).drew) (below_of_grown hga (Nat.le_refl _) (by intro g hg; cases hg)))
            | fail)
          all_goals
            go_wp2
            go_ret
            exact ⟨_, rfl, by rw [HI.out]; have h := own_mono hrc (Nat.le_trans HBB.out (Nat.le_trans HAL.out.size HSZ.out)); rwa [List.append_assoc] at h, bn HAL.out (HB8.out.trans (bc.mono HB8.out.size))⟩
    · have HI : Hid (into l (o, s) = l.take k ++ (o, s) :: l.drop k) := Lib.hid (by
        have h1 := tw_split (fun x => kLt x (o, s)) l k hk hs.out (fun h => absurd h hp)
        unfold into
        rw [h1.1, h1.2, List.drop_of_length_le (by omega), if_neg (by simp)])
      have HS : Hid (∀ W, Below wr.heap.size wr W → W.cell? ⟨w.heap.size, 0, none⟩ = some (.int .i64 o) ∧ W.cell? ⟨w.heap.size, 1, none⟩ = some (.int .i64 s)) := Lib.hid (fun W hb => ⟨(CB.out.below (bn HB.out hb)).cell 0, (CB.out.below (bn HB.out hb)).cell 1⟩)
      have hlk : decide ((k : Int) < (l.length : Int)) = false := by rw [decide_eq_false_iff_not]; omega
      have HS4 : Hid (∀ W, Below wr.drew.heap.size wr.drew W → W.cell? ⟨w.heap.size, 0, none⟩ = some (.int .i64 o) ∧ W.cell? ⟨w.heap.size, 1, none⟩ = some (.int .i64 s)) := Lib.hid (fun W hb => HS.out W (bn (Below.refl _ _).drew hb))
      go_wp2_with fail
      refine wp_region_held_drew (S := fun W => W.cell? ⟨w.heap.size, 0, none⟩ = some (.int .i64 o) ∧ W.cell? ⟨w.heap.size, 1, none⟩ = some (.int .i64 s)) (by kernel_rfl) (HS.out _ (Below.refl _ _).drew) (fun hHeld => ?_)
      refine take_ok (i := 0) (d := 6) (v := ?_) rfl rfl (by kernel_rfl) (by kernel_rfl) (by kernel_rfl) (fun _ _ _ h => h) (Or.inl ⟨by rfl, ?_⟩) (by assumption) ?_
      rotate_left
      · intro w9 hSw
        try dsimp only at hSw
        first | (go_simp; done) | (go_simp; with_reducible rfl)
      try simp only [Act.put, List.setIfInBounds_toArray, List.set_cons_zero, List.set_cons_succ]
      refine take_ok (i := 1) (d := 7) (v := ?_) rfl rfl (by kernel_rfl) (by kernel_rfl) (by kernel_rfl) (fun _ _ _ h => h) (Or.inl ⟨by rfl, ?_⟩) (by assumption) ?_
      rotate_left
      · intro w9 hSw
        try dsimp only at hSw
        first | (go_simp; done) | (go_simp; with_reducible rfl)
      try simp only [Act.put, List.setIfInBounds_toArray, List.set_cons_zero, List.set_cons_succ]
      refine take_ok (i := 2) (d := 8) (v := ?_) rfl rfl (by kernel_rfl) (by kernel_rfl) (by kernel_rfl) (fun _ _ _ h => h) (Or.inl ⟨by rfl, ?_⟩) (by assumption) ?_
      rotate_left
      · intro w9 hSw
        try dsimp only at hSw
        first | (go_simp; done) | (go_simp; with_reducible rfl)
      try simp only [Act.put, List.setIfInBounds_toArray, List.set_cons_zero, List.set_cons_succ]
      refine take_ok (i := 3) (d := 9) (v := ?_) rfl rfl (by kernel_rfl) (by kernel_rfl) (by kernel_rfl) (fun _ _ _ h => h) (Or.inl ⟨by rfl, ?_⟩) (by assumption) ?_
      rotate_left
      · intro w9 hSw
        try dsimp only at hSw
        first | (go_simp; done) | (go_simp; with_reducible rfl)
      try simp only [Act.put, List.setIfInBounds_toArray, List.set_cons_zero, List.set_cons_succ]
      refine take_ok (i := 4) (d := 10) (v := ?_) rfl rfl (by kernel_rfl) (by kernel_rfl) (by kernel_rfl) (fun _ _ _ h => h) (Or.inl ⟨by rfl, ?_⟩) (by assumption) ?_
      rotate_left
      · intro w9 hSw
        try dsimp only at hSw
        first | (go_simp; done) | (go_simp; with_reducible rfl)
      try simp only [Act.put, List.setIfInBounds_toArray, List.set_cons_zero, List.set_cons_succ]
      refine take_ok (i := 5) (d := 11) (v := undef) rfl rfl (by kernel_rfl) (by kernel_rfl) (by kernel_rfl) (fun _ _ _ h => h) (Or.inr ⟨by rfl, rfl⟩) (by assumption) ?_
      try simp only [Act.put, List.setIfInBounds_toArray, List.set_cons_zero, List.set_cons_succ]
      refine take_ok (i := 6) (d := 12) (v := undef) rfl rfl (by kernel_rfl) (by kernel_rfl) (by kernel_rfl) (fun _ _ _ h => h) (Or.inr ⟨by rfl, rfl⟩) (by assumption) ?_
      try simp only [Act.put, List.setIfInBounds_toArray, List.set_cons_zero, List.set_cons_succ]
      refine take_ok (i := 7) (d := 13) (v := undef) rfl rfl (by kernel_rfl) (by kernel_rfl) (by kernel_rfl) (fun _ _ _ h => h) (Or.inr ⟨by rfl, rfl⟩) (by assumption) ?_
      try simp only [Act.put, List.setIfInBounds_toArray, List.set_cons_zero, List.set_cons_succ]
      refine take_ok (i := 8) (d := 14) (v := undef) rfl rfl (by kernel_rfl) (by kernel_rfl) (by kernel_rfl) (fun _ _ _ h => h) (Or.inr ⟨by rfl, rfl⟩) (by assumption) ?_
      try simp only [Act.put, List.setIfInBounds_toArray, List.set_cons_zero, List.set_cons_succ]
      refine take_ok (i := 9) (d := 15) (v := undef) rfl rfl (by kernel_rfl) (by kernel_rfl) (by kernel_rfl) (fun _ _ _ h => h) (Or.inr ⟨by rfl, rfl⟩) (by assumption) ?_
      try simp only [Act.put, List.setIfInBounds_toArray, List.set_cons_zero, List.set_cons_succ]
      refine take_ok (i := 10) (d := 16) (v := undef) rfl rfl (by kernel_rfl) (by kernel_rfl) (by kernel_rfl) (fun _ _ _ h => h) (Or.inr ⟨by rfl, rfl⟩) (by assumption) ?_
      try simp only [Act.put, List.setIfInBounds_toArray, List.set_cons_zero, List.set_cons_succ]
      refine take_ok (i := 11) (d := 17) (v := ?_) rfl rfl (by kernel_rfl) (by kernel_rfl) (by kernel_rfl) (fun _ _ _ h => h) (Or.inl ⟨by rfl, ?_⟩) (by assumption) ?_
      rotate_left
      · intro w9 hSw
        try dsimp only at hSw
        first | (go_simp; done) | (go_simp; with_reducible rfl)
      try simp only [Act.put, List.setIfInBounds_toArray, List.set_cons_zero, List.set_cons_succ]
      refine wpAnyH_done (by kernel_rfl) ?_ _
      clear hHeld
      go_wp2_with fail
      refine wp_region_held_drew (S := fun W => W.cell? ⟨w.heap.size, 0, none⟩ = some (.int .i64 o) ∧ W.cell? ⟨w.heap.size, 1, none⟩ = some (.int .i64 s)) (by kernel_rfl) (HS4.out _ (Below.refl _ _).drew) (fun hHeld => ?_)
      refine take_ok (i := 0) (d := 20) (v := ?_) rfl rfl (by kernel_rfl) (by kernel_rfl) (by kernel_rfl) (fun _ _ _ h => h) (Or.inl ⟨by rfl, ?_⟩) (by assumption) ?_
      rotate_left
      · intro w9 hSw
        try dsimp only at hSw
        first | (go_simp; done) | (go_simp; with_reducible rfl)
      try simp only [Act.put, List.setIfInBounds_toArray, List.set_cons_zero, List.set_cons_succ]
      refine take_ok (i := 1) (d := 21) (v := ?_) rfl rfl (by kernel_rfl) (by kernel_rfl) (by kernel_rfl) (fun _ _ _ h => h) (Or.inl ⟨by rfl, ?_⟩) (by assumption) ?_
      rotate_left
      · intro w9 hSw
        try dsimp only at hSw
        first | (go_simp; done) | (go_simp; with_reducible rfl)
      try simp only [Act.put, List.setIfInBounds_toArray, List.set_cons_zero, List.set_cons_succ]
      refine take_ok (i := 2) (d := 22) (v := ?_) rfl rfl (by kernel_rfl) (by kernel_rfl) (by kernel_rfl) (fun _ _ _ h => h) (Or.inl ⟨by rfl, ?_⟩) (by assumption) ?_
      rotate_left
      · intro w9 hSw
        try dsimp only at hSw
        first | (go_simp; done) | (go_simp; with_reducible rfl)
      try simp only [Act.put, List.setIfInBounds_toArray, List.set_cons_zero, List.set_cons_succ]
      refine take_ok (i := 3) (d := 23) (v := ?_) rfl rfl (by kernel_rfl) (by kernel_rfl) (by kernel_rfl) (fun _ _ _ h => h) (Or.inl ⟨by rfl, ?_⟩) (by assumption) ?_
      rotate_left
      · intro w9 hSw
        try dsimp only at hSw
        first | (go_simp; done) | (go_simp; with_reducible rfl)
      try simp only [Act.put, List.setIfInBounds_toArray, List.set_cons_zero, List.set_cons_succ]
      refine take_ok (i := 4) (d := 24) (v := ?_) rfl rfl (by kernel_rfl) (by kernel_rfl) (by kernel_rfl) (fun _ _ _ h => h) (Or.inl ⟨by rfl, ?_⟩) (by assumption) ?_
      rotate_left
      · intro w9 hSw
        try dsimp only at hSw
        first | (go_simp; done) | (go_simp; with_reducible rfl)
      try simp only [Act.put, List.setIfInBounds_toArray, List.set_cons_zero, List.set_cons_succ]
      refine take_ok (i := 5) (d := 25) (v := undef) rfl rfl (by kernel_rfl) (by kernel_rfl) (by kernel_rfl) (fun _ _ _ h => h) (Or.inr ⟨by rfl, rfl⟩) (by assumption) ?_
      try simp only [Act.put, List.setIfInBounds_toArray, List.set_cons_zero, List.set_cons_succ]
      refine take_ok (i := 6) (d := 26) (v := undef) rfl rfl (by kernel_rfl) (by kernel_rfl) (by kernel_rfl) (fun _ _ _ h => h) (Or.inr ⟨by rfl, rfl⟩) (by assumption) ?_
      try simp only [Act.put, List.setIfInBounds_toArray, List.set_cons_zero, List.set_cons_succ]
      refine take_ok (i := 7) (d := 27) (v := undef) rfl rfl (by kernel_rfl) (by kernel_rfl) (by kernel_rfl) (fun _ _ _ h => h) (Or.inr ⟨by rfl, rfl⟩) (by assumption) ?_
      try simp only [Act.put, List.setIfInBounds_toArray, List.set_cons_zero, List.set_cons_succ]
      refine take_ok (i := 8) (d := 28) (v := undef) rfl rfl (by kernel_rfl) (by kernel_rfl) (by kernel_rfl) (fun _ _ _ h => h) (Or.inr ⟨by rfl, rfl⟩) (by assumption) ?_
      try simp only [Act.put, List.setIfInBounds_toArray, List.set_cons_zero, List.set_cons_succ]
      refine take_ok (i := 9) (d := 29) (v := undef) rfl rfl (by kernel_rfl) (by kernel_rfl) (by kernel_rfl) (fun _ _ _ h => h) (Or.inr ⟨by rfl, rfl⟩) (by assumption) ?_
      try simp only [Act.put, List.setIfInBounds_toArray, List.set_cons_zero, List.set_cons_succ]
      refine take_ok (i := 10) (d := 30) (v := undef) rfl rfl (by kernel_rfl) (by kernel_rfl) (by kernel_rfl) (fun _ _ _ h => h) (Or.inr ⟨by rfl, rfl⟩) (by assumption) ?_
      try simp only [Act.put, List.setIfInBounds_toArray, List.set_cons_zero, List.set_cons_succ]
      refine take_ok (i := 11) (d := 31) (v := ?_) rfl rfl (by kernel_rfl) (by kernel_rfl) (by kernel_rfl) (fun _ _ _ h => h) (Or.inl ⟨by rfl, ?_⟩) (by assumption) ?_
      rotate_left
      · intro w9 hSw
        try dsimp only at hSw
        first | (go_simp; done) | (go_simp; with_reducible rfl)
      try simp only [Act.put, List.setIfInBounds_toArray, List.set_cons_zero, List.set_cons_succ]
      refine wpAnyH_done (by kernel_rfl) ?_ _
      clear hHeld
      have HB8 : Hid (Below w1.heap.size w1 wr.drew.drew) := Lib.hid HB.out.drew.drew
      obtain ⟨W0, hW0⟩ : ∃ W0, W0 = wr.drew.drew := ⟨_, rfl⟩
      rw [← hW0] at HB8
      obtain ⟨A1, N1, C1, hV1⟩ : ∃ A1 N1 C1, sliced ad 0 k cap 2 = .slice A1 N1 C1 := sliced_is ..
      obtain ⟨A3, N3, C3, hV3⟩ : ∃ A3 N3 C3, sliced ad k l.length cap 2 = .slice A3 N3 C3 := sliced_is ..
      have r1 : ∀ W, (Instr.sliceAt 25 (.slice ad l.length cap) none (some (.int .i64 (k : Int))) none).run Try.prog W = .ok (.slice A1 N1 C1) W := fun W => by
        rw [← hV1]
        exact kslice_run ad _ cap _ _ _ _ W (by simp [Instr.sliceBounds, run_sliceBound_if, show k ≤ cap by omega])
      have r3 : ∀ W, (Instr.sliceAt 25 (.slice ad l.length cap) (some (.int .i64 (k : Int))) none none).run Try.prog W = .ok (.slice A3 N3 C3) W := fun W => by
        rw [← hV3]
        exact kslice_run ad _ cap _ _ _ _ W (by simp [Instr.sliceBounds, run_sliceBound_if, hk])
      have HV1 : Hid (∀ W, Below W0.heap.size W0 W → KRd W (.slice A1 N1 C1) (l.take k)) := Lib.hid (fun W hb => by
        have h := (krd_sliced (HK.out.below (bn HB8.out hb)).rd 0 k (by omega) hk)
        rwa [hV1, List.drop_zero, Nat.sub_zero] at h)
      have HV3 : Hid (∀ W, Below W0.heap.size W0 W → KRd W (.slice A3 N3 C3) (l.drop k)) := Lib.hid (fun W hb => by
        have h := (krd_sliced (HK.out.below (bn HB8.out hb)).rd k l.length hk (Nat.le_refl _))
        rwa [hV3, List.take_of_length_le (by simp)] at h)
      have HC8 : Hid (∀ W, Below W0.heap.size W0 W → W.cell? ⟨w.heap.size, 0, none⟩ = some (.int .i64 o) ∧ W.cell? ⟨w.heap.size, 1, none⟩ = some (.int .i64 s)) := Lib.hid (fun W hb => ⟨(CB.out.below (bn HB8.out hb)).cell 0, (CB.out.below (bn HB8.out hb)).cell 1⟩)
      have HSZ := Lib.hid HB8.out.size
      clear hV1 hV3
      go_wp2_with fail
      rw [← hW0]
      clear hW0
      go_region_held3 (fun W => W.cell? ⟨w.heap.size, 0, none⟩ = some (.int .i64 o) ∧ W.cell? ⟨w.heap.size, 1, none⟩ = some (.int .i64 s)) (exact HC8.out _ (by first | assumption | exact Below.refl _ _ | exact (Below.refl _ _).drew | exact alloc_below _ _ | exact (alloc_below _ _).drew | exact ba.alloc ba.size _ | exact (ba.alloc ba.size _).drew))
        (first
        | (refine step_kapp rfl _ _ rfl W0.heap.size vb (.slice A3 N3 C3) (l.take k ++ [(o, s)]) (l.drop k) rfl rfl (by exact hrb) (HV3.out _ (by exact bb)) (by simp; omega) (by exact bb.size) ?_; intro vc wc hrc hgc; have bc : Below W0.heap.size W0 wc := bb.trans (below_of_grown hgc bb.size (fun g hg => (World.ownsRow.lt hrb g hg).1)))
        | (refine step_kapp rfl _ _ rfl W0.heap.size va (.slice (some ⟨W0.heap.size, 0, none⟩) 1 1) (l.take k) [(o, s)] rfl rfl (by exact hra) (by exact krd_one ((hga.block W0.heap.size (by simp) (by intro h; cases h)).trans (Bx.new 34 W0 _))) (by simp; omega) (by exact ba.size) ?_; intro vb wb hrb hgb; have bb : Below W0.heap.size W0 wb := ba.trans (below_of_grown hgb ba.size (fun g hg => (World.ownsRow.lt hra g hg).1)))
        | (refine step_kapp rfl _ _ rfl W0.heap.size va (.slice (some ⟨wa.heap.size, 0, none⟩) 1 1) (l.take k) [(o, s)] rfl rfl (by first | exact own_below hra (alloc_below _ _) | exact own_below hra (alloc_below _ _).drew) (by exact krd_one (Bx.new 34 wa _)) (by simp; omega) (by first | exact (ba.alloc ba.size _).size | exact (ba.alloc ba.size _).drew.size) ?_; intro vb wb hrb hgb; have bb : Below W0.heap.size W0 wb := (ba.alloc ba.size _).trans (below_of_grown hgb (ba.alloc ba.size _).size (fun g hg => (World.ownsRow.lt hra g hg).1)))
        | (refine step_kapp rfl _ _ rfl W0.heap.size (.slice none 0 0) (.slice A1 N1 C1) [] (l.take k) rfl rfl (World.ownsRow_nil _ _ _ _) (HV1.out _ (by first | assumption | exact Below.refl _ _ | exact (Below.refl _ _).drew | exact alloc_below _ _ | exact (alloc_below _ _).drew)) (by simp; omega) (by first | exact Nat.le_refl _ | (simp; done)) ?_; intro va wa hra hga; have ba : Below W0.heap.size W0 wa := bn (by first | assumption | exact Below.refl _ _ | exact (Below.refl _ _).drew | exact alloc_below _ _ | exact (alloc_below _ _).drew) (below_of_grown hga (Nat.le_refl _) (by intro g hg; cases hg)))
        | fail)
      all_goals
        go_wp2
        go_ret
        exact ⟨_, rfl, by rw [HI.out]; have h := own_mono hrc (Nat.le_trans HBB.out (Nat.le_trans HAL.out.size HSZ.out)); rwa [List.append_assoc] at h, bn HAL.out (HB8.out.trans (bc.mono HB8.out.size))⟩
end Go.Proofs.Ytgdajnjfkokmdaa
