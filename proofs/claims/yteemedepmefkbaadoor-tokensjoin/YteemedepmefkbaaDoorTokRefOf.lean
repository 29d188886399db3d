/-
  Chapter 1's own answer (grapevineref1): One, Of, by contract.
-/
import Derived.Test.YteemedepmefkbaaDoorTokRef
import Derived.Deep.AppendLies
namespace Go.Proofs.YteemedepmefkbaaDoor
open Go.RowKit Go.Shelf Go.Lib Go.Proofs.GvTok

theorem nz_at (rs : List Nat) (k : Nat) (hk : k < rs.length) (h : k < (nz rs).length) : (nz rs)[k] = ((rs[k] : Nat) : Int) := by simp [nz]
theorem nz_append (a b : List Nat) : nz (a ++ b) = nz a ++ nz b := by simp [nz]

set_option maxHeartbeats 1000000 in
theorem refone_bad (s : ByteArray) (w : World) (hs : s.size ≤ 9223372036854775807) (hT : Tabs w) (hv : validD s.data.toList = false) :
    Calls Tryd.prog 15 #[.string s] w fun e w' => e = .returned (.bool false) ∧ Below w.heap.size w w' := by
  have cV := refrunes_bad s w hs hT hv
  clear hv
  go_enter Tryd.func15, Tryd.ntmps15
  go_wp2_with (go_at_call 21; refine cV.mono ?_; rintro e w1 ⟨rfl, hb⟩)
  go_loopw [4] (fun v4 wr => v4 = .int .i64 0 ∧ wr = w1) (fun _ _ => 0)
  case atStart => exact ⟨rfl, rfl⟩
  case round =>
    obtain ⟨rfl, rfl⟩ := hrel
    go_wp2
    go_ret
    exact ⟨rfl, hb⟩

set_option maxHeartbeats 4000000 in
set_option maxRecDepth 1000000 in
theorem refone_ok (rs : List Nat) (s : ByteArray) (w : World) (ho : Ok rs) (he : s.data.toList = enc rs) (hs : s.size ≤ 1099511627776) (hT : Tabs w) :
    Calls Tryd.prog 15 #[.string s] w fun e w' => e = .returned (.bool (rs.all letter && decide (0 < rs.length))) ∧ Below w.heap.size w w' := by
  have cV := refrunes_ok rs s w ho he hs hT
  have hn : rs.length ≤ 1099511627776 := by have := enc_le rs; rw [Lib.size_eq, he] at hs; omega
  clear he
  go_enter Tryd.func15, Tryd.ntmps15
  go_wp2_with (go_at_call 21; refine cV.mono ?_; rintro e w0 ⟨g, cap, rfl, hg, hR0, hb0⟩)
  have hT0 := hT.below hb0
  have hgl : g < w0.heap.size := (World.ownsRow.lt hR0 g rfl).2
  have hsz0 := hb0.size
  go_loopw [4] (fun v4 wr => ∃ k : Nat, k ≤ rs.length ∧ v4 = .int .i64 (k : Int) ∧ (rs.take k).all letter = true ∧ Below w0.heap.size w0 wr) (fun v4 _ => rs.length - (intOf v4).toNat)
  case atStart => exact ⟨0, by omega, rfl, by simp, Below.refl _ _⟩
  case round =>
    obtain ⟨k, hk, rfl, hall, hbw⟩ := hrel
    have HA := Lib.hid hall
    clear hall
    by_cases hp : k < rs.length
    · have hr : rs[k] ≤ 1114111 := by have := ho _ (List.getElem_mem hp); unfold okRune at this; omega
      have hR := hR0.below hbw
      have hc : wr.cell? ⟨g, k, none⟩ = some (.int .i32 ((rs[k] : Nat) : Int)) := by rw [hR.cell (nz_length rs) k (by rw [nz_length]; exact hp), nz_at rs k hp]
      have cL := refletter_c rs[k] wr hr (hT0.below hbw)
      cases hl : letter rs[k]
      · have HF : Hid ((rs.all letter && decide (0 < rs.length)) = false) := Lib.hid (by
          have : rs.all letter = false := by
            rw [List.all_eq_false]
            exact ⟨rs[k], List.getElem_mem hp, by simp [hl]⟩
          rw [this]; rfl)
        rw [hl] at cL
        clear hl
        go_wp2_with (go_at_call 22; refine cL.mono ?_; rintro e W1 ⟨rfl, b1⟩)
        go_ret
        rw [HF.out]
        exact ⟨rfl, hb0.trans ((hbw.trans (b1.mono hbw.size)).mono hsz0)⟩
      · have HF : Hid ((rs.take (k + 1)).all letter = true) := Lib.hid (by
          rw [List.take_succ_eq_append_getElem hp, List.all_append, HA.out]; simp [hl])
        rw [hl] at cL
        clear hl
        go_wp2_with (go_at_call 22; refine cL.mono ?_; rintro e W1 ⟨rfl, b1⟩)
        go_roundw
        case rel => exact ⟨k + 1, hp, by go_num, HF.out, hbw.trans (b1.mono hbw.size)⟩
        case measure => simp [intOf]; omega
    · have hkk : k = rs.length := by omega
      subst hkk
      have HA2 : Hid (rs.all letter = true) := Lib.hid (by have := HA.out; rwa [List.take_length] at this)
      go_wp2
      go_ret
      rw [HA2.out]
      exact ⟨by simp, hb0.trans (hbw.mono hsz0)⟩

def RefInv (q : List Nat) (k b : Nat) (done : List (List Nat)) : Prop :=
  done ++ runs ((q.take k).drop b) (q.drop k) = runs [] q ∧ b ≤ k ∧ (k = q.length → b = k)
theorem drop_take_nil (q : List Nat) (k : Nat) : (q.take k).drop k = [] := List.drop_eq_nil_of_le (by rw [List.length_take]; omega)
theorem RefInv.start (q : List Nat) : RefInv q 0 0 [] := ⟨by simp, by omega, fun _ => rfl⟩
theorem RefInv.yes {q : List Nat} {k b : Nat} {done : List (List Nat)} (h : RefInv q k b done) (hk : k < q.length) (hl : letter q[k] = true) (hlast : ∀ (h : q.length - 1 < q.length), letter (q[q.length - 1]) = false) : RefInv q (k + 1) b done := by
  obtain ⟨h1, h2, h3⟩ := h
  refine ⟨?_, by omega, fun e => ?_⟩
  · rw [List.drop_eq_getElem_cons hk, runs_letter _ _ _ hl, ← take_drop_snoc q k b hk h2] at h1
    exact h1
  · exfalso
    have := hlast (by omega)
    have e2 : q.length - 1 = k := by omega
    simp only [e2] at this
    rw [hl] at this
    cases this
theorem RefInv.no_word {q : List Nat} {k b : Nat} {done : List (List Nat)} (h : RefInv q k b done) (hk : k < q.length) (hl : letter q[k] = false) (hb : ¬ b < k) : RefInv q (k + 1) (k + 1) done := by
  obtain ⟨h1, h2, h3⟩ := h
  refine ⟨?_, by omega, fun _ => rfl⟩
  have e : b = k := by omega
  subst e
  rw [drop_take_nil, List.drop_eq_getElem_cons hk, runs_other0 _ _ hl] at h1
  rw [drop_take_nil]
  exact h1
theorem RefInv.word {q : List Nat} {k b : Nat} {done : List (List Nat)} (h : RefInv q k b done) (hk : k < q.length) (hl : letter q[k] = false) (hb : b < k) : RefInv q (k + 1) (k + 1) (done ++ [(q.take k).drop b]) := by
  obtain ⟨h1, h2, h3⟩ := h
  refine ⟨?_, by omega, fun _ => rfl⟩
  rw [List.drop_eq_getElem_cons hk, runs_other _ _ _ hl (cur_ne q k b (by omega) hb)] at h1
  rw [drop_take_nil, List.append_assoc]
  exact h1
theorem RefInv.out {q : List Nat} {b : Nat} {done : List (List Nat)} (h : RefInv q q.length b done) : done = runs [] q := by
  obtain ⟨h1, h2, h3⟩ := h
  have := h3 rfl
  subst this
  rw [drop_take_nil, List.drop_length, runs_nil0, List.append_nil] at h1
  exact h1
theorem RefInv.len {q : List Nat} {k b : Nat} {done : List (List Nat)} (h : RefInv q k b done) : done.length ≤ q.length := by
  have h1 := congrArg List.length h.1
  have h2 := runs_length q []
  rw [List.length_append] at h1
  simp at h2
  omega

theorem letter_space : letter 32 = false := by decide +kernel
theorem runs_space (rs : List Nat) : runs [] (rs ++ [32]) = runs [] rs := by
  rw [runs_join 32 letter_space rs [] [], runs_nil0, List.append_nil]

theorem addb (g b j : Nat) : (⟨g, b, none⟩ : Addr).add j = ⟨g, b + j, none⟩ := by
  unfold Addr.add
  split
  · simp_all
  · simp
theorem nz_enc (rs : List Nat) : (nz rs).flatMap encodeRune = enc rs := by unfold nz enc encN; rw [List.flatMap_map]
theorem conv_cut (q : List Nat) (W : World) (B g cap b k : Nat) (hR : RunesAt W B (.slice (some ⟨g, 0, none⟩) q.length cap) (nz q)) (hk : k ≤ q.length) :
    (convert 36 9 (.slice (some ⟨g, b, none⟩) (k - b) (cap - b))).run Tryd.prog W = .ok (.string ⟨(enc ((q.take k).drop b)).toArray⟩) W := by
  have hnl := nz_length q
  have h := run_convert_runes W 36 9 21 ⟨g, b, none⟩ (k - b) (cap - b) ((nz q).drop b) (by rw [List.length_drop, nz_length]; omega) Tryd.underlying36 Tryd.underlying21 Tryd.underlying9 (by
    intro j hj
    rw [List.length_drop] at hj
    rw [addb, hR.cell hnl (b + j) (by omega)]
    simp [List.getD, List.getElem?_eq_getElem (show b + j < (nz q).length from by omega)])
  rw [h, runesBytes_eq]
  have : (List.drop b (nz q)).take (k - b) = nz ((q.take k).drop b) := by rw [List.drop_take]; simp [nz]
  rw [this, nz_enc]

theorem refof_bad (s : ByteArray) (w : World) (hs : s.size ≤ 9223372036854775807) (hT : Tabs w) (hv : mayB s.data.toList = false) :
    Calls Tryd.prog 9 #[.string s] w fun e w' => e = .returned (.slice none 0 0) ∧ Below w.heap.size w w' := by
  have cM := refmay_c s w hs hT
  rw [hv] at cM
  clear hv
  go_enter Tryd.func9, Tryd.ntmps9
  go_wp2_with (go_at_call 11; refine cM.mono ?_; rintro e w' ⟨rfl, hb⟩)
  go_ret
  exact ⟨rfl, hb⟩

theorem runeInfo : (Tryd.prog.info? 21).map (fun i => (i.zero, i.size, i.bytes)) = some (some (.int .i32 0), 1, 4) := by kernel_rfl

set_option maxHeartbeats 4000000 in
set_option maxRecDepth 1000000 in
theorem refof_ok (rs : List Nat) (s : ByteArray) (w : World) (ho : Ok rs) (he : s.data.toList = enc rs) (hs : s.size ≤ 120) (hT : Tabs w) :
    Calls Tryd.prog 9 #[.string s] w fun e w' => ∃ v, e = .returned v ∧ WordsAt w' w.heap.size v (words rs) ∧ Below w.heap.size w w' := by
  have cM := refmay_c s w (by omega) hT
  rw [he, mayB_yes (by rw [← he, ← Lib.size_eq]; exact hs) (valid_enc rs ho)] at cM
  have hn : rs.length ≤ 120 := by have := enc_le rs; rw [Lib.size_eq, he] at hs; omega
  have cR : ∀ W1, Below w.heap.size w W1 → Calls Tryd.prog 21 #[.string s] W1 _ := fun W1 h1 => refrunes_ok rs s W1 ho he (by omega) (hT.below h1)
  clear he
  obtain ⟨i0, hi, hz0, hz1, hz2⟩ := info_parts runeInfo
  go_enter Tryd.func9, Tryd.ntmps9
  go_wp2_with (first
    | (go_at_call 11; refine cM.mono ?_; rintro e w0 ⟨rfl, hb0⟩)
    | (go_at_call 21; refine (cR _ hb0).mono ?_; rintro e w1 ⟨g, cap, rfl, hg, hR0, hb1⟩; have hsz1 := hb1.size; have hsz0 := hb0.size)
    | (at_builtin; refine wpList_append_own _ rfl _ _ 36 rfl w0.heap.size 21 i0 (.int .i32 0) 1 4 Tryd.underlying36 hi hz0 hz1 hz2 rfl (by decide) _ rs.length (zcells (nz rs)) rfl (by have := World.ownsRow.alloc hR0 (.cells #[.int .i32 32] 21); rw [nz_length] at this; exact this) ⟨w1.heap.size, 0, none⟩ 1 1 [.int .i32 32] rfl rfl (cell_one_new _ _ _) (fun x hx => by simp at hx; subst hx; rfl) (by unfold maxLen; omega) (by omega) (by simp; omega) ?_; intro v' w3 hown3 hgrow3 hnil3))
  obtain ⟨g3, cap3, rfl, hg3, hlt3⟩ := World.ownsRow.form hown3 (by omega)
  obtain ⟨q, hq⟩ : ∃ q, q = rs ++ [32] := ⟨_, rfl⟩
  have HQ := Lib.hid hq
  have hqo : Ok q := by rw [hq]; exact ho.append (fun x hx => by simp at hx; subst hx; unfold okRune; omega)
  have HQ0 : Hid (q.length = rs.length + 1) := Lib.hid (by rw [hq]; simp)
  have HQ1 : Hid (∀ (h : q.length - 1 < q.length), letter (q[q.length - 1]) = false) := Lib.hid (fun h => by
    subst hq
    have : (rs ++ [32])[(rs ++ [32]).length - 1] = 32 := by simp
    rw [this]; exact letter_space)
  have hR3 : RunesAt w3 w0.heap.size (.slice (some ⟨g3, 0, none⟩) (rs.length + 1) cap3) (nz q) := by
    unfold RunesAt
    rw [nz_length, HQ0.out, hq, nz_append]
    have : zcells (nz rs ++ nz [32]) = zcells (nz rs) ++ [.int .i32 32] := by simp [zcells, nz]
    rw [this]
    exact hown3
  have hb3 : Below w0.heap.size w0 w3 := by
    have hlt := (World.ownsRow.alloc hR0 (.cells #[.int .i32 32] 21)).lt
    exact (hb1.alloc hsz1 _).grown hgrow3 (by simp; omega) (fun k hk => (hlt k hk).1)
  have hwq : Hid (runs [] q = runs [] rs) := Lib.hid (by rw [hq]; exact runs_space rs)
  have hqn : q.length ≤ 121 := by rw [HQ0.out]; omega
  have hcap3 : q.length ≤ cap3 := by
    rcases hown3.2 with ⟨h, _⟩ | ⟨g', cap', cur, h, _, _, hh, _⟩
    · cases h
    · simp only [Value.slice.injEq] at h
      obtain ⟨_, _, rfl⟩ := h
      rw [HQ0.out]; exact hh
  have hT3 := (hT.below hb0).below hb3
  have hsz3 := hb3.size
  rw [← HQ0.out] at hR3
  generalize hm : rs.length + 1 = m
  have hmq : m = q.length := by rw [HQ0.out, hm]
  subst hmq
  clear hm hown3 hgrow3 hnil3 hR0 hq cR
  go_loopw [3, 5, 6] (fun v3 v5 v6 wr => ∃ (k b : Nat) (done : List (List Nat)), k ≤ q.length ∧ RefInv q k b done ∧ v5 = .int .i64 (b : Int) ∧ v6 = .int .i64 (k : Int) ∧ WordsAt wr w3.heap.size v3 (done.map low) ∧ Below w3.heap.size w3 wr) (fun _ _ v6 _ => q.length - (intOf v6).toNat)
  case atStart => exact ⟨0, 0, [], by omega, RefInv.start q, rfl, rfl, World.ownsRow_nil _ _ _ _, Below.refl _ _⟩
  case round =>
    obtain ⟨k, b, done, hk, hinv, rfl, rfl, hW, hbw⟩ := hrel
    have hdl := hinv.len
    have hszw := hbw.size
    have HINV := Lib.hid hinv
    have hbk := hinv.2.1
    clear hinv
    by_cases hp : k < q.length
    · have hr : q[k] ≤ 1114111 := by have := hqo _ (List.getElem_mem hp); unfold okRune at this; omega
      have hR := hR3.below hbw
      have hc : wr.cell? ⟨g3, k, none⟩ = some (.int .i32 ((q[k] : Nat) : Int)) := by rw [hR.cell (nz_length q) k (by rw [nz_length]; exact hp), nz_at q k hp]
      have cL := refletter_c q[k] wr hr (hT3.below hbw)
      cases hl : letter q[k] <;> rw [hl] at cL
      · by_cases hbk2 : b < k
        · have HI2 := Lib.hid (HINV.out.word hp hl hbk2)
          clear hl
          have hbi : decide ((k : Int) > (b : Int)) = true := by simp; omega
          have hcl : (enc ((q.take k).drop b)).length ≤ 1000 := by
            have h4 : ∀ l : List Nat, (enc l).length ≤ 4 * l.length := by
              intro l
              induction l with
              | nil => simp [enc]
              | cons r t ih => rw [enc_cons, List.length_append, List.length_cons]; have := (encN_len r).2; omega
            have := h4 ((q.take k).drop b)
            rw [List.length_drop, List.length_take] at this
            omega
          have cN : ∀ W1, Below wr.heap.size wr W1 → Calls Tryd.prog 13 #[.string ⟨(enc ((q.take k).drop b)).toArray⟩] W1 _ := fun W1 h1 =>
            refnorm_ok ((q.take k).drop b) ⟨(enc ((q.take k).drop b)).toArray⟩ W1 ((hqo.take k).drop b) rfl (by show (enc ((q.take k).drop b)).toArray.size ≤ _; rw [List.size_toArray]; omega) ((hT3.below hbw).below h1)
          have HC : Hid (∀ W1, Below wr.heap.size wr W1 → (convert 36 9 (.slice (some ⟨g3, b, none⟩) (k - b) (cap3 - b))).run Tryd.prog W1 = .ok (.string ⟨(enc ((q.take k).drop b)).toArray⟩) W1) := Lib.hid (fun W1 h1 => conv_cut q W1 w0.heap.size g3 cap3 b k (hR.below h1) hk)
          obtain ⟨D, hD⟩ : ∃ D, D = done.map low := ⟨_, rfl⟩
          have hml : D.length ≤ 121 := by rw [hD, List.length_map]; omega
          rw [← hD] at hW
          have HDD := Lib.hid hD
          clear hD
          obtain ⟨ad, capw, rfl⟩ : ∃ ad cap, u3 = .slice ad D.length cap := by
            rcases hW.2 with ⟨rfl, h0⟩ | ⟨g, cap, cur, rfl, _⟩
            · exact ⟨none, 0, by rw [h0]⟩
            · exact ⟨_, cap, rfl⟩
          obtain ⟨i1, hi1, hy0, hy1, hy2⟩ := info_parts wordInfo
          generalize enc ((q.take k).drop b) = C at cN HC hcl
          generalize hlw : low ((q.take k).drop b) = LW at cN
          have HLW := Lib.hid hlw
          clear hlw
          go_wp2_with (first
            | (go_at_call 22; refine cL.mono ?_; rintro e W1 ⟨rfl, b1⟩; have hcv := HC.out W1 b1)
            | (go_at_call 13; refine (cN _ b1).mono ?_; rintro e W2 ⟨rfl, b2⟩; have hW2 := (hW.below b1).below b2; have hs2 := b2.size; have hs1 := b1.size; unfold WordsAt at hW2)
            | (at_builtin; refine wpList_append_own _ rfl _ _ 23 rfl w3.heap.size 32 i1 (.agg #[.string ⟨#[]⟩, .int .i64 0]) 2 24 Tryd.underlying23 hi1 hy0 hy1 hy2 rfl (by decide) _ _ _ rfl (World.ownsRow.alloc hW2 _) ⟨W2.heap.size, 0, none⟩ 1 1 [.string ⟨LW.toArray⟩, .int .i64 (D.length : Int)] rfl rfl (cell_two_new _ _ _ _) (fun x hx => by simp at hx; rcases hx with rfl | rfl <;> rfl) (by unfold maxLen; omega) (by omega) (by simp; omega) ?_; intro v' w5 hown5 hgrow5 hnil5))
          have hW5 : WordsAt w5 w3.heap.size v' ((done ++ [(q.take k).drop b]).map low) := by
            unfold WordsAt
            rw [List.map_append, List.map_cons, List.map_nil, wcells_snoc, List.length_append, Nat.zero_add, ← HDD.out, HLW.out]
            exact hown5
          have hlt := (World.ownsRow.alloc hW2 (.cells #[.string ⟨LW.toArray⟩, .int .i64 (D.length : Int)] 32)).lt
          have hb5 : Below w3.heap.size w3 w5 := ((hbw.trans ((b1.trans (b2.mono hs1)).mono hszw)).alloc (by omega) _).grown hgrow5 (by simp; omega) (fun k hk => (hlt k hk).1)
          refine ⟨⟨k + 1, k + 1, _, hp, HI2.out, by go_num, by go_num, hW5, hb5⟩, ?_⟩
          simp [intOf]
          omega
        · have HI2 := Lib.hid (HINV.out.no_word hp hl hbk2)
          clear hl
          have hbi : ¬ ((b : Int) < (k : Int)) := by omega
          go_wp2_with (go_at_call 22; refine cL.mono ?_; rintro e W1 ⟨rfl, b1⟩)
          go_roundw
          case rel => exact ⟨k + 1, k + 1, done, hp, HI2.out, by go_num, by go_num, hW.below b1, hbw.trans (b1.mono hbw.size)⟩
          case measure => simp [intOf]; omega
      · have HI2 := Lib.hid (HINV.out.yes hp hl HQ1.out)
        clear hl
        go_wp2_with (go_at_call 22; refine cL.mono ?_; rintro e W1 ⟨rfl, b1⟩)
        go_roundw
        case rel => exact ⟨k + 1, b, done, hp, HI2.out, rfl, by go_num, hW.below b1, hbw.trans (b1.mono hbw.size)⟩
        case measure => simp [intOf]; omega
    · have hkk : k = q.length := by omega
      subst hkk
      have HW : Hid (WordsAt wr w3.heap.size _ (words rs)) := Lib.hid (by unfold words; rw [← hwq.out, ← HINV.out.out]; exact hW)
      go_wp2
      go_ret
      exact ⟨_, rfl, HW.out.mono (by omega), hb0.trans ((hb3.trans (hbw.mono hsz3)).mono hsz0)⟩

end Go.Proofs.YteemedepmefkbaaDoor
