/-
  The three laws on tokens, as calls: each answers true, whatever it is given.
-/
import Derived.Test.YteemedepmefkbaaDoorTokAwake
namespace Go.Proofs.YteemedepmefkbaaDoor
open Go.RowKit Go.Shelf Go.Lib Go.Proofs.GvTok

/-- Of, either side, at every text: one list of words. -/
def wordsOf (l : List UInt8) (ws : List (List UInt8)) : Prop :=
  (mayB l = false ∧ ws = []) ∨ ∃ rs, Ok rs ∧ l = enc rs ∧ l.length ≤ 120 ∧ ws = words rs
theorem wordsOf_len {l : List UInt8} {ws : List (List UInt8)} (h : wordsOf l ws) : ws.length ≤ 120 := by
  rcases h with ⟨_, rfl⟩ | ⟨rs, _, h2, h3, rfl⟩
  · simp
  · have := runs_length rs []
    have h4 := enc_le rs
    rw [← h2] at h4
    simp [words] at this ⊢
    omega
theorem wordsOf_ex (l : List UInt8) : ∃ ws, wordsOf l ws := by
  cases hm : mayB l
  · exact ⟨[], .inl ⟨hm, rfl⟩⟩
  · unfold mayB at hm
    simp only [Bool.and_eq_true, decide_eq_true_eq] at hm
    obtain ⟨rs, h1, h2⟩ := valid_split l hm.2
    exact ⟨_, .inr ⟨rs, h1, h2.symm, hm.1, rfl⟩⟩
theorem of_any (s : ByteArray) (ws : List (List UInt8)) (w : World) (hs : s.size ≤ 9223372036854775807) (h : wordsOf s.data.toList ws) (hT : Tabs w) :
    Calls Tryd.prog 7 #[.string s] w fun e w' => ∃ v, e = .returned v ∧ WordsAt w' w.heap.size v ws ∧ Below w.heap.size w w' := by
  rcases h with ⟨h1, rfl⟩ | ⟨rs, h1, h2, h3, rfl⟩
  · exact (of_bad s w hs hT h1).mono fun _ _ ⟨e, b⟩ => ⟨_, e, World.ownsRow_nil _ _ _ _, b⟩
  · exact of_ok rs s w h1 h2 (by rw [Lib.size_eq]; exact h3) hT
theorem refof_any (s : ByteArray) (ws : List (List UInt8)) (w : World) (hs : s.size ≤ 9223372036854775807) (h : wordsOf s.data.toList ws) (hT : Tabs w) :
    Calls Tryd.prog 9 #[.string s] w fun e w' => ∃ v, e = .returned v ∧ WordsAt w' w.heap.size v ws ∧ Below w.heap.size w w' := by
  rcases h with ⟨h1, rfl⟩ | ⟨rs, h1, h2, h3, rfl⟩
  · exact (refof_bad s w hs hT h1).mono fun _ _ ⟨e, b⟩ => ⟨_, e, World.ownsRow_nil _ _ _ _, b⟩
  · exact refof_ok rs s w h1 h2 (by rw [Lib.size_eq]; exact h3) hT

/-- Norm, either side: one text. -/
theorem norm_any (s : ByteArray) (hs : s.size ≤ 1099511627776) : ∃ t : ByteArray, (∀ w, Tabs w → Calls Tryd.prog 12 #[.string s] w fun e w' => e = .returned (.string t) ∧ Below w.heap.size w w') ∧
    (∀ w, Tabs w → Calls Tryd.prog 13 #[.string s] w fun e w' => e = .returned (.string t) ∧ Below w.heap.size w w') := by
  cases hv : validD s.data.toList
  · exact ⟨⟨#[]⟩, fun w hT => norm_bad s w (by omega) hT hv, fun w hT => refnorm_bad s w (by omega) hT hv⟩
  · obtain ⟨rs, h1, h2⟩ := valid_split _ hv
    exact ⟨_, fun w hT => norm_ok rs s w h1 h2.symm hs hT, fun w hT => refnorm_ok rs s w h1 h2.symm hs hT⟩
/-- One, either side: one answer. -/
theorem one_any (s : ByteArray) (hs : s.size ≤ 1099511627776) : ∃ b : Bool, (∀ w, Tabs w → Calls Tryd.prog 14 #[.string s] w fun e w' => e = .returned (.bool b) ∧ Below w.heap.size w w') ∧
    (∀ w, Tabs w → Calls Tryd.prog 15 #[.string s] w fun e w' => e = .returned (.bool b) ∧ Below w.heap.size w w') := by
  cases hv : validD s.data.toList
  · exact ⟨false, fun w hT => one_bad s w (by omega) hT hv, fun w hT => refone_bad s w (by omega) hT hv⟩
  · obtain ⟨rs, h1, h2⟩ := valid_split _ hv
    by_cases hr : rs = []
    · subst hr
      have e : s = ⟨#[]⟩ := by
        have : s.data = #[] := by
          apply Array.ext'
          exact h2.symm
        cases s
        simp at this
        rw [this]
      subst e
      exact ⟨false, fun w _ => one_awake3 w, fun w hT => by
        have := refone_ok [] ⟨#[]⟩ w h1 rfl (by decide) hT
        simpa using this⟩
    · refine ⟨rs.all letter, fun w hT => one_ok rs s w h1 h2.symm hs hT hr, fun w hT => ?_⟩
      have := refone_ok rs s w h1 h2.symm hs hT
      rw [decide_eq_true (List.length_pos_iff.2 hr), Bool.and_true] at this
      exact this

set_option maxHeartbeats 4000000 in
set_option maxRecDepth 1000000 in
theorem tell_long (s : ByteArray) (w : World) (hs : s.size ≤ 9223372036854775807) (hl : ¬ s.size ≤ 300) (hT : Tabs w) :
    Calls Tryd.prog 3 #[.string s] w fun e w' => e = .returned (.bool true) ∧ Below w.heap.size w w' := by
  have cA := awake_c w hT
  have hz : (300 : Int) < (s.size : Int) := by omega
  go_enter Tryd.func3, Tryd.ntmps3
  go_wp2_with (go_at_call 6; refine cA.mono ?_; rintro e w1 ⟨rfl, b1⟩)
  go_ret
  exact ⟨rfl, b1⟩

set_option maxHeartbeats 4000000 in
set_option maxRecDepth 1000000 in
theorem tell_short (s : ByteArray) (w : World) (hl : s.size ≤ 300) (hT : Tabs w) :
    Calls Tryd.prog 3 #[.string s] w fun e w' => e = .returned (.bool true) ∧ Below w.heap.size w w' := by
  obtain ⟨ws, hws⟩ := wordsOf_ex s.data.toList
  have hwl := wordsOf_len hws
  obtain ⟨t, cN, cN2⟩ := norm_any s (by omega)
  obtain ⟨b, cO, cO2⟩ := one_any s (by omega)
  have cA := awake_c
  have cM := fun W hT => may_c s W (by omega) hT
  have cM2 := fun W hT => refmay_c s W (by omega) hT
  generalize hmb : mayB s.data.toList = M at cM cM2
  clear hmb
  have hz : ¬ ((300 : Int) < (s.size : Int)) := by omega
  have htt : (t.toList == t.toList) = true := by simp
  have C1 := Lib.hid cN; have C2 := Lib.hid cN2; have C3 := Lib.hid cO; have C4 := Lib.hid cO2; have C5 := Lib.hid cA; have C6 := Lib.hid cM; have C7 := Lib.hid cM2
  clear cN cN2 cO cO2 cA cM cM2
  go_enter Tryd.func3, Tryd.ntmps3
  go_wp2_with fail
  refine (of_any s ws w (by omega) hws hT).mono ?_
  rintro e w1 ⟨v1, rfl, hW1, b1⟩
  go_wp2_with fail
  refine (refof_any s ws w1 (by omega) hws (hT.below b1)).mono ?_
  rintro e w2 ⟨v2, rfl, hW2, b2⟩
  have b2' := b1.trans (b2.mono b1.size)
  have hW1' := hW1.below b2
  go_wp2_with fail
  refine (same_c ws v1 v2 w2 hW1'.reads hW2.reads (by omega)).mono ?_
  rintro e w3 ⟨rfl, q3, rfl⟩
  have b3' := below_drewN b2' q3
  go_wp2_with fail
  refine (C6.out _ (hT.below b3')).mono ?_
  rintro e w4 ⟨rfl, b4⟩
  have b4' := b3'.trans (b4.mono b3'.size)
  go_wp2_with fail
  refine (C7.out _ (hT.below b4')).mono ?_
  rintro e w5 ⟨rfl, b5⟩
  have b5' := b4'.trans (b5.mono b4'.size)
  go_wp2_with fail
  refine (C1.out _ (hT.below b5')).mono ?_
  rintro e w6 ⟨rfl, b6⟩
  have b6' := b5'.trans (b6.mono b5'.size)
  go_wp2_with fail
  refine (C2.out _ (hT.below b6')).mono ?_
  rintro e w7 ⟨rfl, b7⟩
  have b7' := b6'.trans (b7.mono b6'.size)
  go_wp2_with fail
  refine (C3.out _ (hT.below b7')).mono ?_
  rintro e w8 ⟨rfl, b8⟩
  have b8' := b7'.trans (b8.mono b7'.size)
  go_wp2_with fail
  refine (C4.out _ (hT.below b8')).mono ?_
  rintro e w9 ⟨rfl, b9⟩
  have b9' := b8'.trans (b9.mono b8'.size)
  have hW9 := ((((((hW1'.below (drewN_below w2 q3)).below b4).below b5).below b6).below b7).below b8).below b9
  go_wp2_with fail
  refine (over_c ws v1 w9 w.heap.size hW9 (by omega) b9'.size).mono ?_
  rintro e w10 ⟨rfl, b10⟩
  have b10' := b9'.trans b10
  go_wp2_with fail
  refine (of_any s ws w10 (by omega) hws (hT.below b10')).mono ?_
  rintro e w11 ⟨v11, rfl, hW11, b11⟩
  have b11' := b10'.trans (b11.mono b10'.size)
  go_wp2_with fail
  refine (refof_any s ws w11 (by omega) hws (hT.below b11')).mono ?_
  rintro e w12 ⟨v12, rfl, hW12, b12⟩
  have b12' := b11'.trans (b12.mono b11'.size)
  go_wp2_with fail
  refine (same_c ws v11 v12 w12 (hW11.below b12).reads hW12.reads (by omega)).mono ?_
  rintro e w13 ⟨rfl, q13, rfl⟩
  have b13' := below_drewN b12' q13
  go_wp2_with fail
  refine (C5.out _ (hT.below b13')).mono ?_
  rintro e w14 ⟨rfl, b14⟩
  have b14' := b13'.trans (b14.mono b13'.size)
  go_wp2
  go_ret
  exact ⟨rfl, b14'⟩

theorem tell_c (s : ByteArray) (w : World) (hs : s.size ≤ 9223372036854775807) (hT : Tabs w) :
    Calls Tryd.prog 3 #[.string s] w fun e w' => e = .returned (.bool true) ∧ Below w.heap.size w w' := by
  by_cases h : s.size ≤ 300
  · exact tell_short s w h hT
  · exact tell_long s w hs h hT

end Go.Proofs.YteemedepmefkbaaDoor
