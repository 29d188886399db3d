/-
  TokensOnes, as a call: it answers true, whatever it is given.
-/
import Derived.Test.YteemedepmefkbaaDoorTokLaws
import Derived.Deep.RegionHeld3
namespace Go.Proofs.YteemedepmefkbaaDoor
open Go.RowKit Go.Shelf Go.Lib Go.Proofs.GvTok

theorem words_prop (rs : List Nat) (k : Nat) (hk : k < (words rs).length) : validD (words rs)[k] = true ∧ (words rs)[k] ≠ [] := by
  unfold words at hk ⊢
  rw [List.getElem_map]
  refine ⟨low_valid _, ?_⟩
  have h1 := runs_ne rs [] _ (List.getElem_mem (by simpa using hk))
  have h2 := (low_len ((runs [] rs)[k]'(by simpa using hk))).2
  have h3 := List.length_pos_iff.2 h1
  exact List.length_pos_iff.1 (by omega)
theorem runs_mem_len : ∀ (x cur : List Nat), ∀ u ∈ runs cur x, u.length ≤ cur.length + x.length
  | [], cur, u, hu => by
    by_cases hc : cur = []
    · subst hc; simp [runs] at hu
    · rw [runs_nil cur hc] at hu; simp at hu; subst hu; simp
  | r :: t, cur, u, hu => by
    cases hl : letter r
    · by_cases hc : cur = []
      · subst hc; rw [runs_other0 _ _ hl] at hu; have := runs_mem_len t [] u hu; simp at this ⊢; omega
      · rw [runs_other _ _ _ hl hc] at hu
        rcases List.mem_cons.1 hu with rfl | h
        · simp
        · have := runs_mem_len t [] u h; simp at this ⊢; omega
    · rw [runs_letter _ _ _ hl] at hu; have := runs_mem_len t _ u hu; simp at this ⊢; omega
theorem words_len (rs : List Nat) (k : Nat) (hk : k < (words rs).length) : (words rs)[k].length ≤ 4 * rs.length := by
  unfold words at hk ⊢
  rw [List.getElem_map]
  have hk2 : k < (runs [] rs).length := by simpa using hk
  have h1 := runs_mem_len rs [] _ (List.getElem_mem hk2)
  have h2 := (low_len (runs [] rs)[k]).1
  simp at h1
  omega
theorem words_one (rs : List Nat) (hr : rs ≠ []) (ha : rs.all letter = true) : words rs = [low rs] := by
  unfold words
  rw [runs_all rs [] (fun r hr => by simpa using List.all_eq_true.1 ha r hr) (by simpa using hr)]
  simp

set_option maxHeartbeats 4000000 in
set_option maxRecDepth 1000000 in
theorem ones_no (s : ByteArray) (w : World) (hs : s.size ≤ 9223372036854775807) (hm : mayB s.data.toList = false) (hT : Tabs w) :
    Calls Tryd.prog 5 #[.string s] w fun e w' => e = .returned (.bool true) ∧ Below w.heap.size w w' := by
  have cM := may_c s w hs hT
  rw [hm] at cM
  have cA := fun W (h : Below w.heap.size w W) => awake_c W (hT.below h)
  clear hm
  go_enter Tryd.func5, Tryd.ntmps5
  go_wp2_with (first
    | (go_at_call 10; refine cM.mono ?_; rintro e w1 ⟨rfl, b1⟩)
    | (go_at_call 6; refine (cA _ b1).mono ?_; rintro e w2 ⟨rfl, b2⟩))
  go_ret
  exact ⟨rfl, b1.trans (b2.mono b1.size)⟩

set_option maxHeartbeats 4000000 in
set_option maxRecDepth 1000000 in
theorem ones_yes (rs : List Nat) (s : ByteArray) (w : World) (ho : Ok rs) (he : s.data.toList = enc rs) (hs : s.size ≤ 120) (hT : Tabs w) :
    Calls Tryd.prog 5 #[.string s] w fun e w' => e = .returned (.bool true) ∧ Below w.heap.size w w' := by
  have cM := may_c s w (by omega) hT
  rw [he, mayB_yes (by rw [← he, ← Lib.size_eq]; exact hs) (valid_enc rs ho)] at cM
  have hz : ¬ ((120 : Int) < (s.size : Int)) := by omega
  have hwl : (words rs).length ≤ 120 := by
    have := runs_length rs []
    have h4 := enc_le rs
    rw [← he, ← Lib.size_eq] at h4
    simp [words] at this ⊢
    omega
  have hrl : rs.length ≤ 120 := by have := enc_le rs; rw [← he, ← Lib.size_eq] at this; omega
  have HE := Lib.hid he
  clear he
  go_enter Tryd.func5, Tryd.ntmps5
  go_wp2_with fail
  refine cM.mono ?_
  rintro e w0 ⟨rfl, b0⟩
  go_wp2_with fail
  refine (of_ok rs s w0 ho HE.out hs (hT.below b0)).mono ?_
  rintro e w1 ⟨v1, rfl, hW1, b1⟩
  have b1' := b0.trans (b1.mono b0.size)
  have hT1 := hT.below b1'
  obtain ⟨ad, cap, rfl, hR⟩ := hW1.reads
  have HR := Lib.hid hR
  clear hR
  go_wp2_with fail
  go_loopw [4] (fun v4 wr => ∃ k : Nat, k ≤ (words rs).length ∧ v4 = .int .i64 (k : Int) ∧ Below w1.heap.size w1 wr) (fun v4 _ => (words rs).length - (intOf v4).toNat)
  case atStart => exact ⟨0, by omega, rfl, Below.refl _ _⟩
  case round =>
    obtain ⟨k, hk, rfl, hbw⟩ := hrel
    by_cases hp : k < (words rs).length
    · obtain ⟨g, rfl, hc⟩ := HR.out (by omega)
      obtain ⟨hc1, hc2⟩ := hc k hp
      have kk : ∀ {a : Addr} {v : Value}, w1.cell? a = some v → wr.cell? a = some v := fun {a v} h => (hbw.cell (World.block_lt_of_cell? w1 a h)).trans h
      have hd1 := kk hc1
      have hd2 := kk hc2
      clear kk hc hc1 hc2
      have hpr := words_prop rs k hp
      obtain ⟨T, hTT⟩ : ∃ T : ByteArray, T = ⟨(words rs)[k].toArray⟩ := ⟨_, rfl⟩
      have hTl : T.data.toList = (words rs)[k] := by rw [hTT]
      have hne : ¬ T.toList = [] := by rw [Lib.toList_data, hTl]; exact hpr.2
      have hne2 : T.toList.isEmpty = false := by simpa using hne
      have hTs : T.size ≤ 9223372036854775807 := by
        rw [Lib.size_eq, hTl]
        have := words_len rs k hp
        omega
      have cV := valid_c T wr hTs (hT1.below hbw)
      rw [hTl, hpr.1] at cV
      rw [← hTT] at hd1
      have hkk : ((k : Int) == (k : Int)) = true := by simp
      have hdl : ∀ W : World, Below wr.heap.size wr W → W.cell? ⟨g, k * 2 + 1, none⟩ = some (.int .i64 (k : Int)) := fun W hb => (hb.cell (World.block_lt_of_cell? wr _ hd2)).trans hd2
      have HDL := Lib.hid hdl
      clear hTl hTT hpr hdl
      go_wp2_with (go_at_call 18; refine cV.mono ?_; rintro e w2 ⟨rfl, b2⟩; have hd3 := HDL.out _ b2)
      go_roundw
      case rel => exact ⟨k + 1, hp, by go_num, hbw.trans (b2.mono hbw.size)⟩
      case measure => simp [intOf]; omega
    · have hkk : k = (words rs).length := by omega
      subst hkk
      have hTw := hT1.below hbw
      have hbf := b1'.trans (hbw.mono b1'.size)
      have cA := fun W (h : Below wr.heap.size wr W) => awake_c W (hTw.below h)
      have HCA := Lib.hid cA
      clear cA
      have hone : ∃ b : Bool, (Calls Tryd.prog 14 #[.string s] wr fun e w' => e = .returned (.bool b) ∧ Below wr.heap.size wr w') ∧ (b = true → words rs = [low rs]) := by
        by_cases hr : rs = []
        · subst hr
          refine ⟨false, ?_, fun h => by cases h⟩
          have e : s = ⟨#[]⟩ := by
            have : s.data = #[] := Array.ext' HE.out
            cases s
            simp at this
            rw [this]
          subst e
          exact one_awake3 wr
        · exact ⟨_, one_ok rs s wr ho HE.out (by omega) hTw hr, fun h => words_one rs hr h⟩
      obtain ⟨b, cO, hb⟩ := hone
      have HB := Lib.hid hb
      clear hb
      cases b
      · go_wp2_with fail
        refine cO.mono ?_
        rintro e w2 ⟨rfl, b2⟩
        go_wp2_with fail
        refine (HCA.out _ b2).mono ?_
        rintro e w3 ⟨rfl, b3⟩
        go_wp2
        go_ret
        exact ⟨rfl, hbf.trans ((b2.trans (b3.mono b2.size)).mono hbf.size)⟩
      · have hw1 := HB.out rfl
        have hl1 : (words rs).length = 1 := by rw [hw1]; rfl
        obtain ⟨g, rfl, hc⟩ := HR.out (by omega)
        obtain ⟨hc1, _⟩ := hc 0 (by omega)
        have hw0 : (words rs)[0]'(by omega) = low rs := by simp [hw1]
        rw [hw0] at hc1
        have hd1 : wr.cell? ⟨g, 0, none⟩ = some (.string ⟨(low rs).toArray⟩) := (hbw.cell (World.block_lt_of_cell? w1 _ hc1)).trans hc1
        have cN := fun W (h : Below wr.heap.size wr W) => norm_ok rs s W ho HE.out (by omega) (hTw.below h)
        have HCN := Lib.hid cN
        have HDL : Hid (∀ W : World, Below wr.heap.size wr W → W.cell? ⟨g, 0, none⟩ = some (.string ⟨(low rs).toArray⟩)) := Lib.hid (fun W hb => (hb.cell (World.block_lt_of_cell? wr _ hd1)).trans hd1)
        clear cN hc hc1 hw0 hw1
        rw [hl1]
        generalize low rs = LR at hd1 HCN HDL
        clear hl1 hd1
        go_wp2_with fail
        refine cO.mono ?_
        rintro e w2 ⟨rfl, b2⟩
        have hd2 := HDL.out _ b2
        go_wp2_with fail
        go_region_held3 (fun w' => w'.cell? ⟨g, 0, none⟩ = some (.string ⟨LR.toArray⟩)) (first | exact hd2 | exact hd3 | exact hd4)
          (first
          | (go_at_call 12; refine (HCN.out _ (by first | exact b2.drew | exact b2)).mono ?_; rintro e w3 ⟨rfl, b3⟩; have b3' : Below wr.heap.size wr w3 := b2.drew.trans (b3.mono b2.size); have hd3 := HDL.out _ b3')
          | (go_at_call 6; refine (HCA.out _ (by exact b3')).mono ?_; rintro e w4 ⟨rfl, b4⟩; have b4' : Below wr.heap.size wr w4 := b3'.trans (b4.mono b3'.size); have hd4 := HDL.out _ b4'))
        all_goals (
          go_wp2
          go_ret
          exact ⟨rfl, hbf.trans (b4'.mono hbf.size)⟩)

theorem ones_c (s : ByteArray) (w : World) (hs : s.size ≤ 9223372036854775807) (hT : Tabs w) :
    Calls Tryd.prog 5 #[.string s] w fun e w' => e = .returned (.bool true) ∧ Below w.heap.size w w' := by
  cases hm : mayB s.data.toList
  · exact ones_no s w hs hm hT
  · unfold mayB at hm
    simp only [Bool.and_eq_true, decide_eq_true_eq] at hm
    obtain ⟨rs, h1, h2⟩ := valid_split _ hm.2
    exact ones_yes rs s w h1 h2.symm (by rw [Lib.size_eq]; exact hm.1) hT

end Go.Proofs.YteemedepmefkbaaDoor
