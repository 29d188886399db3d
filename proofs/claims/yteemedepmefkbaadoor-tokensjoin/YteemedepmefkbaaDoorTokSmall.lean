/-
  tokens.May, tokens.One, tokens.behind, grapevineref1.May, by contract.
-/
import Derived.Test.YteemedepmefkbaaDoorTokNorm
import Derived.OwnWalk
import Derived.Laws.OwnMore
import Derived.WalkSmall
import Derived.Deep.Onto
namespace Go.Proofs.YteemedepmefkbaaDoor
open Go.RowKit Go.Shelf Go.Lib Go.Proofs.GvTok

def mayB (l : List UInt8) : Bool := decide (l.length ≤ 120) && validD l
theorem mayB_yes {l : List UInt8} (h1 : l.length ≤ 120) (h2 : validD l = true) : mayB l = true := by simp [mayB, h1, h2]

set_option maxHeartbeats 1000000 in
theorem may_c (s : ByteArray) (w : World) (hs : s.size ≤ 9223372036854775807) (hT : Tabs w) :
    Calls Tryd.prog 10 #[.string s] w fun e w' => e = .returned (.bool (mayB s.data.toList)) ∧ Below w.heap.size w w' := by
  have cV := valid_c s w hs hT
  unfold mayB
  rw [← Lib.size_eq]
  generalize validD s.data.toList = V at cV ⊢
  by_cases h : s.size ≤ 120
  · have hz : decide ((s.size : Int) ≤ 120) = true := by simp; omega
    rw [decide_eq_true h, Bool.true_and]
    go_enter Tryd.func10, Tryd.ntmps10
    go_wp2_with (go_at_call 18; refine cV.mono ?_; rintro e w' ⟨rfl, hb⟩)
    go_ret
    exact ⟨rfl, hb⟩
  · have hz : decide ((s.size : Int) ≤ 120) = false := by simp; omega
    rw [decide_eq_false h, Bool.false_and]
    clear cV
    go_enter Tryd.func10, Tryd.ntmps10
    go_wp2
    go_ret
    exact ⟨rfl, Below.refl _ _⟩

set_option maxHeartbeats 1000000 in
theorem refmay_c (s : ByteArray) (w : World) (hs : s.size ≤ 9223372036854775807) (hT : Tabs w) :
    Calls Tryd.prog 11 #[.string s] w fun e w' => e = .returned (.bool (mayB s.data.toList)) ∧ Below w.heap.size w w' := by
  have cV := valid_c s w hs hT
  unfold mayB
  rw [← Lib.size_eq]
  generalize validD s.data.toList = V at cV ⊢
  by_cases h : s.size ≤ 120
  · have hz : decide ((s.size : Int) ≤ 120) = true := by simp; omega
    rw [decide_eq_true h, Bool.true_and]
    go_enter Tryd.func11, Tryd.ntmps11
    go_wp2_with (go_at_call 18; refine cV.mono ?_; rintro e w' ⟨rfl, hb⟩)
    go_ret
    exact ⟨rfl, hb⟩
  · have hz : decide ((s.size : Int) ≤ 120) = false := by simp; omega
    rw [decide_eq_false h, Bool.false_and]
    clear cV
    go_enter Tryd.func11, Tryd.ntmps11
    go_wp2
    go_ret
    exact ⟨rfl, Below.refl _ _⟩

set_option maxHeartbeats 1000000 in
theorem one_bad (s : ByteArray) (w : World) (hs : s.size ≤ 9223372036854775807) (hT : Tabs w) (hv : validD s.data.toList = false) :
    Calls Tryd.prog 14 #[.string s] w fun e w' => e = .returned (.bool false) ∧ Below w.heap.size w w' := by
  have cV := valid_c s w hs hT
  rw [hv] at cV
  have hne : ¬ s.toList = [] := by
    rw [Lib.toList_data]
    intro h
    rw [h] at hv
    cases hv
  have hne2 : s.toList.isEmpty = false := by simpa using hne
  clear hv
  go_enter Tryd.func14, Tryd.ntmps14
  go_wp2_with (go_at_call 18; refine cV.mono ?_; rintro e w' ⟨rfl, hb⟩)
  go_ret
  exact ⟨rfl, hb⟩

set_option maxHeartbeats 1000000 in
theorem one_none (w : World) :
    Calls Tryd.prog 14 #[.string ⟨#[]⟩] w fun e w' => e = .returned (.bool false) ∧ w = w' := by
  go_enter Tryd.func14, Tryd.ntmps14
  go_wp2
  go_ret
  exact ⟨rfl, rfl⟩

set_option maxHeartbeats 4000000 in
set_option maxRecDepth 1000000 in
theorem one_ok (rs : List Nat) (s : ByteArray) (w : World) (ho : Ok rs) (he : s.data.toList = enc rs) (hs : s.size ≤ 1099511627776) (hT : Tabs w) (hne : rs ≠ []) :
    Calls Tryd.prog 14 #[.string s] w fun e w' => e = .returned (.bool (rs.all letter)) ∧ Below w.heap.size w w' := by
  have cV := valid_c s w (by omega) hT
  rw [he, valid_enc rs ho] at cV
  have hz : s.size = (enc rs).length := by rw [← he, ← Lib.size_eq]
  have hl0 := List.length_pos_iff.2 hne
  have hel := enc_le rs
  have hbe : ¬ s.toList = [] := by
    rw [Lib.toList_data, he]
    intro h
    have h2 : (enc rs).length = 0 := by rw [h]; rfl
    omega
  have hbe2 : s.toList.isEmpty = false := by simpa using hbe
  have HD : Hid (∀ k (hk : k < rs.length), Utf8.decode s (plen rs k) = (rs[k], (encN rs[k]).length)) := Lib.hid (fun k hk => by rw [← decodeL_drop, he, decode_at_k rs ho k hk])
  have HZ := Lib.hid hz
  clear he hz hne hel
  go_enter Tryd.func14, Tryd.ntmps14
  go_wp2_with (go_at_call 18; refine cV.mono ?_; rintro e w0 ⟨rfl, hb0⟩)
  have hT0 := hT.below hb0
  have hsz0 := hb0.size
  go_loopw [] (fun wr => ∃ (k : Nat), k ≤ rs.length ∧ (rs.take k).all letter = true ∧ wr.heap[w0.heap.size]? = some (.stringIter s (plen rs k)) ∧ Below w0.heap.size w0 wr) (fun wr => s.size - wr.iterPos w0.heap.size)
  case atStart =>
    refine ⟨0, by omega, by simp, ?_, (Below.refl _ w0).alloc (Nat.le_refl _) _⟩
    rw [plen_zero]
    exact World.iter_heap w0 s 0
  case round =>
    obtain ⟨k, hk, hall, hit, hbw⟩ := hrel
    have HA := Lib.hid hall
    clear hall
    have hsz : w0.heap.size < wr.heap.size := (Array.getElem?_eq_some_iff.1 hit).1
    by_cases hp : k < rs.length
    · have hlt : plen rs k < s.size := by rw [HZ.out]; exact plen_lt rs k hp
      have hr : rs[k] ≤ 1114111 := by have := ho _ (List.getElem_mem hp); unfold okRune at this; omega
      have hnx : ∀ ty, (Instr.next (.pointer (some ⟨w0.heap.size, 0, none⟩)) true ty).run Tryd.prog wr = .ok (.tuple #[.bool true, .int .i64 (plen rs k), .int .i32 (rs[k] : Nat)]) (wr.iterAt w0.heap.size s (plen rs (k + 1))) := fun ty => by
        rw [Lib.run_next_any_at wr w0.heap.size s (plen rs k) ty hit hlt, HD.out k hp, plen_succ rs k hp]
      have hit2 := Lib.iterAt_heap wr w0.heap.size s (plen rs k) (plen rs (k + 1)) hit
      have hbw2 := Lib.below_iterAt hbw (k := w0.heap.size) (by omega) s (plen rs (k + 1))
      have hps := plen_succ rs k hp
      have hel := encN_len rs[k]
      have hpl : plen rs k < plen rs (k + 1) := by omega
      have hple : plen rs (k + 1) ≤ s.size := by rw [HZ.out, ← plen_all rs]; exact plen_mono rs _ _ hp
      clear hps hel
      have cL := letter_c rs[k] _ hr (hT0.below hbw2)
      cases hl : letter rs[k]
      · have HF : Hid (rs.all letter = false) := Lib.hid (by
          rw [List.all_eq_false]
          exact ⟨rs[k], List.getElem_mem hp, by simp [hl]⟩)
        rw [hl] at cL
        clear hl
        go_wp2_with (go_at_call 19; refine cL.mono ?_; rintro e W1 ⟨rfl, b1⟩)
        go_ret
        rw [HF.out]
        exact ⟨rfl, hb0.trans ((hbw2.trans (b1.mono hbw2.size)).mono hsz0)⟩
      · have HF : Hid ((rs.take (k + 1)).all letter = true) := Lib.hid (by
          rw [List.take_succ_eq_append_getElem hp, List.all_append, HA.out]; simp [hl])
        rw [hl] at cL
        clear hl
        go_wp2_with (go_at_call 19; refine cL.mono ?_; rintro e W1 ⟨rfl, b1⟩)
        have hit3 : W1.heap[w0.heap.size]? = some (.stringIter s (plen rs (k + 1))) := by
          rw [b1.block _ (by rw [Lib.iterAt_size]; omega)]; exact hit2
        go_roundw
        case rel => exact ⟨k + 1, hp, HF.out, hit3, hbw2.trans (b1.mono hbw2.size)⟩
        case measure =>
          simp only [World.iterPos, hit3, hit]
          omega
    · have hkk : k = rs.length := by omega
      subst hkk
      have HA2 : Hid (rs.all letter = true) := Lib.hid (by have := HA.out; rwa [List.take_length] at this)
      rw [plen_all, ← HZ.out] at hit
      have hnx : ∀ ty, (Instr.next (.pointer (some ⟨w0.heap.size, 0, none⟩)) true ty).run Tryd.prog wr = _ := fun ty => Lib.run_next_end_at wr w0.heap.size s s.size ty hit (by omega)
      go_wp2
      go_ret
      rw [HA2.out]
      exact ⟨rfl, hb0.trans (hbw.mono hsz0)⟩

theorem wordInfo : (Tryd.prog.info? 32).map (fun i => (i.zero, i.size, i.bytes)) = some (some (.agg #[.string ⟨#[]⟩, .int .i64 0]), 2, 24) := by kernel_rfl

theorem own_below {w w' : World} {base : Nat} {e : TypeId} {size : Nat} {v : Value} {n : Nat} {xs : List Value} (h : w.ownsRow base e size v n xs) (hb : Below w.heap.size w w') : w'.ownsRow base e size v n xs := by
  cases hv : v.ownBlock with
  | none => exact h.kept (row := none) ⟨hb.os, hb.tape, hb.output, hb.size, fun i hi _ => hb.block i hi⟩ (.inl hv)
  | some g => exact h.kept (row := none) ⟨hb.os, hb.tape, hb.output, hb.size, fun i hi _ => hb.block i hi⟩ (.inr (by rw [hv]; simp))

set_option maxHeartbeats 4000000 in
set_option maxRecDepth 1000000 in
theorem behind_c (rs : List Nat) (s : ByteArray) (w : World) (ho : Ok rs) (he : s.data.toList = enc rs) (hs : s.size ≤ 1099511627776) (hT : Tabs w)
    (B : Nat) (v : Value) (n : Nat) (xs : List Value) (hown : w.ownsRow B 32 2 v n xs) (hn : n ≤ 1000000) (hB : B ≤ w.heap.size) :
    Calls Tryd.prog 20 #[v, .string s] w fun e w' => ∃ v', e = .returned v' ∧ w'.ownsRow B 32 2 v' (n + 1) (xs ++ [.string ⟨(low rs).toArray⟩, .int .i64 n]) ∧ Below B w w' := by
  have cN := norm_ok rs s w ho he hs hT
  obtain ⟨i0, hi, hz0, hz1, hz2⟩ := info_parts wordInfo
  clear he ho
  obtain ⟨ad, cap, rfl⟩ : ∃ ad cap, v = .slice ad n cap := by
    rcases hown.2 with ⟨rfl, rfl⟩ | ⟨g, cap, cur, rfl, _⟩
    · exact ⟨none, 0, rfl⟩
    · exact ⟨_, cap, rfl⟩
  go_enter Tryd.func20, Tryd.ntmps20
  go_wp2_with (first
    | (go_at_call 12; refine cN.mono ?_; rintro e W1 ⟨rfl, b1⟩; have hown1 := own_below hown b1; have hsz1 := b1.size)
    | (at_builtin; refine wpList_append_own _ rfl _ _ 23 rfl B 32 i0 (.agg #[.string ⟨#[]⟩, .int .i64 0]) 2 24 Tryd.underlying23 hi hz0 hz1 hz2 rfl (by decide) _ _ _ rfl (hown1.alloc _) ⟨W1.heap.size, 0, none⟩ 1 1 [.string ⟨(low rs).toArray⟩, .int .i64 (n : Int)] rfl rfl (cell_two_new _ _ _ _) (fun x hx => by simp at hx; rcases hx with rfl | rfl <;> rfl) (by unfold maxLen; omega) (by omega) (by simp; omega) ?_; intro v' w3 hown3 hgrow3 hnil3))
  go_ret
  refine ⟨v', rfl, hown3, ?_⟩
  have hlt := (hown1.alloc (.cells #[.string ⟨(low rs).toArray⟩, .int .i64 (n : Int)] 32)).lt
  exact ((b1.mono hB).alloc (by omega) _).grown hgrow3 (by simp; omega) (fun k hk => (hlt k hk).1)

end Go.Proofs.YteemedepmefkbaaDoor
