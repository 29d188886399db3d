/-
  What every program answers that is one: awake answers true.
-/
import Derived.Test.YteemedepmefkbaaDoorTokSame
namespace Go.Proofs.YteemedepmefkbaaDoor
open Go.RowKit Go.Shelf Go.Lib Go.Proofs.GvTok

theorem ok_small (rs : List Nat) (h : ∀ r ∈ rs, r < 55296) : Ok rs := fun r hr => .inl (h r hr)
theorem words_awake : words [84, 111, 32, 98, 101, 44, 32, 79, 82] = [[116, 111], [98, 101], [111, 114]] := by decide +kernel
theorem low_awake : low [65, 49] = [97, 49] := by decide +kernel
theorem may_a : mayB [97] = true := by decide +kernel
theorem may_ff : mayB [255] = false := by decide +kernel
theorem all_a1 : [97, 49].all letter = true := by decide +kernel
theorem all_a_b : [97, 32, 98].all letter = false := by decide +kernel

theorem of_awake (w : World) (hT : Tabs w) : Calls Tryd.prog 7 #[.string ⟨#[84, 111, 32, 98, 101, 44, 32, 79, 82]⟩] w fun e w' => ∃ v, e = .returned v ∧ WordsAt w' w.heap.size v [[116, 111], [98, 101], [111, 114]] ∧ Below w.heap.size w w' := by
  have h := of_ok [84, 111, 32, 98, 101, 44, 32, 79, 82] ⟨#[84, 111, 32, 98, 101, 44, 32, 79, 82]⟩ w (ok_small _ (by decide)) (by decide) (by decide) hT
  rw [words_awake] at h
  exact h
theorem may_awake (w : World) (hT : Tabs w) : Calls Tryd.prog 10 #[.string ⟨#[97]⟩] w fun e w' => e = .returned (.bool true) ∧ Below w.heap.size w w' := by
  have h := may_c ⟨#[97]⟩ w (by decide) hT
  have e : mayB (⟨#[97]⟩ : ByteArray).data.toList = true := may_a
  rw [e] at h
  exact h
theorem may_awake2 (w : World) (hT : Tabs w) : Calls Tryd.prog 10 #[.string ⟨#[255]⟩] w fun e w' => e = .returned (.bool false) ∧ Below w.heap.size w w' := by
  have h := may_c ⟨#[255]⟩ w (by decide) hT
  have e : mayB (⟨#[255]⟩ : ByteArray).data.toList = false := may_ff
  rw [e] at h
  exact h
theorem norm_awake (w : World) (hT : Tabs w) : Calls Tryd.prog 12 #[.string ⟨#[65, 49]⟩] w fun e w' => e = .returned (.string ⟨#[97, 49]⟩) ∧ Below w.heap.size w w' := by
  have h := norm_ok [65, 49] ⟨#[65, 49]⟩ w (ok_small _ (by decide)) (by decide) (by decide) hT
  rw [low_awake] at h
  exact h
theorem one_awake (w : World) (hT : Tabs w) : Calls Tryd.prog 14 #[.string ⟨#[97, 49]⟩] w fun e w' => e = .returned (.bool true) ∧ Below w.heap.size w w' := by
  have h := one_ok [97, 49] ⟨#[97, 49]⟩ w (ok_small _ (by decide)) (by decide) (by decide) hT (by decide)
  rw [all_a1] at h
  exact h
theorem one_awake2 (w : World) (hT : Tabs w) : Calls Tryd.prog 14 #[.string ⟨#[97, 32, 98]⟩] w fun e w' => e = .returned (.bool false) ∧ Below w.heap.size w w' := by
  have h := one_ok [97, 32, 98] ⟨#[97, 32, 98]⟩ w (ok_small _ (by decide)) (by decide) (by decide) hT (by decide)
  rw [all_a_b] at h
  exact h
theorem one_awake3 (w : World) : Calls Tryd.prog 14 #[.string ⟨#[]⟩] w fun e w' => e = .returned (.bool false) ∧ Below w.heap.size w w' :=
  (one_none w).mono fun _ _ ⟨h1, h2⟩ => ⟨h1, h2 ▸ Below.refl _ _⟩

/-- Three words that the call has just written out. -/
theorem reads_lit (w : World) : Reads (w.alloc (.cells #[.string ⟨#[116, 111]⟩, .int .i64 0, .string ⟨#[98, 101]⟩, .int .i64 1, .string ⟨#[111, 114]⟩, .int .i64 2] 32)) (.slice (some ⟨w.heap.size, 0, none⟩) 3 3) [[116, 111], [98, 101], [111, 114]] := by
  refine ⟨_, 3, rfl, fun _ => ⟨_, rfl, fun k hk => ?_⟩⟩
  rw [cell_of_row _ w.heap.size (k * 2) _ _ _ (heap_alloc_new w _), cell_of_row _ w.heap.size (k * 2 + 1) _ _ _ (heap_alloc_new w _)]
  have hk3 : k < 3 := hk
  match k, hk3 with
  | 0, _ => exact ⟨rfl, rfl⟩
  | 1, _ => exact ⟨rfl, rfl⟩
  | 2, _ => exact ⟨rfl, rfl⟩
theorem Reads.below {w w' : World} {v : Value} {ws : List (List UInt8)} (h : Reads w v ws) (hb : Below w.heap.size w w') : Reads w' v ws := by
  obtain ⟨ad, cap, hv, h1⟩ := h
  refine ⟨ad, cap, hv, fun h0 => ?_⟩
  obtain ⟨g, e, h2⟩ := h1 h0
  have k : ∀ {a : Addr} {v : Value}, w.cell? a = some v → w'.cell? a = some v := fun {a v} hc => (hb.cell (World.block_lt_of_cell? w a hc)).trans hc
  exact ⟨g, e, fun j hj => ⟨k (h2 j hj).1, k (h2 j hj).2⟩⟩
theorem drewN_below (w : World) (q : Nat) : Below w.heap.size w (w.drewN q) := below_drewN (Below.refl _ _) q

set_option maxHeartbeats 4000000 in
set_option maxRecDepth 1000000 in
theorem awake_c (w : World) (hT : Tabs w) : Calls Tryd.prog 6 #[] w fun e w' => e = .returned (.bool true) ∧ Below w.heap.size w w' := by
  go_enter Tryd.func6, Tryd.ntmps6
  go_wp2_with fail
  refine (of_awake w hT).mono ?_
  rintro e w1 ⟨v1, rfl, hW, b1⟩
  go_wp2_with fail
  refine (same_c [[116, 111], [98, 101], [111, 114]] _ _ _ (hW.reads.below ((Below.refl _ _).alloc (Nat.le_refl _) _)) (reads_lit w1) (by decide)).mono ?_
  rintro e w2 ⟨rfl, q2, rfl⟩
  have b2 : Below w.heap.size w _ := below_drewN (b1.alloc b1.size (.cells #[.string ⟨#[116, 111]⟩, .int .i64 0, .string ⟨#[98, 101]⟩, .int .i64 1, .string ⟨#[111, 114]⟩, .int .i64 2] 32)) q2
  go_wp2_with fail
  refine (may_awake _ (hT.below b2)).mono ?_
  rintro e w3 ⟨rfl, b3⟩
  have b3' := b2.trans (b3.mono b2.size)
  go_wp2_with fail
  refine (may_awake2 _ (hT.below b3')).mono ?_
  rintro e w4 ⟨rfl, b4⟩
  have b4' := b3'.trans (b4.mono b3'.size)
  go_wp2_with fail
  refine (norm_awake _ (hT.below b4')).mono ?_
  rintro e w5 ⟨rfl, b5⟩
  have b5' := b4'.trans (b5.mono b4'.size)
  go_wp2_with fail
  refine (one_awake _ (hT.below b5')).mono ?_
  rintro e w6 ⟨rfl, b6⟩
  have b6' := b5'.trans (b6.mono b5'.size)
  go_wp2_with fail
  refine (one_awake2 _ (hT.below b6')).mono ?_
  rintro e w7 ⟨rfl, b7⟩
  have b7' := b6'.trans (b7.mono b6'.size)
  go_wp2_with fail
  refine (one_awake3 _).mono ?_
  rintro e w8 ⟨rfl, b8⟩
  have b8' := b7'.trans (b8.mono b7'.size)
  go_wp2
  go_ret
  exact ⟨rfl, b8'⟩

end Go.Proofs.YteemedepmefkbaaDoor
