/-
  SameWords and OverWords, by contract.
-/
import Derived.Test.YteemedepmefkbaaDoorTokRefOf
import Derived.Deep.QuietTactic
import Derived.BigQuiet
namespace Go.Proofs.YteemedepmefkbaaDoor
open Go.RowKit Go.Shelf Go.Lib Go.Proofs.GvTok

theorem wcells_at : ∀ (ws : List (List UInt8)) (i k : Nat) (hk : k < ws.length), (wcells i ws)[k * 2]? = some (.string ⟨ws[k].toArray⟩) ∧ (wcells i ws)[k * 2 + 1]? = some (.int .i64 ((i + k : Nat) : Int))
  | [], _, _, hk => by simp at hk
  | u :: us, i, 0, _ => by simp [wcells]
  | u :: us, i, k + 1, hk => by
    have h := wcells_at us (i + 1) k (by simpa using hk)
    rw [show (k + 1) * 2 = k * 2 + 1 + 1 from by omega]
    simp only [wcells, List.getElem?_cons_succ, List.getElem_cons_succ]
    rw [show i + (k + 1) = i + 1 + k from by omega]
    exact h

/-- The slice v of words reads as ws, wherever it lies. -/
def Reads (w : World) (v : Value) (ws : List (List UInt8)) : Prop :=
  ∃ ad cap, v = .slice ad ws.length cap ∧ (0 < ws.length → ∃ g, ad = some ⟨g, 0, none⟩ ∧ ∀ k (hk : k < ws.length), w.cell? ⟨g, k * 2, none⟩ = some (.string ⟨ws[k].toArray⟩) ∧ w.cell? ⟨g, k * 2 + 1, none⟩ = some (.int .i64 (k : Int)))
theorem WordsAt.reads {w : World} {B : Nat} {v : Value} {ws : List (List UInt8)} (h : WordsAt w B v ws) : Reads w v ws := by
  rcases h.2 with ⟨rfl, h0⟩ | ⟨g, cap, cur, rfl, hb, hh, hnc, _⟩
  · exact ⟨none, 0, by rw [h0], fun h => by omega⟩
  · refine ⟨_, cap, rfl, fun _ => ⟨g, rfl, fun k hk => ?_⟩⟩
    have h1 := wcells_at ws 0 k hk
    rw [Nat.zero_add] at h1
    exact ⟨(World.ownsRow.cellAt h (k * 2) (by omega)).trans h1.1, (World.ownsRow.cellAt h (k * 2 + 1) (by omega)).trans h1.2⟩
theorem Reads.same {w w' : World} {v : Value} {ws : List (List UInt8)} (h : Reads w v ws) (hc : ∀ p, w'.cell? p = w.cell? p) : Reads w' v ws := by
  obtain ⟨ad, cap, hv, h1⟩ := h
  refine ⟨ad, cap, hv, fun h0 => ?_⟩
  obtain ⟨g, e, h2⟩ := h1 h0
  exact ⟨g, e, fun k hk => ⟨(hc _).trans (h2 k hk).1, (hc _).trans (h2 k hk).2⟩⟩

set_option maxHeartbeats 4000000 in
set_option maxRecDepth 1000000 in
theorem same_c (ws : List (List UInt8)) (v1 v2 : Value) (w : World) (h1 : Reads w v1 ws) (h2 : Reads w v2 ws) (hn : ws.length ≤ 1000000) :
    Calls Tryd.prog 8 #[v1, v2] w fun e w' => e = .returned (.bool true) ∧ ∃ q, w' = w.drewN q := by
  obtain ⟨ad1, cap1, rfl, h1⟩ := h1
  obtain ⟨ad2, cap2, rfl, h2⟩ := h2
  have H1 := Lib.hid h1
  have H2 := Lib.hid h2
  clear h1 h2
  go_enter Tryd.func8, Tryd.ntmps8
  go_wp2
  go_loopw [5] (fun v5 wr => ∃ k q : Nat, k ≤ ws.length ∧ v5 = .int .i64 (k : Int) ∧ wr = w.drewN q) (fun v5 _ => ws.length - (intOf v5).toNat)
  case atStart => exact ⟨0, 0, by omega, rfl, rfl⟩
  case round =>
    obtain ⟨k, q, hk, rfl, rfl⟩ := hrel
    by_cases hp : k < ws.length
    · obtain ⟨g1, rfl, c1⟩ := H1.out (by omega)
      obtain ⟨g2, rfl, c2⟩ := H2.out (by omega)
      obtain ⟨c11, c12⟩ := c1 k hp
      obtain ⟨c21, c22⟩ := c2 k hp
      clear c1 c2 H1 H2
      go_wp2
      go_quiet (fail)
      go_wp2
      go_roundw
      case rel => exact ⟨k + 1, q + nq, hp, by go_num, rfl⟩
      case measure => simp [intOf]; omega
    · go_wp2
      go_ret
      exact ⟨rfl, q, rfl⟩

set_option maxHeartbeats 4000000 in
set_option maxRecDepth 1000000 in
theorem over_c (ws : List (List UInt8)) (v : Value) (w : World) (B : Nat) (h : WordsAt w B v ws) (hn : ws.length ≤ 1000000) (hB : B ≤ w.heap.size) :
    Calls Tryd.prog 16 #[v] w fun e w' => e = .returned (.tuple #[]) ∧ Below B w w' := by
  obtain ⟨i0, hi, hz0, hz1, hz2⟩ := info_parts wordInfo
  obtain ⟨ad, cap, rfl⟩ : ∃ ad cap, v = .slice ad ws.length cap := by
    rcases h.2 with ⟨rfl, h0⟩ | ⟨g, cap, cur, rfl, _⟩
    · exact ⟨none, 0, by rw [h0]⟩
    · exact ⟨_, cap, rfl⟩
  go_enter Tryd.func16, Tryd.ntmps16
  go_wp2
  go_loopw [2] (fun v2 wr => ∃ (k : Nat) (xs : List Value), k ≤ ws.length ∧ v2 = .int .i64 (k : Int) ∧ wr.ownsRow B 32 2 (.slice ad ws.length cap) ws.length xs ∧ Below B w wr) (fun v2 _ => ws.length - (intOf v2).toNat)
  case atStart => exact ⟨0, _, by omega, rfl, h, Below.refl _ _⟩
  case round =>
    obtain ⟨k, xs, hk, rfl, hown, hb⟩ := hrel
    have hsz := hb.size
    by_cases hp : k < ws.length
    · obtain ⟨g, cap2, he, hg, hlt⟩ := World.ownsRow.form hown (by omega)
      simp only [Value.slice.injEq, true_and] at he
      obtain ⟨rfl, rfl⟩ := he
      have hf1 := World.ownsRow.frozenAt hown (k * 2)
      have hf2 := World.ownsRow.frozenAt hown (k * 2 + 1)
      have hl := hown.1
      have hc1 := World.ownsRow.cellAt hown (k * 2) (by omega)
      have hc2 := World.ownsRow.cellAt hown (k * 2 + 1) (by omega)
      rw [List.getElem?_eq_getElem (by omega)] at hc1 hc2
      have ho1 := (World.ownsRow.stored hown (k * 2) (.string ⟨#[]⟩)).1
      have ho2 := (World.ownsRow.stored ho1 (k * 2 + 1) (.int .i64 (-9))).1
      have hb2 := (hb.setCell (p := ⟨g, k * 2, none⟩) hg (.string ⟨#[]⟩)).setCell (p := ⟨g, k * 2 + 1, none⟩) hg (.int .i64 (-9))
      go_wp2
      exact ⟨⟨k + 1, _, hp, by go_num, ho2, hb2⟩, by simp [intOf]; omega⟩
    · go_wp2_with (at_builtin; refine wpList_append_own _ rfl _ _ 23 rfl B 32 i0 (.agg #[.string ⟨#[]⟩, .int .i64 0]) 2 24 Tryd.underlying23 hi hz0 hz1 hz2 rfl (by decide) _ _ _ rfl (World.ownsRow.alloc hown _) ⟨wr.heap.size, 0, none⟩ 1 1 [.string ⟨#[]⟩, .int .i64 (-9)] rfl rfl (cell_two_new _ _ _ _) (fun x hx => by simp at hx; rcases hx with rfl | rfl <;> rfl) (by unfold maxLen; omega) (by omega) (by simp; omega) ?_; intro v' w3 hown3 hgrow3 hnil3)
      go_end0
      have hlt := (World.ownsRow.alloc hown (.cells #[.string ⟨#[]⟩, .int .i64 (-9)] 32)).lt
      exact ⟨rfl, (hb.alloc (by omega) _).grown hgrow3 (by simp; omega) (fun k hk => (hlt k hk).1)⟩

end Go.Proofs.YteemedepmefkbaaDoor
