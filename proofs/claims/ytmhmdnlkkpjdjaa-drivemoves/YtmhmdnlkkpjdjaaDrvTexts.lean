/-
  SameTexts of like texts, by contract.
-/
import Derived.Test.YtmhmdnlkkpjdjaaDrvStaysLaw
namespace Go.Proofs.Ytmhmdnlkkpjdjaa
open Go.RowKit Go.Lib

/-- The slice v holds the texts ss. -/
def Tl (w : World) (v : Value) (ss : List (List UInt8)) : Prop := ∃ ad cap, v = .slice ad ss.length cap ∧ (0 < ss.length → ∃ b o, ad = some ⟨b, o, none⟩ ∧ Strs w b o ss)
theorem Tl.below {w w' : World} {v : Value} {ss : List (List UInt8)} (h : Tl w v ss) (hb : Below w.heap.size w w') : Tl w' v ss := by
  obtain ⟨ad, cap, h1, h2⟩ := h
  refine ⟨ad, cap, h1, fun h0 => ?_⟩
  obtain ⟨b, o, e, hs⟩ := h2 h0
  exact ⟨b, o, e, fun k hk => (hb.cell (World.block_lt_of_cell? w _ (hs k hk))).trans (hs k hk)⟩
theorem Ses.tl {w0 w : World} {p : Nat} {P : List Pf} {m : Nat} {G : List (Value × List Int)} {T : List (Value × List (List UInt8))} (h : Ses w0 w p P m G T) {v : Value} {ss : List (List UInt8)} (hm : (v, ss) ∈ T) : Tl w v ss := by
  obtain ⟨own, ad, cap, h1, h2⟩ := h.t hm
  exact ⟨ad, cap, h1, fun h0 => let ⟨b, o, e, hs, _⟩ := h2 h0; ⟨b, o, e, hs⟩⟩
/-- One text, just laid. -/
theorem tl_one (w : World) (s : ByteArray) (T : TypeId) : Tl (w.alloc (.cells #[.string s] T)) (.slice (some ⟨w.heap.size, 0, none⟩) 1 1) [s.data.toList] :=
  ⟨_, 1, rfl, fun _ => ⟨w.heap.size, 0, rfl, fun k hk => by
    match k, hk with
    | 0, _ =>
      have := (Bx.new T w #[.string s]).cell 0
      rw [Nat.zero_add]
      refine this.trans ?_
      simp [encStr]⟩⟩

set_option maxHeartbeats 4000000 in
theorem tsame_c (ss : List (List UInt8)) (v1 v2 : Value) (w : World) (h1 : Tl w v1 ss) (h2 : Tl w v2 ss) (hn : ss.length ≤ 1000000) :
    Calls Try.prog 22 #[v1, v2] w fun e w' => e = .returned (.bool true) ∧ Below w.heap.size w w' := by
  obtain ⟨ad1, cap1, rfl, k1⟩ := h1
  obtain ⟨ad2, cap2, rfl, k2⟩ := h2
  have H1 := Lib.hid k1
  have H2 := Lib.hid k2
  clear k1 k2
  go_enter Try.func22, Try.ntmps22
  go_wp2
  go_loopw [5] (fun v5 wr => ∃ k q : Nat, k ≤ ss.length ∧ v5 = .int .i64 (k : Int) ∧ wr = w.drewN q) (fun v5 _ => ss.length - (RowKit.intOf v5).toNat)
  case atStart => exact ⟨0, 0, by omega, rfl, rfl⟩
  case round =>
    obtain ⟨k, q, hk, rfl, rfl⟩ := hrel
    by_cases hp : k < ss.length
    · obtain ⟨g1, o1, rfl, c1⟩ := H1.out (by omega)
      obtain ⟨g2, o2, rfl, c2⟩ := H2.out (by omega)
      have c11 := c1 k hp
      have c21 := c2 k hp
      rw [encStr_val] at c11 c21
      clear c1 c2 H1 H2
      generalize ss[k].toArray = x at c11 c21
      go_wp2
      go_quiet (fail)
      go_wp2
      go_roundw
      case rel => exact ⟨k + 1, q + nq, hp, by go_num, rfl⟩
      case measure => simp [RowKit.intOf]; omega
    · go_wp2
      go_ret
      exact ⟨rfl, below_drewN (Below.refl _ _) q⟩
end Go.Proofs.Ytmhmdnlkkpjdjaa
