/-
  All, by contract.
-/
import Derived.Test.YtchkadifjbmmpaaDoorWDigHigh
namespace Go.Proofs.YtchkadifjbmmpaaDoor.D
open Go.RowKit Go.Lib

def hi8 (d : Int) : List Int := [hiB d 0, hiB d 1, hiB d 2, hiB d 3, hiB d 4, hiB d 5, hiB d 6, hiB d 7]
def sumD (s : Int) : List Int → Int
  | [] => s
  | d :: t => sumD (fnv s (hi8 d)) t
def allD (l : List Int) : Int := if allZ l then 0 else sumD 14695981039346656037 l

theorem bl_of_box {T : TypeId} {w : World} {g cap : Nat} {l : List Int} {cs : Array Value} (h : Bx T w g cs) (he : ∀ k (hk : k < l.length), cs[k]? = some (.int .u8 l[k])) : Bl w (.slice (some ⟨g, 0, none⟩) l.length cap) l :=
  .inr ⟨⟨g, 0, none⟩, cap, rfl, fun _ => ⟨g, 0, rfl, fun k hk => by rw [Nat.zero_add, h.cell k, he k hk]⟩⟩

set_option maxHeartbeats 4000000 in
theorem all_c (l : List Int) (v : Value) (w : World) (h1 : Dl w v l) (hn : l.length ≤ 1000000) :
    Calls Tryd.prog 51 #[v] w fun e w' => e = .returned (.int .u64 (allD l)) ∧ Below w.heap.size w w' := by
  have HZ := Lib.hid (allzero_c l v w h1 hn)
  obtain ⟨ad1, cap1, rfl, k1⟩ := h1
  have H1 := Lib.hid k1
  clear k1
  unfold allD
  cases hz : allZ l
  · rw [hz] at HZ
    clear hz
    go_enter Tryd.func51, Tryd.ntmps51
    go_wp2_with fail
    refine HZ.out.mono ?_
    rintro e w1 ⟨rfl, rfl⟩
    go_wp2
    go_loopw [3, 11] (fun vs vk wr => ∃ (k : Nat) (s : Int), k ≤ l.length ∧ vk = .int .i64 (k : Int) ∧ vs = .int .u64 s ∧ Hid (Below w.heap.size w wr) ∧ Hid (sumD s (l.drop k) = sumD 14695981039346656037 l)) (fun _ vk _ => l.length - (RowKit.intOf vk).toNat)
    case atStart => exact ⟨0, _, by omega, rfl, rfl, Lib.hid (Below.refl _ _), Lib.hid rfl⟩
    case round =>
      obtain ⟨k, s, hk, rfl, rfl, hb, hs⟩ := hrel
      clear HZ
      by_cases hp : k < l.length
      · obtain ⟨g1, o1, rfl, c1⟩ := H1.out (by omega)
        have c11 := (c1.below hb.out) k hp
        have hs' := hs.out
        rw [List.drop_eq_getElem_cons hp, sumD] at hs'
        clear c1 H1 hs
        generalize l[k] = x at c11 hs'
        have HS := Lib.hid hs'
        clear hs'
        go_wp2_with fail
        refine (high_c x wr).mono ?_
        rintro e w1 ⟨rfl, b1⟩
        rw [arr8]
        have HB1 := Lib.hid (hb.out.trans (b1.mono hb.out.size))
        clear b1 hb c11
        go_wp2_with fail
        refine (add_c s (hi8 x) _ _ (bl_of_box (Bx.new 122 w1 _) (fun k hk => by
          match k, hk with
          | 0, _ | 1, _ | 2, _ | 3, _ | 4, _ | 5, _ | 6, _ | 7, _ => rfl)) (by simp [hi8])).mono ?_
        rintro e w2 ⟨rfl, rfl⟩
        go_wp2
        go_roundw
        case rel => exact ⟨k + 1, _, hp, by go_num, rfl, Lib.hid (HB1.out.alloc HB1.out.size _), HS⟩
        case measure => simp [RowKit.intOf]; omega
      · have hs' := hs.out
        rw [List.drop_eq_nil_of_le (by omega), sumD] at hs'
        have HS := Lib.hid hs'
        clear hs' hs
        go_wp2
        go_ret
        exact ⟨by rw [← HS.out]; rfl, hb.out⟩
  · rw [hz] at HZ
    clear hz
    go_enter Tryd.func51, Tryd.ntmps51
    go_wp2_with fail
    refine HZ.out.mono ?_
    rintro e w1 ⟨rfl, rfl⟩
    go_wp2
    go_ret
    exact ⟨rfl, Below.refl _ _⟩
end Go.Proofs.YtchkadifjbmmpaaDoor.D
