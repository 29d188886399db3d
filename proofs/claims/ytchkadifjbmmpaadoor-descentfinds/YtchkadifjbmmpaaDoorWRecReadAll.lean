/-
  Read, by contract, of any bytes, at any place.
-/
import Derived.Test.YtchkadifjbmmpaaDoorWRecRead
namespace Go.Proofs.YtchkadifjbmmpaaDoor.R
open Go.RowKit Go.Lib
set_option maxRecDepth 100000

/-- The slice v holds the bytes l. -/
def BlC (w : World) (v : Value) (l : List Int) : Prop :=
  ∃ ad cap, v = .slice ad l.length cap ∧ l.length ≤ cap ∧ (0 < l.length → ∃ b o, ad = some ⟨b, o, none⟩ ∧ Byts w b o l)
theorem BlC.below {w w' : World} {v : Value} {l : List Int} (h : BlC w v l) (hb : Below w.heap.size w w') : BlC w' v l := by
  obtain ⟨ad, cap, h1, h2, h3⟩ := h
  exact ⟨ad, cap, h1, h2, fun h0 => by obtain ⟨b, o, e, hs⟩ := h3 h0; exact ⟨b, o, e, hs.below hb⟩⟩
theorem BRow.blc {w : World} {B : Nat} {v : Value} {l : List Int} (h : BRow w B v l) : BlC w v l := by
  rcases h.2 with ⟨rfl, h0⟩ | ⟨g, cap, cur, rfl, _, _, hn, _⟩
  · have : l = [] := List.eq_nil_of_length_eq_zero h0
    subst this
    exact ⟨none, 0, rfl, Nat.le_refl _, fun h => by simp at h⟩
  · refine ⟨_, cap, rfl, hn, fun h0 => ?_⟩
    obtain ⟨ad, cap', e, h3⟩ := h.nl.form
    obtain ⟨b, o, e2, h4⟩ := h3 h0
    cases e
    exact ⟨b, o, e2, h4⟩

theorem atOk_neg {l : List Int} {at_ : Int} (h : at_ < 0) : atOk l at_ = false := by
  unfold atOk
  rw [decide_eq_false (by omega), Bool.false_and]
theorem atOk_short {l : List Int} {at_ : Int} (_ : 0 ≤ at_) (h : (l.length : Int) - at_ < 12) : atOk l at_ = false := by
  unfold atOk rdOk
  cases hd : decide (at_ ≤ (l.length : Int))
  · simp
  · rw [decide_eq_true_eq] at hd
    rw [List.length_drop, decide_eq_false (show ¬ 12 ≤ l.length - at_.toNat by omega)]
    simp
theorem atOk_long {l : List Int} {a : Nat} (h : a + 12 ≤ l.length) : atOk l (a : Int) = (decide (hdN (l.drop a) ≤ ((l.length - (a + 12) : Nat) : Int)) && mayR (rdR (l.drop a))) := by
  unfold atOk rdOk
  rw [Int.toNat_natCast, List.length_drop, decide_eq_true (show (0 : Int) ≤ (a : Int) by omega), decide_eq_true (show (a : Int) ≤ (l.length : Int) by omega), decide_eq_true (show 12 ≤ l.length - a by omega), Bool.true_and, Bool.true_and, Bool.true_and]
  rw [show ((l.length - a : Nat) : Int) - 12 = ((l.length - (a + 12) : Nat) : Int) from by omega]

theorem read_c (l : List Int) (v : Value) (at_ : Int) (w : World) (h : BlC w v l) (ho : OkB l) (hl : l.length ≤ 1000000) (hm : at_ ≤ 9223372036854775807) (hT : Tabs w) :
    Calls Tryd.prog 56 #[v, .int .i64 at_] w (readT l at_ w) := by
  obtain ⟨ad, cap, rfl, hcl, hb⟩ := h
  unfold readT
  by_cases h0 : at_ < 0
  · rw [atOk_neg h0]
    exact read_neg _ at_ w h0
  · obtain ⟨a, rfl⟩ := Int.eq_ofNat_of_zero_le (show 0 ≤ at_ by omega)
    by_cases h1 : (l.length : Int) - (a : Int) < 12
    · rw [atOk_short (by omega) h1]
      exact read_short l ad cap _ w (by omega) hl h1 hm
    · have h12 : a + 12 ≤ l.length := by omega
      obtain ⟨b, o, rfl, hby⟩ := hb (by omega)
      clear hb
      rw [atOk_long h12, Int.toNat_natCast]
      have hT12 := take_take12 (l.drop a)
      have HRH : Hid (∀ W, Below w.heap.size w W → Calls Tryd.prog 74 #[.slice (some ⟨b, o + a, none⟩) 12 (cap - a)] W fun e w' => e = .returned (.agg #[.int .i64 (hdO (l.drop a)), .int .i64 (hdS (l.drop a)), .int .i64 (hdW (l.drop a)), .int .i64 (hdC (l.drop a)), .int .i64 (hdN (l.drop a))]) ∧ Below W.heap.size W w') := Lib.hid (fun W hw => by
        have h := readHead_c ((l.drop a).take 12) b (o + a) (cap - a) W ((hby.below hw).drop a |>.take 12) ((ho.drop a).take 12) (by simp; omega) (by omega)
        rw [hT12.1, hT12.2.1, hT12.2.2.1, hT12.2.2.2.1, hT12.2.2.2.2] at h
        exact h)
      have hN := hdN_bound (l.drop a) (ho.drop a)
      by_cases hn : hdN (l.drop a) ≤ ((l.length - (a + 12) : Nat) : Int)
      · rw [decide_eq_true hn, Bool.true_and]
        have hd : (l.drop a).drop 12 = l.drop (a + 12) := by rw [List.drop_drop]
        have HM : Hid (∀ W, Below w.heap.size w W → Calls Tryd.prog 64 #[.agg #[.int .i64 (rdR (l.drop a)).o, .int .i64 (rdR (l.drop a)).s, .int .i64 (rdR (l.drop a)).w, .int .i64 (rdR (l.drop a)).c, .string (rdR (l.drop a)).t]] W fun e w' => e = .returned (.bool (mayR (rdR (l.drop a)))) ∧ Below W.heap.size W w') := Lib.hid (fun W hw => may_c (rdR (l.drop a)) W (by show (strOfNums _).size ≤ _; rw [strOfNums_size, List.length_take]; omega) (hT.below hw))
        by_cases hc : cap = a + 12
        · have e1 : l.length = a + 12 := by omega
          rw [e1] at hn ⊢
          subst hc
          have e0 : hdN (l.drop a) = 0 := by simp at hn; omega
          have HCV : Hid (∀ W, Below w.heap.size w W → (convert 55 9 (.slice (some ⟨b, o, none⟩) 0 0)).run Tryd.prog W = .ok (.string (rdR (l.drop a)).t) W) := Lib.hid (fun W _ => by
            have h := run_convert_bytes_arg (P := Tryd.prog) W 55 5 Tryd.underlying55 Tryd.underlying5 b o 0 0 [] rfl (fun i hi => by omega) 9 Tryd.underlying9
            rw [h]
            unfold rdR
            rw [e0]
            rfl)
          rw [show a + 12 - a = 12 from by omega, e0] at HRH
          rw [e0, Int.add_zero]
          cases hM : mayR (rdR (l.drop a))
          · rw [hM] at HM
            exact read_no_e b o a _ _ _ _ _ w (by omega) HRH HCV HM
          · rw [hM] at HM
            exact read_yes_e b o a _ _ _ _ _ w (by omega) HRH HCV HM
        · obtain ⟨n, hn0⟩ := Int.eq_ofNat_of_zero_le hN.1
          have hn1 : n ≤ l.length - (a + 12) := by rw [hn0] at hn; exact Int.ofNat_le.1 hn
          have HCV : Hid (∀ W, Below w.heap.size w W → (convert 55 9 (.slice (some ⟨b, o + (a + 12), none⟩) n (cap - (a + 12)))).run Tryd.prog W = .ok (.string (rdR (l.drop a)).t) W) := Lib.hid (fun W hW => by
            have h := run_convert_bytes_arg (P := Tryd.prog) W 55 5 Tryd.underlying55 Tryd.underlying5 b (o + (a + 12)) n (cap - (a + 12)) ((l.drop (a + 12)).take n) (by simp; omega) (fun i hi => by
              have h1 := ((hby.drop (a + 12)).below hW) i (by rw [List.length_drop]; omega)
              rw [h1, List.getD_eq_getElem?_getD, List.getElem?_eq_getElem (show i < ((l.drop (a + 12)).take n).length by simp; omega), List.getElem_take]; rfl) 9 Tryd.underlying9
            rw [h]
            unfold rdR
            rw [hn0, hd, Int.toNat_natCast])
          rw [hn0] at HRH
          rw [hn0]
          cases hM : mayR (rdR (l.drop a))
          · rw [hM] at HM
            exact read_no_m l.length b o cap a n _ _ _ _ _ w hl hcl h12 hc hn1 HRH HCV HM
          · rw [hM] at HM
            exact read_yes_m l.length b o cap a n _ _ _ _ _ w hl hcl h12 hc hn1 HRH HCV HM
      · rw [decide_eq_false hn, Bool.false_and]
        by_cases hc : cap = a + 12
        · have e1 : l.length = a + 12 := by omega
          rw [e1] at hn ⊢
          subst hc
          rw [show a + 12 - a = 12 from by omega] at HRH
          exact read_over_e b o a _ _ _ _ w (by omega) _ HRH (by simp at hn; simpa using hn)
        · exact read_over_m l.length b o cap a _ _ _ _ w hl hcl h12 hc _ HRH (by omega)
end Go.Proofs.YtchkadifjbmmpaaDoor.R
