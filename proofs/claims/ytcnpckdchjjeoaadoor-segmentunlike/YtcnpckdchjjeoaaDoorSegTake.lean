/-
  takeVector, and chapter 8's own take, by contract: the vector that bytes begin with.
-/
import Derived.Test.YtcnpckdchjjeoaaDoorSegVec
import Derived.Test.YtcnpckdchjjeoaaDoorMFrmTake

namespace Go.Proofs.YtcnpckdchjjeoaaDoor
open Go.RowKit Go.Lib
set_option maxRecDepth 100000

/-- So many numbers, of two bytes each. -/
def unV (r : List Int) : Nat → List Int
  | 0 => []
  | n + 1 => unB 0 (r.take 2) :: unV (r.drop 2) n
theorem unV_len : ∀ (n : Nat) (r : List Int), (unV r n).length = n
  | 0, _ => rfl
  | n + 1, r => by simp [unV, unV_len n]
theorem unV_succ : ∀ (n : Nat) (r : List Int), unV r (n + 1) = unV r n ++ [unB 0 ((r.drop (2 * n)).take 2)]
  | 0, r => by simp [unV]
  | n + 1, r => by
    rw [unV, unV_succ n (r.drop 2), List.drop_drop, show 2 + 2 * n = 2 * (n + 1) from by omega]
    rfl
/-- The vector in front, and what stands behind it. -/
def tvT : List Int → Option (List Int × List Int)
  | [] => none
  | c :: r => if 2 * c.toNat ≤ r.length then some (unV r c.toNat, r.drop (2 * c.toNat)) else none
def tvV : Option (List Int × List Int) → List Int
  | none => []
  | some (x, _) => x
def tvR : Option (List Int × List Int) → List Int
  | none => []
  | some (_, r) => r
def tvecT (l : List Int) (w : World) (e : Ending) (w' : World) : Prop :=
  ∃ V A N C, e = .returned (.tuple #[V, .slice A N C, .bool (tvT l).isSome]) ∧ Row w' w.heap.size V (tvV (tvT l)) ∧ Bc w' (.slice A N C) (tvR (tvT l)) ∧ Below w.heap.size w w'
theorem tvecT_no {l : List Int} {w w' : World} (h : tvT l = none) (hb : Below w.heap.size w w') : tvecT l w (.returned (.tuple #[.slice none 0 0, .slice none 0 0, .bool false])) w' := by
  unfold tvecT
  rw [h]
  exact ⟨_, _, _, _, rfl, Row.nil _ _, Bc.nil _, hb⟩
theorem tvecT_yes {l x r : List Int} {w w' : World} {V : Value} {A : Option Addr} {N C : Nat} (h : tvT l = some (x, r)) (hV : Row w' w.heap.size V x) (hR : Bc w' (.slice A N C) r) (hb : Below w.heap.size w w') : tvecT l w (.returned (.tuple #[V, .slice A N C, .bool true])) w' := by
  unfold tvecT
  rw [h]
  exact ⟨_, _, _, _, rfl, hV, hR, hb⟩

/-- Bytes do not lie in a row of numbers. -/
theorem row_apart {w : World} {B g n : Nat} {m : List Int} (hR : Row w B (.slice (some ⟨g, 0, none⟩) n n) m) (hm : m.length = n) {b o : Nat} {l : List Int} (hl : Byts w b o l) (h0 : 0 < l.length) : b ≠ g := by
  rintro rfl
  have c := hl 0 h0
  rw [Nat.add_zero] at c
  subst hm
  by_cases ho : o < m.length
  · have := (hR.at o ho).symm.trans c
    cases this
  · rcases hR.2 with ⟨h1, _⟩ | ⟨g', cap, cur, h1, _, hh, _, _, hs, _⟩
    · cases h1
    · simp only [Value.slice.injEq, Option.some.injEq, Addr.mk.injEq] at h1
      obtain ⟨⟨rfl, _, _⟩, _, rfl⟩ := h1
      rw [cell_of_row w b o _ _ _ hh, Array.getElem?_eq_none (by omega)] at c
      cases c
theorem Bc.stored {w : World} {B g n : Nat} {m : List Int} {v : Value} {l : List Int} (h : Bc w v l) (hR : Row w B (.slice (some ⟨g, 0, none⟩) n n) m) (hm : m.length = n) (k : Nat) (u : Value) : Bc (w.setCell ⟨g, k, none⟩ u) v l := by
  refine ⟨?_, h.2⟩
  rcases h.1 with h1 | ⟨ad, cap, h1, h2⟩
  · exact .inl h1
  · refine .inr ⟨ad, cap, h1, fun h0 => ?_⟩
    obtain ⟨b, o, e, hs⟩ := h2 h0
    have hne := row_apart hR hm hs h0
    exact ⟨b, o, e, fun j hj => (World.cell?_of_block (Below.heap_setCell w ⟨g, k, none⟩ u b hne)).trans (hs j hj)⟩

theorem take_first (n : Nat) (r : List Int) (ad : Option Addr) (cap : Nat) (w : World) (h : Bc w (.slice ad (r.length + 1) cap) ((n : Int) :: r)) (ho : OkB ((n : Int) :: r)) (hl : r.length + 1 ≤ 1000000) :
    Calls Tryd.prog 79 #[.slice ad (r.length + 1 : Nat) cap, .int .i64 1] w fun e w' => ∃ A C, e = .returned (.tuple #[.int .i64 (n : Int), .slice A r.length C]) ∧ Bc w' (.slice A r.length C) r ∧ Below w.heap.size w w' := by
  refine (take_c ((n : Int) :: r) _ 1 w h ho (by simp) (by decide) (by decide) (by simpa using hl)).mono ?_
  rintro e w' ⟨A, C, rfl, h1, h2⟩
  exact ⟨A, C, by simp [unB], by simpa using h1, h2⟩
theorem take_two (r : List Int) (k N : Nat) (A : Option Addr) (C : Nat) (w : World) (h : Bc w (.slice A N C) (r.drop (2 * k))) (ho : OkB r) (_ : N + 2 * k = r.length) (h2 : 2 * k + 2 ≤ r.length) (hl : r.length ≤ 1000000) :
    Calls Tryd.prog 79 #[.slice A N C, .int .i64 2] w fun e w' => ∃ A' N' C', e = .returned (.tuple #[.int .i64 (unB 0 ((r.drop (2 * k)).take 2)), .slice A' N' C']) ∧ Hid (N' + 2 * (k + 1) = r.length) ∧ Hid (Bc w' (.slice A' N' C') (r.drop (2 * (k + 1)))) ∧ Hid (Below w.heap.size w w') := by
  refine (take_c (r.drop (2 * k)) _ 2 w h (ho.drop _) (by rw [List.length_drop]; omega) (by decide) (by decide) (by rw [List.length_drop]; omega)).mono ?_
  rintro e w' ⟨A', C', rfl, h3, h4⟩
  rw [List.drop_drop, show 2 * k + 2 = 2 * (k + 1) from by omega] at h3
  exact ⟨A', _, C', rfl, Lib.hid (by rw [List.length_drop]; omega), Lib.hid h3, Lib.hid h4⟩

set_option maxHeartbeats 4000000 in
theorem takevec_c (l : List Int) (v : Value) (w : World) (h : Bc w v l) (ho : OkB l) (hl : l.length ≤ 1000000) :
    Calls Tryd.prog 75 #[v] w (tvecT l w) := by
  obtain ⟨ad, cap, rfl, hcap⟩ := h.2
  cases l with
  | nil =>
    have HX := Lib.hid (show tvT [] = none from rfl)
    clear h
    go_enter Tryd.func75, Tryd.ntmps75
    go_wp2
    go_ret3
    exact tvecT_no HX.out (Below.refl _ _)
  | cons c r =>
    obtain ⟨hc0, hc1⟩ := ho c (List.mem_cons_self ..)
    obtain ⟨n, rfl⟩ := Int.eq_ofNat_of_zero_le hc0
    have HC := Lib.hid (take_first n r ad cap w h ho (by simpa using hl))
    have hor : OkB r := fun x hx => ho x (List.mem_cons_of_mem _ hx)
    have hrl : r.length ≤ 1000000 := by simp at hl; omega
    have HOR := Lib.hid hor
    have e1 : decide (((r.length + 1 : Nat) : Int) < 1) = false := by simp; omega
    clear h ho hcap hl hc0 hor
    by_cases hp : 2 * n ≤ r.length
    · have HX := Lib.hid (show tvT ((n : Int) :: r) = some (unV r n, r.drop (2 * n)) by simp [tvT, hp])
      have e2 : decide ((r.length : Int) < (n : Int) * 2) = false := by simp; omega
      have hmk := run_make_row' (P := Tryd.prog) 22 3 (.int .i64 0) 8 Tryd.underlying22 intInfo rfl .i64 .i64 n (by omega) (by omega)
      simp only [List.length_cons]
      go_enter Tryd.func75, Tryd.ntmps75
      go_wp2_with fail
      refine HC.out.mono ?_
      rintro e w1 ⟨A1, C1, rfl, h1, b1⟩
      have H1 := Lib.hid h1
      have HB1 := Lib.hid b1
      clear h1 b1 HC
      go_wp2
      clear hmk
      have hz1 := HB1.out.size
      go_loopw [0, 25] (fun v0 vk wr => ∃ (k N C : Nat) (A : Option Addr) (m : List Int), k ≤ n ∧ vk = .int .i64 (k : Int) ∧ v0 = .slice A N C ∧ Hid (N + 2 * k = r.length) ∧ Hid (Bc wr (.slice A N C) (r.drop (2 * k))) ∧ Hid (m.length = n) ∧ Hid (m.take k = unV r k) ∧ Hid (Row wr w1.heap.size (.slice (some ⟨w1.heap.size, 0, none⟩) n n) m) ∧ Hid (Below w.heap.size w wr)) (fun _ vk _ => n - (RowKit.intOf vk).toNat)
      case atStart => exact ⟨0, _, _, _, List.replicate n 0, by omega, rfl, rfl, Lib.hid rfl, Lib.hid (H1.out.below (alloc_below _ _)), Lib.hid (by simp), Lib.hid rfl, Lib.hid (row_made w1 n (by omega)), Lib.hid (bn HB1.out (alloc_below _ _))⟩
      case round =>
        obtain ⟨k, N, C, A, m, hk, rfl, rfl, HN, HBc, HM, HK, HR, HB⟩ := hrel
        by_cases hkn : k < n
        · have HT := Lib.hid (take_two r k N A C wr HBc.out HOR.out HN.out (by omega) hrl)
          generalize hx : unB 0 ((r.drop (2 * k)).take 2) = x at HT
          have HXk := Lib.hid hx
          clear hx
          go_wp2_with fail
          refine HT.out.mono ?_
          rintro e w2 ⟨A', N', C', rfl, HN', HBc', HB'⟩
          have hr2 := HR.out.below HB'.out
          have hmk' : k < m.length := by rw [HM.out]; exact hkn
          have c0 := hr2.at2 HM.out k m[k] (List.getElem?_eq_getElem hmk')
          have f0 := hr2.soft2 HM.out k
          have hlt : w1.heap.size < w2.heap.size := World.block_lt_of_cell? w2 _ c0
          have HR2 := Lib.hid hr2
          generalize m[k] = y at c0
          clear hr2
          go_wp2
          go_roundw
          case rel => exact ⟨k + 1, N', C', A', m.set k x, hkn, by go_num, rfl, HN', Lib.hid (HBc'.out.stored HR2.out HM.out k _), Lib.hid (by rw [List.length_set]; exact HM.out), Lib.hid (by
            rw [unV_succ, ← HK.out, HXk.out, List.take_succ_eq_append_getElem (by rw [List.length_set]; exact hmk'), List.getElem_set_self, List.take_set_of_le (Nat.le_refl _)]), Lib.hid (HR2.out.set2 HM.out k x), Lib.hid ((bn HB.out HB'.out).setCell (by exact hz1) _)⟩
          case measure => simp [RowKit.intOf]; omega
        · obtain rfl : k = n := by omega
          have HV : Hid (Row wr w.heap.size (.slice (some ⟨w1.heap.size, 0, none⟩) k k) (unV r k)) := Lib.hid (by
            rw [← HK.out, List.take_of_length_le (by have := HM.out; omega)]
            exact HR.out.mono hz1)
          clear HK HR HM
          go_wp2
          go_ret3
          exact tvecT_yes HX.out HV.out HBc.out HB.out
    · have HX := Lib.hid (show tvT ((n : Int) :: r) = none by simp [tvT]; omega)
      have e2 : decide ((r.length : Int) < (n : Int) * 2) = true := by simp; omega
      simp only [List.length_cons]
      go_enter Tryd.func75, Tryd.ntmps75
      go_wp2_with fail
      refine HC.out.mono ?_
      rintro e w1 ⟨A1, C1, rfl, h1, b1⟩
      go_wp2
      go_ret3
      exact tvecT_no HX.out b1
end Go.Proofs.YtcnpckdchjjeoaaDoor
