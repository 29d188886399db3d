/-
  Chapter 8's own take, by contract.
-/
import Derived.Test.YtcnpckdchjjeoaaDoorSegTake
namespace Go.Proofs.YtcnpckdchjjeoaaDoor
open Go.RowKit Go.Lib
set_option maxRecDepth 100000

/-- The vector of n numbers from place a on, and the place behind it. -/
def rtT (l : List Int) (a : Nat) (n : Int) : Option (List Int × Nat) :=
  match tvT (l.drop a) with
  | some (x, _) => if (x.length : Int) = n then some (x, a + 1 + 2 * x.length) else none
  | none => none
def rtV : Option (List Int × Nat) → List Int
  | none => []
  | some (x, _) => x
def rtE : Option (List Int × Nat) → Nat
  | none => 0
  | some (_, k) => k
def rtakeT (l : List Int) (a : Nat) (n : Int) (w : World) (e : Ending) (w' : World) : Prop :=
  ∃ V, e = .returned (.tuple #[V, .int .i64 (rtE (rtT l a n) : Nat), .bool (rtT l a n).isSome]) ∧ Row w' w.heap.size V (rtV (rtT l a n)) ∧ Below w.heap.size w w'
theorem rtakeT_no {l : List Int} {a : Nat} {n : Int} {w w' : World} (h : rtT l a n = none) (hb : Below w.heap.size w w') : rtakeT l a n w (.returned (.tuple #[.slice none 0 0, .int .i64 0, .bool false])) w' := by
  unfold rtakeT
  rw [h]
  exact ⟨_, rfl, Row.nil _ _, hb⟩
theorem rtakeT_yes {l x : List Int} {a k : Nat} {n : Int} {w w' : World} {V : Value} (h : rtT l a n = some (x, k)) (hV : Row w' w.heap.size V x) (hb : Below w.heap.size w w') : rtakeT l a n w (.returned (.tuple #[V, .int .i64 (k : Int), .bool true])) w' := by
  unfold rtakeT
  rw [h]
  exact ⟨_, rfl, hV, hb⟩

set_option maxHeartbeats 4000000 in
theorem rtake_none (l : List Int) (ad : Option Addr) (cap a : Nat) (n : Int) (w : World) (ha : l.length = a) (hl : l.length ≤ 1000000) :
    Calls Tryd.prog 65 #[.slice ad l.length cap, .int .i64 (a : Int), .int .i64 n] w (rtakeT l a n w) := by
  have HC := Lib.hid (fun W => get_no l ad cap (a : Int) 1 W hl (by decide) (by omega) (by omega))
  have HX := Lib.hid (show rtT l a n = none by unfold rtT; rw [List.drop_eq_nil_of_le (by omega)]; rfl)
  clear ha
  go_enter Tryd.func65, Tryd.ntmps65
  go_wp2_with fail
  refine (HC.out _).mono ?_
  rintro e w1 ⟨rfl, b1⟩
  go_wp2
  go_ret3
  exact rtakeT_no HX.out b1

set_option maxHeartbeats 4000000 in
theorem rtake_some (l : List Int) (b o cap a c : Nat) (n : Int) (r : List Int) (w : World) (hb : Byts w b o l) (ho : OkB l) (hd : l.drop a = (c : Int) :: r) (hl : l.length ≤ 1000000) :
    Calls Tryd.prog 65 #[.slice (some ⟨b, o, none⟩) l.length cap, .int .i64 (a : Int), .int .i64 n] w (rtakeT l a n w) := by
  have hlen : l.length = a + 1 + r.length := by
    have h1 := congrArg List.length hd
    rw [List.length_drop, List.length_cons] at h1
    omega
  have hc : c < 256 := by
    have := ho (c : Int) (List.mem_of_mem_drop (by rw [hd]; exact List.mem_cons_self ..))
    omega
  have hdr : l.drop (a + 1) = r := by rw [← List.drop_drop, hd]; rfl
  have HC : Hid (Calls Tryd.prog 48 #[.slice (some ⟨b, o, none⟩) l.length cap, .int .i64 (a : Int), .int .i64 1] w (getT (c : Int) true w)) := Lib.hid (by
    have h1 := get_yes l b o cap a 1 w hb ho hl (by decide) (by omega)
    rw [hd] at h1
    simpa [unB] using h1)
  have hLH := Lib.hid hlen
  by_cases hcn : (c : Int) = n
  · subst hcn
    have e0 : ((c : Int) != (c : Int)) = false := by simp
    by_cases hp : 2 * c ≤ r.length
    · have HX := Lib.hid (show rtT l a (c : Int) = some (unV r c, a + 1 + 2 * c) by simp [rtT, hd, tvT, hp, unV_len])
      have e1 : decide ((l.length : Int) - (a : Int) - 1 < 2 * (c : Int)) = false := by simp; omega
      have HG : Hid (∀ W, Below w.heap.size w W → ∀ k, k < c → Calls Tryd.prog 48 #[.slice (some ⟨b, o, none⟩) l.length cap, .int .i64 ((a : Int) + 1 + 2 * (k : Int)), .int .i64 2] W (getT (unB 0 ((r.drop (2 * k)).take 2)) true W)) := Lib.hid (fun W hW k hk => by
        have hb' : Byts W b o l := hb.below hW
        have h1 := get_yes l b o cap (a + 1 + 2 * k) 2 W hb' ho hl (by decide) (by omega)
        rw [← List.drop_drop, hdr] at h1
        have e : ((a + 1 + 2 * k : Nat) : Int) = (a : Int) + 1 + 2 * (k : Int) := by omega
        rw [e] at h1
        exact h1)
      obtain ⟨i0, hi, hz0, hz1, hz2⟩ := info_parts intInfo
      have HI := Lib.hid hi
      have HZ0 := Lib.hid hz0
      have HZ1 := Lib.hid hz1
      have HZ2 := Lib.hid hz2
      have hac : a ≤ 1000000 := by omega
      have hcc : a + 1 + 2 * c ≤ 1000000 := by omega
      clear hi hz0 hz1 hz2 hd hdr hb ho hlen
      go_enter Tryd.func65, Tryd.ntmps65
      go_wp2_with fail
      refine HC.out.mono ?_
      rintro e w1 ⟨rfl, b1⟩
      have HB1 := Lib.hid b1
      clear b1 HC
      go_wp2
      go_loopw [11, 12] (fun v0 vk wr => ∃ (k : Nat), k ≤ c ∧ vk = .int .i64 (k : Int) ∧ Hid (Row wr w.heap.size v0 (unV r k)) ∧ Hid (Below w.heap.size w wr)) (fun _ vk _ => c - (RowKit.intOf vk).toNat)
      case atStart => exact ⟨0, by omega, rfl, Lib.hid (Row.nil _ _), HB1⟩
      case round =>
        obtain ⟨k, hk, rfl, HR, HB⟩ := hrel
        by_cases hkn : k < c
        · have HT := Lib.hid (HG.out wr HB.out k hkn)
          have HS := Lib.hid (unV_succ k r)
          generalize unB 0 ((r.drop (2 * k)).take 2) = x at HT HS
          obtain ⟨ad, cp, rfl, _⟩ := HR.out.nl.form
          have hsz := HB.out.size
          have HUL := Lib.hid (unV_len k r)
          go_wp2_with fail
          refine HT.out.mono ?_
          rintro e w2 ⟨rfl, b2⟩
          have hr2 := Lib.hid (HR.out.below b2)
          have hsz2 := b2.size
          have HB2 := Lib.hid (bn HB.out b2)
          clear b2
          go_wp2_with (at_builtin; refine wpList_append_own _ rfl _ _ 22 rfl w.heap.size 3 i0 (.int .i64 0) 1 8 Tryd.underlying22 HI.out HZ0.out HZ1.out HZ2.out rfl (by decide) _ _ _ rfl (World.ownsRow.alloc hr2.out _) ⟨w2.heap.size, 0, none⟩ 1 1 [.int .i64 x] rfl rfl (cell_one_new _ _ _) (fun x hx => by simp at hx; subst hx; rfl) (by have := HUL.out; unfold maxLen; omega) (by have := HUL.out; omega) (by simp; omega) ?_; intro v' w3 hown3 hgrow3 hnil3)
          go_roundw
          case rel => exact ⟨k + 1, hkn, by go_num, Lib.hid (by
            rw [HS.out]
            unfold Row
            have e : ints (unV r k ++ [x]) = ints (unV r k) ++ [.int .i64 x] := by simp [ints]
            rw [e, List.length_append]
            exact hown3), Lib.hid (HB2.out.trans ((alloc_below_of (by omega) _).trans (below_of_grown hgrow3 (by simp; omega) (fun g hg => (World.ownsRow.lt hr2.out g hg).1))))⟩
          case measure => simp [RowKit.intOf]; omega
        · obtain rfl : k = c := by omega
          have HX2 := Lib.hid (rtakeT_yes HX.out HR.out HB.out)
          clear HX HR
          go_wp2
          go_ret3
          have h9 := HX2.out
          have e9 : ((a + 1 + 2 * k : Nat) : Int) = (a : Int) + 1 + 2 * (k : Int) := by omega
          rw [e9] at h9
          exact h9
    · have HX := Lib.hid (show rtT l a (c : Int) = none by simp [rtT, hd, tvT, hp])
      have e1 : decide ((l.length : Int) - (a : Int) - 1 < 2 * (c : Int)) = true := by simp; omega
      have hac : a ≤ 1000000 := by omega
      clear hd hdr hb ho hlen
      go_enter Tryd.func65, Tryd.ntmps65
      go_wp2_with fail
      refine HC.out.mono ?_
      rintro e w1 ⟨rfl, b1⟩
      go_wp2
      go_ret3
      exact rtakeT_no HX.out b1
  · have e0 : ((c : Int) != n) = true := by simpa using hcn
    have HX := Lib.hid (show rtT l a n = none by
      simp only [rtT, hd, tvT, Int.toNat_natCast]
      split
      · rename_i heq
        split at heq
        · simp only [Option.some.injEq, Prod.mk.injEq] at heq
          obtain ⟨rfl, _⟩ := heq
          rw [unV_len, if_neg hcn]
        · cases heq
      · rfl)
    clear hd hdr hb ho hlen
    go_enter Tryd.func65, Tryd.ntmps65
    go_wp2_with fail
    refine HC.out.mono ?_
    rintro e w1 ⟨rfl, b1⟩
    go_wp2
    go_ret3
    exact rtakeT_no HX.out b1

theorem rtake_c (l : List Int) (v : Value) (a : Nat) (n : Int) (w : World) (h : Bc w v l) (ho : OkB l) (ha : a ≤ l.length) (hl : l.length ≤ 1000000) :
    Calls Tryd.prog 65 #[v, .int .i64 (a : Int), .int .i64 n] w (rtakeT l a n w) := by
  obtain ⟨ad, cap, rfl, hcap⟩ := h.2
  by_cases hp : a < l.length
  · have hd := List.drop_eq_getElem_cons hp
    obtain ⟨h0, h1⟩ := ho.at a hp
    obtain ⟨c, hc⟩ := Int.eq_ofNat_of_zero_le h0
    rw [hc] at hd
    obtain ⟨ad', cap', e, h2⟩ := h.1.form
    simp only [Value.slice.injEq] at e
    obtain ⟨rfl, _, rfl⟩ := e
    obtain ⟨b, o, rfl, hs⟩ := h2 (by omega)
    exact rtake_some l b o cap a c n _ w hs ho hd hl
  · exact rtake_none l ad cap a n w (by omega) hl
end Go.Proofs.YtcnpckdchjjeoaaDoor
