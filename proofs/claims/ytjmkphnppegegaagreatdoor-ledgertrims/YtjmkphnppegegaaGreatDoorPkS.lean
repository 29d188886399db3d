/-
  A vector's bytes: putVector, takeVector, chapter 8's own vector and take, by contract; slices.Equal of numbers.
-/
import Derived.Test.YtjmkphnppegegaaGreatDoorPkA
import Derived.Test.YtjmkphnppegegaaGreatDoorPkR
namespace Go.Proofs.YtjmkphnppegegaaGreatDoor
open Go.RowKit Go.Lib
set_option maxRecDepth 100000

theorem Nl.cell {w : World} {ad : Option Addr} {n cap : Nat} {l : List Int} (h : Nl w (.slice ad n cap) l) (k : Nat) (hk : k < l.length) : ∃ g o, ad = some ⟨g, o, none⟩ ∧ w.cell? ⟨g, o + k, none⟩ = some (.int .i64 l[k]) := by
  obtain ⟨ad', cap', e, h2⟩ := h.form
  simp only [Value.slice.injEq] at e
  obtain ⟨rfl, rfl, rfl⟩ := e
  obtain ⟨b, o, e, hs⟩ := h2 (by omega)
  exact ⟨b, o, e, hs k hk⟩

/-- The bytes of numbers, two each; of a vector. -/
def vnum : List Int → List Int
  | [] => []
  | x :: t => numB x 2 ++ vnum t
def vecB (l : List Int) : List Int := numB (l.length : Int) 1 ++ vnum l
theorem vnum_len : ∀ l, (vnum l).length = 2 * l.length
  | [] => rfl
  | x :: t => by simp [vnum, numB_len, vnum_len t]; omega
theorem vecB_len (l : List Int) : (vecB l).length = 1 + 2 * l.length := by simp [vecB, numB_len, vnum_len]

set_option maxHeartbeats 4000000 in
theorem putvec_c (acc l : List Int) (v : Value) (ad : Option Addr) (cap : Nat) (w : World) (B : Nat) (h : BRow w B v acc) (hu : ∀ w', Below B w w' → Nl w' (.slice ad l.length cap) l) (hn : l.length ≤ 1000) (ha : acc.length ≤ 10000) (hB : B ≤ w.heap.size) :
    Calls Tryz.prog 101 #[v, .slice ad l.length cap] w (rowB B (acc ++ vecB l) w) := by
  have HU := Lib.hid hu
  have HC := Lib.hid (put_c acc v (l.length : Int) 1 w B h (by decide) (by omega) hB)
  clear hu h
  go_enter Tryz.func101, Tryz.ntmps101
  go_wp2_with fail
  refine HC.out.mono ?_
  rintro e w1 ⟨v1, rfl, h1, b1⟩
  have H1 := Lib.hid h1
  have HB1 := Lib.hid b1
  clear h1 b1 HC
  go_wp2
  go_loopw [0, 13] (fun v0 vk wr => ∃ (k : Nat) (m : List Int), k ≤ l.length ∧ vk = .int .i64 (k : Int) ∧ Hid (m.length ≤ 20000 + 2 * k) ∧ Hid (m ++ vnum (l.drop k) = acc ++ vecB l) ∧ Hid (BRow wr B v0 m) ∧ Hid (Below B w wr)) (fun _ vk _ => l.length - (RowKit.intOf vk).toNat)
  case atStart => exact ⟨0, _, by omega, rfl, Lib.hid (by simp [numB_len]; omega), Lib.hid (by simp [vecB]), H1, HB1⟩
  case round =>
    obtain ⟨k, m, hk, rfl, hm, hx, HR, HB⟩ := hrel
    have hsz := HB.out.size
    by_cases hp : k < l.length
    · obtain ⟨g, o, rfl, c0⟩ := (HU.out wr HB.out).cell k hp
      have hx' := hx.out
      rw [List.drop_eq_getElem_cons hp, vnum, ← List.append_assoc] at hx'
      have HX := Lib.hid hx'
      clear hx hx' HU
      generalize l[k] = x at c0 HX
      have HC := Lib.hid (put_c m _ x 2 wr B HR.out (by decide) (by have := hm.out; omega) (by omega))
      go_wp2_with fail
      refine HC.out.mono ?_
      rintro e w2 ⟨v2, rfl, h2, b2⟩
      go_wp2
      go_roundw
      case rel => exact ⟨k + 1, _, hp, by go_num, Lib.hid (by have := hm.out; simp [numB_len]; omega), HX, Lib.hid h2, Lib.hid (HB.out.trans b2)⟩
      case measure => simp [RowKit.intOf]; omega
    · have hx' := hx.out
      rw [List.drop_eq_nil_of_le (by omega), vnum, List.append_nil] at hx'
      have HX := Lib.hid hx'
      clear hx hx'
      go_wp2
      go_ret
      exact ⟨_, rfl, by rw [← HX.out]; exact HR.out, HB.out⟩
end Go.Proofs.YtjmkphnppegegaaGreatDoor
/-
  takeVector, and chapter 8's own take, by contract: the vector that bytes begin with.
-/
namespace Go.Proofs.YtjmkphnppegegaaGreatDoor
open Go.RowKit Go.Lib
set_option maxRecDepth 100000

/-- So many numbers, of two bytes each. -/
def unV (r : List Int) : Nat → List Int
  | 0 => []
  | n + 1 => unB 0 (r.take 2) :: unV (r.drop 2) n
theorem unV_len : ∀ (n : Nat) (r : List Int), (unV r n).length = n
  | 0, _ => rfl
  | n + 1, r => by simp [unV, unV_len n]
theorem unV_succ : ∀ (n : Nat) (r : List Int), unV r (n + 1) = unV r n ++ [unB 0 ((r.drop (2 * n)).take 2)]
  | 0, r => by simp [unV]
  | n + 1, r => by
    rw [unV, unV_succ n (r.drop 2), List.drop_drop, show 2 + 2 * n = 2 * (n + 1) from by omega]
    rfl
/-- The vector in front, and what stands behind it. -/
def tvT : List Int → Option (List Int × List Int)
  | [] => none
  | c :: r => if 2 * c.toNat ≤ r.length then some (unV r c.toNat, r.drop (2 * c.toNat)) else none
def tvV : Option (List Int × List Int) → List Int
  | none => []
  | some (x, _) => x
def tvR : Option (List Int × List Int) → List Int
  | none => []
  | some (_, r) => r
def tvecT (l : List Int) (w : World) (e : Ending) (w' : World) : Prop :=
  ∃ V A N C, e = .returned (.tuple #[V, .slice A N C, .bool (tvT l).isSome]) ∧ Row w' w.heap.size V (tvV (tvT l)) ∧ Bc w' (.slice A N C) (tvR (tvT l)) ∧ Below w.heap.size w w'
theorem tvecT_no {l : List Int} {w w' : World} (h : tvT l = none) (hb : Below w.heap.size w w') : tvecT l w (.returned (.tuple #[.slice none 0 0, .slice none 0 0, .bool false])) w' := by
  unfold tvecT
  rw [h]
  exact ⟨_, _, _, _, rfl, Row.nil _ _, Bc.nil _, hb⟩
theorem tvecT_yes {l x r : List Int} {w w' : World} {V : Value} {A : Option Addr} {N C : Nat} (h : tvT l = some (x, r)) (hV : Row w' w.heap.size V x) (hR : Bc w' (.slice A N C) r) (hb : Below w.heap.size w w') : tvecT l w (.returned (.tuple #[V, .slice A N C, .bool true])) w' := by
  unfold tvecT
  rw [h]
  exact ⟨_, _, _, _, rfl, hV, hR, hb⟩

/-- Bytes do not lie in a row of numbers. -/
theorem row_apart {w : World} {B g n : Nat} {m : List Int} (hR : Row w B (.slice (some ⟨g, 0, none⟩) n n) m) (hm : m.length = n) {b o : Nat} {l : List Int} (hl : Byts w b o l) (h0 : 0 < l.length) : b ≠ g := by
  rintro rfl
  have c := hl 0 h0
  rw [Nat.add_zero] at c
  subst hm
  by_cases ho : o < m.length
  · have := (hR.at o ho).symm.trans c
    cases this
  · rcases hR.2 with ⟨h1, _⟩ | ⟨g', cap, cur, h1, _, hh, _, _, hs, _⟩
    · cases h1
    · simp only [Value.slice.injEq, Option.some.injEq, Addr.mk.injEq] at h1
      obtain ⟨⟨rfl, _, _⟩, _, rfl⟩ := h1
      rw [cell_of_row w b o _ _ _ hh, Array.getElem?_eq_none (by omega)] at c
      cases c
theorem Bc.stored {w : World} {B g n : Nat} {m : List Int} {v : Value} {l : List Int} (h : Bc w v l) (hR : Row w B (.slice (some ⟨g, 0, none⟩) n n) m) (hm : m.length = n) (k : Nat) (u : Value) : Bc (w.setCell ⟨g, k, none⟩ u) v l := by
  refine ⟨?_, h.2⟩
  rcases h.1 with h1 | ⟨ad, cap, h1, h2⟩
  · exact .inl h1
  · refine .inr ⟨ad, cap, h1, fun h0 => ?_⟩
    obtain ⟨b, o, e, hs⟩ := h2 h0
    have hne := row_apart hR hm hs h0
    exact ⟨b, o, e, fun j hj => (World.cell?_of_block (Below.heap_setCell w ⟨g, k, none⟩ u b hne)).trans (hs j hj)⟩

theorem take_first (n : Nat) (r : List Int) (ad : Option Addr) (cap : Nat) (w : World) (h : Bc w (.slice ad (r.length + 1) cap) ((n : Int) :: r)) (ho : OkB ((n : Int) :: r)) (hl : r.length + 1 ≤ 1000000) :
    Calls Tryz.prog 140 #[.slice ad (r.length + 1 : Nat) cap, .int .i64 1] w fun e w' => ∃ A C, e = .returned (.tuple #[.int .i64 (n : Int), .slice A r.length C]) ∧ Bc w' (.slice A r.length C) r ∧ Below w.heap.size w w' := by
  refine (take_c ((n : Int) :: r) _ 1 w h ho (by simp) (by decide) (by decide) (by simpa using hl)).mono ?_
  rintro e w' ⟨A, C, rfl, h1, h2⟩
  exact ⟨A, C, by simp [unB], by simpa using h1, h2⟩
theorem take_two (r : List Int) (k N : Nat) (A : Option Addr) (C : Nat) (w : World) (h : Bc w (.slice A N C) (r.drop (2 * k))) (ho : OkB r) (_ : N + 2 * k = r.length) (h2 : 2 * k + 2 ≤ r.length) (hl : r.length ≤ 1000000) :
    Calls Tryz.prog 140 #[.slice A N C, .int .i64 2] w fun e w' => ∃ A' N' C', e = .returned (.tuple #[.int .i64 (unB 0 ((r.drop (2 * k)).take 2)), .slice A' N' C']) ∧ Hid (N' + 2 * (k + 1) = r.length) ∧ Hid (Bc w' (.slice A' N' C') (r.drop (2 * (k + 1)))) ∧ Hid (Below w.heap.size w w') := by
  refine (take_c (r.drop (2 * k)) _ 2 w h (ho.drop _) (by rw [List.length_drop]; omega) (by decide) (by decide) (by rw [List.length_drop]; omega)).mono ?_
  rintro e w' ⟨A', C', rfl, h3, h4⟩
  rw [List.drop_drop, show 2 * k + 2 = 2 * (k + 1) from by omega] at h3
  exact ⟨A', _, C', rfl, Lib.hid (by rw [List.length_drop]; omega), Lib.hid h3, Lib.hid h4⟩

set_option maxHeartbeats 4000000 in
theorem takevec_c (l : List Int) (v : Value) (w : World) (h : Bc w v l) (ho : OkB l) (hl : l.length ≤ 1000000) :
    Calls Tryz.prog 114 #[v] w (tvecT l w) := by
  obtain ⟨ad, cap, rfl, hcap⟩ := h.2
  cases l with
  | nil =>
    have HX := Lib.hid (show tvT [] = none from rfl)
    clear h
    go_enter Tryz.func114, Tryz.ntmps114
    go_wp2
    go_ret3
    exact tvecT_no HX.out (Below.refl _ _)
  | cons c r =>
    obtain ⟨hc0, hc1⟩ := ho c (List.mem_cons_self ..)
    obtain ⟨n, rfl⟩ := Int.eq_ofNat_of_zero_le hc0
    have HC := Lib.hid (take_first n r ad cap w h ho (by simpa using hl))
    have hor : OkB r := fun x hx => ho x (List.mem_cons_of_mem _ hx)
    have hrl : r.length ≤ 1000000 := by simp at hl; omega
    have HOR := Lib.hid hor
    have e1 : decide (((r.length + 1 : Nat) : Int) < 1) = false := by simp; omega
    clear h ho hcap hl hc0 hor
    by_cases hp : 2 * n ≤ r.length
    · have HX := Lib.hid (show tvT ((n : Int) :: r) = some (unV r n, r.drop (2 * n)) by simp [tvT, hp])
      have e2 : decide ((r.length : Int) < (n : Int) * 2) = false := by simp; omega
      have hmk := run_make_row' (P := Tryz.prog) 23 3 (.int .i64 0) 8 Tryz.underlying23 intInfo rfl .i64 .i64 n (by omega) (by omega)
      simp only [List.length_cons]
      go_enter Tryz.func114, Tryz.ntmps114
      go_wp2_with fail
      refine HC.out.mono ?_
      rintro e w1 ⟨A1, C1, rfl, h1, b1⟩
      have H1 := Lib.hid h1
      have HB1 := Lib.hid b1
      clear h1 b1 HC
      go_wp2
      clear hmk
      have hz1 := HB1.out.size
      go_loopw [0, 25] (fun v0 vk wr => ∃ (k N C : Nat) (A : Option Addr) (m : List Int), k ≤ n ∧ vk = .int .i64 (k : Int) ∧ v0 = .slice A N C ∧ Hid (N + 2 * k = r.length) ∧ Hid (Bc wr (.slice A N C) (r.drop (2 * k))) ∧ Hid (m.length = n) ∧ Hid (m.take k = unV r k) ∧ Hid (Row wr w1.heap.size (.slice (some ⟨w1.heap.size, 0, none⟩) n n) m) ∧ Hid (Below w.heap.size w wr)) (fun _ vk _ => n - (RowKit.intOf vk).toNat)
      case atStart => exact ⟨0, _, _, _, List.replicate n 0, by omega, rfl, rfl, Lib.hid rfl, Lib.hid (H1.out.below (alloc_below _ _)), Lib.hid (by simp), Lib.hid rfl, Lib.hid (row_made w1 n (by omega)), Lib.hid (bn HB1.out (alloc_below _ _))⟩
      case round =>
        obtain ⟨k, N, C, A, m, hk, rfl, rfl, HN, HBc, HM, HK, HR, HB⟩ := hrel
        by_cases hkn : k < n
        · have HT := Lib.hid (take_two r k N A C wr HBc.out HOR.out HN.out (by omega) hrl)
          generalize hx : unB 0 ((r.drop (2 * k)).take 2) = x at HT
          have HXk := Lib.hid hx
          clear hx
          go_wp2_with fail
          refine HT.out.mono ?_
          rintro e w2 ⟨A', N', C', rfl, HN', HBc', HB'⟩
          have hr2 := HR.out.below HB'.out
          have hmk' : k < m.length := by rw [HM.out]; exact hkn
          have c0 := hr2.at2 HM.out k m[k] (List.getElem?_eq_getElem hmk')
          have f0 := hr2.soft2 HM.out k
          have hlt : w1.heap.size < w2.heap.size := World.block_lt_of_cell? w2 _ c0
          have HR2 := Lib.hid hr2
          generalize m[k] = y at c0
          clear hr2
          go_wp2
          go_roundw
          case rel => exact ⟨k + 1, N', C', A', m.set k x, hkn, by go_num, rfl, HN', Lib.hid (HBc'.out.stored HR2.out HM.out k _), Lib.hid (by rw [List.length_set]; exact HM.out), Lib.hid (by
            rw [unV_succ, ← HK.out, HXk.out, List.take_succ_eq_append_getElem (by rw [List.length_set]; exact hmk'), List.getElem_set_self, List.take_set_of_le (Nat.le_refl _)]), Lib.hid (HR2.out.set2 HM.out k x), Lib.hid ((bn HB.out HB'.out).setCell (by exact hz1) _)⟩
          case measure => simp [RowKit.intOf]; omega
        · obtain rfl : k = n := by omega
          have HV : Hid (Row wr w.heap.size (.slice (some ⟨w1.heap.size, 0, none⟩) k k) (unV r k)) := Lib.hid (by
            rw [← HK.out, List.take_of_length_le (by have := HM.out; omega)]
            exact HR.out.mono hz1)
          clear HK HR HM
          go_wp2
          go_ret3
          exact tvecT_yes HX.out HV.out HBc.out HB.out
    · have HX := Lib.hid (show tvT ((n : Int) :: r) = none by simp [tvT]; omega)
      have e2 : decide ((r.length : Int) < (n : Int) * 2) = true := by simp; omega
      simp only [List.length_cons]
      go_enter Tryz.func114, Tryz.ntmps114
      go_wp2_with fail
      refine HC.out.mono ?_
      rintro e w1 ⟨A1, C1, rfl, h1, b1⟩
      go_wp2
      go_ret3
      exact tvecT_no HX.out b1
end Go.Proofs.YtjmkphnppegegaaGreatDoor
/-
  Chapter 8's own take, by contract.
-/
namespace Go.Proofs.YtjmkphnppegegaaGreatDoor
open Go.RowKit Go.Lib
set_option maxRecDepth 100000

/-- The vector of n numbers from place a on, and the place behind it. -/
def rtT (l : List Int) (a : Nat) (n : Int) : Option (List Int × Nat) :=
  match tvT (l.drop a) with
  | some (x, _) => if (x.length : Int) = n then some (x, a + 1 + 2 * x.length) else none
  | none => none
def rtV : Option (List Int × Nat) → List Int
  | none => []
  | some (x, _) => x
def rtE : Option (List Int × Nat) → Nat
  | none => 0
  | some (_, k) => k
def rtakeT (l : List Int) (a : Nat) (n : Int) (w : World) (e : Ending) (w' : World) : Prop :=
  ∃ V, e = .returned (.tuple #[V, .int .i64 (rtE (rtT l a n) : Nat), .bool (rtT l a n).isSome]) ∧ Row w' w.heap.size V (rtV (rtT l a n)) ∧ Below w.heap.size w w'
theorem rtakeT_no {l : List Int} {a : Nat} {n : Int} {w w' : World} (h : rtT l a n = none) (hb : Below w.heap.size w w') : rtakeT l a n w (.returned (.tuple #[.slice none 0 0, .int .i64 0, .bool false])) w' := by
  unfold rtakeT
  rw [h]
  exact ⟨_, rfl, Row.nil _ _, hb⟩
theorem rtakeT_yes {l x : List Int} {a k : Nat} {n : Int} {w w' : World} {V : Value} (h : rtT l a n = some (x, k)) (hV : Row w' w.heap.size V x) (hb : Below w.heap.size w w') : rtakeT l a n w (.returned (.tuple #[V, .int .i64 (k : Int), .bool true])) w' := by
  unfold rtakeT
  rw [h]
  exact ⟨_, rfl, hV, hb⟩
end Go.Proofs.YtjmkphnppegegaaGreatDoor
/-
  Entries in memory; May, Same, noRecord, of the program and of chapter 8's own answer, by contract.
-/
namespace Go.Proofs.YtjmkphnppegegaaGreatDoor
open Go.RowKit Go.Lib
set_option maxRecDepth 100000

/-- An entry: kind, V, W, record. -/
structure En where
  k : Int
  v : List Int
  w : List Int
  r : Rc
def zeroR : Rc := ⟨0, 0, 0, 0, ⟨#[]⟩⟩
def blankR (r : Rc) : Bool := sameR r zeroR
def nilB (l : List Int) : Bool := decide ((l.length : Int) = 0)
def mayE (e : En) (n : Int) : Bool :=
  if e.k = 1 then mayB e.v n && (mayB e.w n && (leB e.w e.v && blankR e.r))
  else if e.k = 2 then manyB n && (mayR e.r && (decide (e.r.o < n) && (nilB e.v && nilB e.w)))
  else if e.k = 3 then mayB e.w n && (nilB e.v && blankR e.r)
  else false
theorem Bx.eight {T : TypeId} {w : World} {g : Nat} {a b c d e f h i : Value} (x : Bx T w g #[a, b, c, d, e, f, h, i]) :
    w.cell? ⟨g, 0, none⟩ = some a ∧ w.cell? ⟨g, 1, none⟩ = some b ∧ w.cell? ⟨g, 2, none⟩ = some c ∧ w.cell? ⟨g, 3, none⟩ = some d ∧ w.cell? ⟨g, 4, none⟩ = some e ∧ w.cell? ⟨g, 5, none⟩ = some f ∧ w.cell? ⟨g, 6, none⟩ = some h ∧ w.cell? ⟨g, 7, none⟩ = some i :=
  ⟨x.cell 0, x.cell 1, x.cell 2, x.cell 3, x.cell 4, x.cell 5, x.cell 6, x.cell 7⟩
/-- The entry e, with the lists a and b, stands boxed in block g. -/
def BxE (w : World) (g : Nat) (e : En) (a b : Value) : Prop := Bx 43 w g #[.int .i64 e.k, a, b, .int .i64 e.r.o, .int .i64 e.r.s, .int .i64 e.r.w, .int .i64 e.r.c, .string e.r.t]

set_option maxHeartbeats 1000000 in
theorem norec_c (e : En) (a b : Value) (w : World) : Calls Tryz.prog 57 #[.agg #[.int .i64 e.k, a, b, .int .i64 e.r.o, .int .i64 e.r.s, .int .i64 e.r.w, .int .i64 e.r.c, .string e.r.t]] w fun x w' => x = .returned (.bool (blankR e.r)) ∧ Below w.heap.size w w' := by
  have q : ∀ W, (Op.equalIn 10000 41 (.agg #[.int .i64 e.r.o, .int .i64 e.r.s, .int .i64 e.r.w, .int .i64 e.r.c, .string e.r.t]) (.agg #[.int .i64 0, .int .i64 0, .int .i64 0, .int .i64 0, .string ⟨#[]⟩])).run Tryz.prog W = .ok (blankR e.r) W := fun W => eq_rec e.r zeroR W
  generalize blankR e.r = S at q ⊢
  go_enter Tryz.func57, Tryz.ntmps57
  go_wp2
  go_ret
  exact ⟨rfl, alloc_below _ _⟩
set_option maxHeartbeats 1000000 in
theorem blank_c (r : Rc) (w : World) : Calls Tryz.prog 33 #[.agg #[.int .i64 r.o, .int .i64 r.s, .int .i64 r.w, .int .i64 r.c, .string r.t]] w fun x w' => x = .returned (.bool (blankR r)) ∧ Below w.heap.size w w' := by
  have q : ∀ W, (Op.equalIn 10000 41 (.agg #[.int .i64 r.o, .int .i64 r.s, .int .i64 r.w, .int .i64 r.c, .string r.t]) (.agg #[.int .i64 0, .int .i64 0, .int .i64 0, .int .i64 0, .string ⟨#[]⟩])).run Tryz.prog W = .ok (blankR r) W := fun W => eq_rec r zeroR W
  generalize blankR r = S at q ⊢
  go_enter Tryz.func33, Tryz.ntmps33
  go_wp2
  go_ret
  exact ⟨rfl, alloc_below _ _⟩

set_option maxHeartbeats 4000000 in
theorem maye_c (e : En) (a b : Value) (n : Int) (w : World) (ha : Nl w a e.v) (hb : Nl w b e.w) (hv : e.v.length ≤ 1000000) (hw : e.w.length ≤ 1000000) (hs : e.r.t.size ≤ 9223372036854775807) (hT : Tabs w) :
    Calls Tryz.prog 35 #[.agg #[.int .i64 e.k, a, b, .int .i64 e.r.o, .int .i64 e.r.s, .int .i64 e.r.w, .int .i64 e.r.c, .string e.r.t], .int .i64 n] w fun x w' => x = .returned (.bool (mayE e n)) ∧ Below w.heap.size w w' := by
  obtain ⟨ad1, cap1, rfl, _⟩ := ha.form
  obtain ⟨ad2, cap2, rfl, _⟩ := hb.form
  have C1 : Hid (∀ W, Below w.heap.size w W → Calls Tryz.prog 55 #[.slice ad1 e.v.length cap1, .int .i64 n] W fun x w' => x = .returned (.bool (mayB e.v n)) ∧ Below W.heap.size W w') := Lib.hid (fun W h => may_c e.v n _ W (ha.below h) hv)
  have C2 : Hid (∀ W, Below w.heap.size w W → Calls Tryz.prog 55 #[.slice ad2 e.w.length cap2, .int .i64 n] W fun x w' => x = .returned (.bool (mayB e.w n)) ∧ Below W.heap.size W w') := Lib.hid (fun W h => may_c e.w n _ W (hb.below h) hw)
  have C3 : Hid (∀ W, Below w.heap.size w W → Calls Tryz.prog 56 #[.slice ad2 e.w.length cap2, .slice ad1 e.v.length cap1] W fun x w' => x = .returned (.bool (leB e.w e.v)) ∧ Below W.heap.size W w') := Lib.hid (fun W h => below_c e.w e.v _ _ W (hb.below h) (ha.below h) hw)
  have C4 : Hid (∀ W, Calls Tryz.prog 57 #[.agg #[.int .i64 e.k, .slice ad1 e.v.length cap1, .slice ad2 e.w.length cap2, .int .i64 e.r.o, .int .i64 e.r.s, .int .i64 e.r.w, .int .i64 e.r.c, .string e.r.t]] W fun x w' => x = .returned (.bool (blankR e.r)) ∧ Below W.heap.size W w') := Lib.hid (fun W => norec_c e _ _ W)
  have C5 : Hid (∀ W, Below w.heap.size w W → Calls Tryz.prog 58 #[.agg #[.int .i64 e.r.o, .int .i64 e.r.s, .int .i64 e.r.w, .int .i64 e.r.c, .string e.r.t]] W fun x w' => x = .returned (.bool (mayR e.r)) ∧ Below W.heap.size W w') := Lib.hid (fun W h => rcmay_c e.r W hs (hT.below h))
  have HB := Lib.hid (Bx.new 43 w #[.int .i64 e.k, .slice ad1 e.v.length cap1, .slice ad2 e.w.length cap2, .int .i64 e.r.o, .int .i64 e.r.s, .int .i64 e.r.w, .int .i64 e.r.c, .string e.r.t])
  have hA := Lib.hid (alloc_below w (.cells #[.int .i64 e.k, .slice ad1 e.v.length cap1, .slice ad2 e.w.length cap2, .int .i64 e.r.o, .int .i64 e.r.s, .int .i64 e.r.w, .int .i64 e.r.c, .string e.r.t] 43))
  clear ha hb hv hw hT hs
  unfold mayE
  by_cases k1 : e.k = 1
  · rw [if_pos k1]
    have f1 : (e.k == 1) = true := by simpa using k1
    generalize mayB e.v n = M1 at C1 ⊢
    generalize mayB e.w n = M2 at C2 ⊢
    generalize leB e.w e.v = M3 at C3 ⊢
    generalize blankR e.r = M4 at C4 ⊢
    clear k1 C5
    go_enter Tryz.func35, Tryz.ntmps35
    go_wp2_with fail
    refine (C1.out _ hA.out).mono ?_
    rintro e w1 ⟨rfl, b1⟩
    have h1 := bn hA.out b1
    have hB1 := HB.out.below b1
    clear C1
    cases M1
    · go_wp2
      go_ret
      exact ⟨rfl, h1⟩
    · obtain ⟨c0, c1, c2, c3, c4, c5, c6, c7⟩ := hB1.eight
      have hl := hB1.lt
      go_wp2_with fail
      refine (C2.out _ h1).mono ?_
      rintro e w2 ⟨rfl, b2⟩
      have h2 := bn h1 b2
      have hB2 := hB1.below b2
      clear C2 c0 c1 c2 c3 c4 c5 c6 c7 hl hB1 b1 b2
      cases M2
      · go_wp2
        go_ret
        exact ⟨rfl, h2⟩
      · obtain ⟨c0, c1, c2, c3, c4, c5, c6, c7⟩ := hB2.eight
        have hl := hB2.lt
        go_wp2_with fail
        refine (C3.out _ h2).mono ?_
        rintro e w3 ⟨rfl, b3⟩
        have h3 := bn h2 b3
        have hB3 := hB2.below b3
        clear C3 c0 c1 c2 c3 c4 c5 c6 c7 hl hB2 b3
        cases M3
        · go_wp2
          go_ret
          exact ⟨rfl, h3⟩
        · obtain ⟨c0, c1, c2, c3, c4, c5, c6, c7⟩ := hB3.eight
          have hl := hB3.lt
          go_wp2_with fail
          refine (C4.out _).mono ?_
          rintro e w4 ⟨rfl, b4⟩
          go_wp2
          go_ret
          exact ⟨by simp, bn h3 b4⟩
  · rw [if_neg k1]
    have f1 : (e.k == 1) = false := by simpa using k1
    by_cases k2 : e.k = 2
    · rw [if_pos k2]
      have f2 : (e.k == 2) = true := by simpa using k2
      clear C1 C2 C3 C4 k1 k2
      by_cases hn : n ≤ 8
      · have e8 : decide (n ≤ 8) = true := by simpa using hn
        by_cases hm : mayR e.r = true
        · have ho : 0 ≤ e.r.o := by
            unfold mayR keyB at hm
            simp only [Bool.and_eq_true, decide_eq_true_eq] at hm
            exact hm.1.1
          rw [hm] at C5 ⊢
          by_cases hon : e.r.o < n
          · have eon : decide (e.r.o < n) = true := by simpa using hon
            have hmn : manyB n = true := by simp [manyB]; omega
            rw [hmn, eon]
            unfold nilB
            generalize hq1 : decide ((e.v.length : Int) = 0) = Q1
            generalize hq2 : decide ((e.w.length : Int) = 0) = Q2
            have q1 : ((e.v.length : Int) == 0) = Q1 := by rw [← hq1]; rfl
            have q2 : ((e.w.length : Int) == 0) = Q2 := by rw [← hq2]; rfl
            clear hq1 hq2 hm
            go_enter Tryz.func35, Tryz.ntmps35
            go_wp2_with fail
            refine (C5.out _ hA.out).mono ?_
            rintro e w1 ⟨rfl, b1⟩
            have h1 := bn hA.out b1
            have hB1 := HB.out.below b1
            obtain ⟨c0, c1, c2, c3, c4, c5, c6, c7⟩ := hB1.eight
            have hl := hB1.lt
            cases Q1
            · go_wp2
              go_ret
              exact ⟨rfl, h1⟩
            · go_wp2
              go_ret
              exact ⟨by simp, h1⟩
          · have eon : decide (e.r.o < n) = false := by simpa using hon
            rw [eon]
            clear hm
            go_enter Tryz.func35, Tryz.ntmps35
            go_wp2_with fail
            refine (C5.out _ hA.out).mono ?_
            rintro e w1 ⟨rfl, b1⟩
            have h1 := bn hA.out b1
            have hB1 := HB.out.below b1
            obtain ⟨c0, c1, c2, c3, c4, c5, c6, c7⟩ := hB1.eight
            have hl := hB1.lt
            go_wp2
            go_ret
            exact ⟨by simp, h1⟩
        · have hm' : mayR e.r = false := by simpa using hm
          rw [hm'] at C5 ⊢
          clear hm hm'
          go_enter Tryz.func35, Tryz.ntmps35
          go_wp2_with fail
          refine (C5.out _ hA.out).mono ?_
          rintro e w1 ⟨rfl, b1⟩
          go_wp2
          go_ret
          exact ⟨by simp, bn hA.out b1⟩
      · have e8 : decide (n ≤ 8) = false := by simpa using hn
        have hmn : manyB n = false := by simp [manyB]; omega
        rw [hmn]
        go_enter Tryz.func35, Tryz.ntmps35
        go_wp2
        go_ret
        exact ⟨by simp, hA.out⟩
    · rw [if_neg k2]
      have f2 : (e.k == 2) = false := by simpa using k2
      by_cases k3 : e.k = 3
      · rw [if_pos k3]
        have f3 : (e.k == 3) = true := by simpa using k3
        unfold nilB
        generalize mayB e.w n = M2 at C2 ⊢
        generalize blankR e.r = M4 at C4 ⊢
        generalize hq1 : decide ((e.v.length : Int) = 0) = Q1
        have q1 : ((e.v.length : Int) == 0) = Q1 := by rw [← hq1]; rfl
        clear hq1 k1 k2 k3 C1 C3 C5
        go_enter Tryz.func35, Tryz.ntmps35
        go_wp2_with fail
        refine (C2.out _ hA.out).mono ?_
        rintro e w1 ⟨rfl, b1⟩
        have h1 := bn hA.out b1
        have hB1 := HB.out.below b1
        clear C2
        cases M2
        · go_wp2
          go_ret
          exact ⟨rfl, h1⟩
        · obtain ⟨c0, c1, c2, c3, c4, c5, c6, c7⟩ := hB1.eight
          have hl := hB1.lt
          cases Q1
          · go_wp2
            go_ret
            exact ⟨rfl, h1⟩
          · go_wp2_with fail
            refine (C4.out _).mono ?_
            rintro e w4 ⟨rfl, b4⟩
            go_wp2
            go_ret
            exact ⟨by simp, bn h1 b4⟩
      · rw [if_neg k3]
        have f3 : (e.k == 3) = false := by simpa using k3
        go_enter Tryz.func35, Tryz.ntmps35
        go_wp2
        go_ret
        exact ⟨rfl, hA.out⟩
end Go.Proofs.YtjmkphnppegegaaGreatDoor
/-
  Chapter 8's own May; Same; mayForSome, any, by contract.
-/
namespace Go.Proofs.YtjmkphnppegegaaGreatDoor
open Go.RowKit Go.Lib
set_option maxRecDepth 100000

set_option maxHeartbeats 4000000 in
theorem refmaye_c (e : En) (a b : Value) (n : Int) (w : World) (ha : Nl w a e.v) (hb : Nl w b e.w) (hv : e.v.length ≤ 1000000) (hw : e.w.length ≤ 1000000) (hs : e.r.t.size ≤ 9223372036854775807) (hT : Tabs w) :
    Calls Tryz.prog 16 #[.agg #[.int .i64 e.k, a, b, .int .i64 e.r.o, .int .i64 e.r.s, .int .i64 e.r.w, .int .i64 e.r.c, .string e.r.t], .int .i64 n] w fun x w' => x = .returned (.bool (mayE e n)) ∧ Below w.heap.size w w' := by
  obtain ⟨ad1, cap1, rfl, _⟩ := ha.form
  obtain ⟨ad2, cap2, rfl, _⟩ := hb.form
  have C1 : Hid (∀ W, Below w.heap.size w W → Calls Tryz.prog 14 #[.slice ad1 e.v.length cap1, .int .i64 n] W fun x w' => x = .returned (.bool (mayB e.v n)) ∧ Below W.heap.size W w') := Lib.hid (fun W h => refmay_c e.v n _ W (ha.below h) hv)
  have C2 : Hid (∀ W, Below w.heap.size w W → Calls Tryz.prog 14 #[.slice ad2 e.w.length cap2, .int .i64 n] W fun x w' => x = .returned (.bool (mayB e.w n)) ∧ Below W.heap.size W w') := Lib.hid (fun W h => refmay_c e.w n _ W (hb.below h) hw)
  have C3 : Hid (∀ W, Below w.heap.size w W → Calls Tryz.prog 15 #[.slice ad2 e.w.length cap2, .slice ad1 e.v.length cap1] W fun x w' => x = .returned (.bool (leB e.w e.v)) ∧ Below W.heap.size W w') := Lib.hid (fun W h => refbelow_c e.w e.v _ _ W (hb.below h) (ha.below h) hw)
  have C4 : Hid (∀ W, Calls Tryz.prog 33 #[.agg #[.int .i64 e.r.o, .int .i64 e.r.s, .int .i64 e.r.w, .int .i64 e.r.c, .string e.r.t]] W fun x w' => x = .returned (.bool (blankR e.r)) ∧ Below W.heap.size W w') := Lib.hid (fun W => blank_c e.r W)
  have C5 : Hid (∀ W, Below w.heap.size w W → Calls Tryz.prog 34 #[.agg #[.int .i64 e.r.o, .int .i64 e.r.s, .int .i64 e.r.w, .int .i64 e.r.c, .string e.r.t]] W fun x w' => x = .returned (.bool (mayR e.r)) ∧ Below W.heap.size W w') := Lib.hid (fun W h => rcrefmay_c e.r W hs (hT.below h))
  have HB := Lib.hid (Bx.new 43 w #[.int .i64 e.k, .slice ad1 e.v.length cap1, .slice ad2 e.w.length cap2, .int .i64 e.r.o, .int .i64 e.r.s, .int .i64 e.r.w, .int .i64 e.r.c, .string e.r.t])
  have hA := Lib.hid (alloc_below w (.cells #[.int .i64 e.k, .slice ad1 e.v.length cap1, .slice ad2 e.w.length cap2, .int .i64 e.r.o, .int .i64 e.r.s, .int .i64 e.r.w, .int .i64 e.r.c, .string e.r.t] 43))
  clear ha hb hv hw hT hs
  unfold mayE
  by_cases k1 : e.k = 1
  · rw [if_pos k1]
    have f1 : (e.k == 1) = true := by simpa using k1
    generalize mayB e.v n = M1 at C1 ⊢
    generalize mayB e.w n = M2 at C2 ⊢
    generalize leB e.w e.v = M3 at C3 ⊢
    generalize blankR e.r = M4 at C4 ⊢
    clear k1 C5
    go_enter Tryz.func16, Tryz.ntmps16
    go_wp2_with fail
    refine (C1.out _ hA.out).mono ?_
    rintro e w1 ⟨rfl, b1⟩
    have h1 := bn hA.out b1
    have hB1 := HB.out.below b1
    clear C1
    cases M1
    · go_wp2
      go_ret
      exact ⟨rfl, h1⟩
    · obtain ⟨c0, c1, c2, c3, c4, c5, c6, c7⟩ := hB1.eight
      have hl := hB1.lt
      go_wp2_with fail
      refine (C2.out _ h1).mono ?_
      rintro e w2 ⟨rfl, b2⟩
      have h2 := bn h1 b2
      have hB2 := hB1.below b2
      clear C2 c0 c1 c2 c3 c4 c5 c6 c7 hl hB1 b1 b2
      cases M2
      · go_wp2
        go_ret
        exact ⟨rfl, h2⟩
      · obtain ⟨c0, c1, c2, c3, c4, c5, c6, c7⟩ := hB2.eight
        have hl := hB2.lt
        go_wp2_with fail
        refine (C3.out _ h2).mono ?_
        rintro e w3 ⟨rfl, b3⟩
        have h3 := bn h2 b3
        have hB3 := hB2.below b3
        clear C3 c0 c1 c2 c3 c4 c5 c6 c7 hl hB2 b3
        cases M3
        · go_wp2
          go_ret
          exact ⟨rfl, h3⟩
        · obtain ⟨c0, c1, c2, c3, c4, c5, c6, c7⟩ := hB3.eight
          have hl := hB3.lt
          go_wp2_with fail
          refine (C4.out _).mono ?_
          rintro e w4 ⟨rfl, b4⟩
          go_wp2
          go_ret
          exact ⟨by simp, bn h3 b4⟩
  · rw [if_neg k1]
    have f1 : (e.k == 1) = false := by simpa using k1
    by_cases k2 : e.k = 2
    · rw [if_pos k2]
      have f2 : (e.k == 2) = true := by simpa using k2
      clear C1 C2 C3 C4 k1 k2
      have C6 : Hid (∀ W, Calls Tryz.prog 13 #[.int .i64 n] W fun x w' => x = .returned (.bool (manyB n)) ∧ W = w') := Lib.hid (fun W => refmany_c n W)
      generalize manyB n = M6 at C6 ⊢
      generalize mayR e.r = M5 at C5 ⊢
      generalize hon : decide (e.r.o < n) = O
      unfold nilB
      generalize hq1 : decide ((e.v.length : Int) = 0) = Q1
      generalize hq2 : decide ((e.w.length : Int) = 0) = Q2
      have q1 : ((e.v.length : Int) == 0) = Q1 := by rw [← hq1]; rfl
      have q2 : ((e.w.length : Int) == 0) = Q2 := by rw [← hq2]; rfl
      clear hq1 hq2
      go_enter Tryz.func16, Tryz.ntmps16
      go_wp2_with fail
      refine (C6.out _).mono ?_
      rintro x w0 ⟨rfl, rfl⟩
      cases M6
      · go_wp2
        go_ret
        exact ⟨rfl, hA.out⟩
      · obtain ⟨c0, c1, c2, c3, c4, c5, c6, c7⟩ := HB.out.eight
        have hl := HB.out.lt
        go_wp2_with fail
        refine (C5.out _ hA.out).mono ?_
        rintro e w1 ⟨rfl, b1⟩
        have h1 := bn hA.out b1
        have hB1 := HB.out.below b1
        clear c0 c1 c2 c3 c4 c5 c6 c7 hl
        obtain ⟨c0, c1, c2, c3, c4, c5, c6, c7⟩ := hB1.eight
        have hl := hB1.lt
        cases M5
        · go_wp2
          go_ret
          exact ⟨rfl, h1⟩
        · cases O
          · go_wp2
            go_ret
            exact ⟨rfl, h1⟩
          · cases Q1
            · go_wp2
              go_ret
              exact ⟨rfl, h1⟩
            · go_wp2
              go_ret
              exact ⟨by simp, h1⟩
    · rw [if_neg k2]
      have f2 : (e.k == 2) = false := by simpa using k2
      by_cases k3 : e.k = 3
      · rw [if_pos k3]
        have f3 : (e.k == 3) = true := by simpa using k3
        unfold nilB
        generalize mayB e.w n = M2 at C2 ⊢
        generalize blankR e.r = M4 at C4 ⊢
        generalize hq1 : decide ((e.v.length : Int) = 0) = Q1
        have q1 : ((e.v.length : Int) == 0) = Q1 := by rw [← hq1]; rfl
        clear hq1 k1 k2 k3 C1 C3 C5
        go_enter Tryz.func16, Tryz.ntmps16
        go_wp2_with fail
        refine (C2.out _ hA.out).mono ?_
        rintro e w1 ⟨rfl, b1⟩
        have h1 := bn hA.out b1
        have hB1 := HB.out.below b1
        clear C2
        cases M2
        · go_wp2
          go_ret
          exact ⟨rfl, h1⟩
        · obtain ⟨c0, c1, c2, c3, c4, c5, c6, c7⟩ := hB1.eight
          have hl := hB1.lt
          cases Q1
          · go_wp2
            go_ret
            exact ⟨rfl, h1⟩
          · go_wp2_with fail
            refine (C4.out _).mono ?_
            rintro e w4 ⟨rfl, b4⟩
            go_wp2
            go_ret
            exact ⟨by simp, bn h1 b4⟩
      · rw [if_neg k3]
        have f3 : (e.k == 3) = false := by simpa using k3
        go_enter Tryz.func16, Tryz.ntmps16
        go_wp2
        go_ret
        exact ⟨rfl, hA.out⟩

def sameE (d e : En) : Bool := (d.k == e.k) && (sameB d.v e.v && (sameB d.w e.w && sameR d.r e.r))

/-- May it be for some number that is no less than 9 - j? -/
def fromE (e : En) : Nat → Bool
  | 0 => false
  | j + 1 => mayE e (9 - ((j + 1 : Nat) : Int)) || fromE e j
def someE (e : En) : Bool := fromE e 8

set_option maxHeartbeats 4000000 in
theorem some_c (e : En) (a b : Value) (w : World) (ha : Nl w a e.v) (hb : Nl w b e.w) (hv : e.v.length ≤ 1000000) (hw : e.w.length ≤ 1000000) (hs : e.r.t.size ≤ 9223372036854775807) (hT : Tabs w) :
    Calls Tryz.prog 76 #[.agg #[.int .i64 e.k, a, b, .int .i64 e.r.o, .int .i64 e.r.s, .int .i64 e.r.w, .int .i64 e.r.c, .string e.r.t]] w fun x w' => x = .returned (.bool (someE e)) ∧ Below w.heap.size w w' := by
  have C1 : Hid (∀ n W, Below w.heap.size w W → Calls Tryz.prog 35 #[.agg #[.int .i64 e.k, a, b, .int .i64 e.r.o, .int .i64 e.r.s, .int .i64 e.r.w, .int .i64 e.r.c, .string e.r.t], .int .i64 n] W fun x w' => x = .returned (.bool (mayE e n)) ∧ Below W.heap.size W w') := Lib.hid (fun n W h => maye_c e a b n W (ha.below h) (hb.below h) hv hw hs (hT.below h))
  have HB := Lib.hid (Bx.new 43 w #[.int .i64 e.k, a, b, .int .i64 e.r.o, .int .i64 e.r.s, .int .i64 e.r.w, .int .i64 e.r.c, .string e.r.t])
  have hA := Lib.hid (alloc_below w (.cells #[.int .i64 e.k, a, b, .int .i64 e.r.o, .int .i64 e.r.s, .int .i64 e.r.w, .int .i64 e.r.c, .string e.r.t] 43))
  obtain ⟨ad1, cap1, rfl, _⟩ := ha.form
  obtain ⟨ad2, cap2, rfl, _⟩ := hb.form
  clear ha hb hv hw hs hT
  go_enter Tryz.func76, Tryz.ntmps76
  go_wp2
  go_loopw [3] (fun vk wr => ∃ (j : Nat) (n : Int), j ≤ 8 ∧ vk = .int .i64 n ∧ n = 9 - (j : Int) ∧ Hid (fromE e j = someE e) ∧ Hid (Bx 43 wr w.heap.size #[.int .i64 e.k, .slice ad1 e.v.length cap1, .slice ad2 e.w.length cap2, .int .i64 e.r.o, .int .i64 e.r.s, .int .i64 e.r.w, .int .i64 e.r.c, .string e.r.t]) ∧ Hid (Below w.heap.size w wr)) (fun vk _ => (9 - RowKit.intOf vk).toNat)
  case atStart => exact ⟨8, 1, by omega, rfl, by omega, Lib.hid rfl, HB, hA⟩
  case round =>
    obtain ⟨j, n, hj, rfl, hn, HF, HX, HW⟩ := hrel
    cases j with
    | zero =>
      have e0 : decide (n ≤ 8) = false := by simp; omega
      have HF' := Lib.hid (show false = someE e from HF.out)
      clear HF hn
      go_wp2
      go_ret
      exact ⟨by rw [← HF'.out]; rfl, HW.out⟩
    | succ j =>
      have e0 : decide (n ≤ 8) = true := by simp; omega
      have hn8 : n ≤ 8 := by omega
      have hn1 : 1 ≤ n := by omega
      have hf := HF.out
      rw [fromE, ← hn] at hf
      have HF' := Lib.hid hf
      have HN := Lib.hid hn
      have HC := Lib.hid (C1.out n wr HW.out)
      generalize mayE e n = M at HC HF'
      obtain ⟨c0, c1, c2, c3, c4, c5, c6, c7⟩ := HX.out.eight
      have hl := HX.out.lt
      clear HF hf hn
      go_wp2_with fail
      refine HC.out.mono ?_
      rintro x w1 ⟨rfl, b1⟩
      have h1 := Lib.hid (bn HW.out b1)
      have hx1 := Lib.hid (HX.out.below b1)
      clear b1
      cases M
      · go_wp2
        go_roundw
        case rel => exact ⟨j, n + 1, by omega, by go_num, by have := HN.out; omega, Lib.hid (by have := HF'.out; simpa using this), hx1, h1⟩
        case measure => simp [RowKit.intOf]; omega
      · go_wp2
        go_ret
        exact ⟨by rw [← HF'.out]; rfl, h1.out⟩
end Go.Proofs.YtjmkphnppegegaaGreatDoor
/-
  What the frame of an entry holds (body), Lay, and chapter 8's own Lay, by contract.
-/
namespace Go.Proofs.YtjmkphnppegegaaGreatDoor
open Go.RowKit Go.Lib
set_option maxRecDepth 100000

def bodyE (e : En) : List Int := if e.k = 1 then vecB e.v ++ vecB e.w else if e.k = 2 then layL e.r else vecB e.w
def layE (e : En) : List Int := layF e.k (bodyE e)
theorem fromE_may {e : En} : ∀ {j : Nat}, fromE e j = true → ∃ n, mayE e n = true
  | 0, h => by cases h
  | j + 1, h => by
    rw [fromE, Bool.or_eq_true] at h
    rcases h with h | h
    · exact ⟨_, h⟩
    · exact fromE_may h
theorem someE_may {e : En} (h : someE e = true) : ∃ n, mayE e n = true := fromE_may h
theorem manyB_le {n : Int} (h : manyB n = true) : 1 ≤ n ∧ n ≤ 8 := by simpa [manyB] using h
theorem mayB_len {l : List Int} {n : Int} (h : mayB l n = true) : l.length ≤ 8 ∧ (l.length : Int) = n := by
  unfold mayB at h
  simp only [Bool.and_eq_true, decide_eq_true_eq] at h
  have := manyB_le h.1
  omega
theorem nilB_eq {l : List Int} (h : nilB l = true) : l = [] := by
  unfold nilB at h
  simp only [decide_eq_true_eq] at h
  exact List.eq_nil_of_length_eq_zero (by omega)
/-- The three kinds. -/
theorem mayE_cases {e : En} {n : Int} (h : mayE e n = true) :
    (1 ≤ n ∧ n ≤ 8) ∧ ((e.k = 1 ∧ mayB e.v n = true ∧ mayB e.w n = true ∧ leB e.w e.v = true ∧ blankR e.r = true) ∨ (e.k = 2 ∧ mayR e.r = true ∧ e.r.o < n ∧ e.v = [] ∧ e.w = []) ∨ (e.k = 3 ∧ mayB e.w n = true ∧ e.v = [] ∧ blankR e.r = true)) := by
  unfold mayE at h
  split at h
  · rename_i k1
    simp only [Bool.and_eq_true] at h
    obtain ⟨h1, h2, h3, h4⟩ := h
    have h5 := h1
    unfold mayB at h5
    simp only [Bool.and_eq_true] at h5
    exact ⟨manyB_le h5.1, .inl ⟨k1, h1, h2, h3, h4⟩⟩
  · split at h
    · rename_i k2
      simp only [Bool.and_eq_true, decide_eq_true_eq] at h
      obtain ⟨h1, h2, h3, h4, h5⟩ := h
      exact ⟨manyB_le h1, .inr (.inl ⟨k2, h2, h3, nilB_eq h4, nilB_eq h5⟩)⟩
    · split at h
      · rename_i k3
        simp only [Bool.and_eq_true] at h
        obtain ⟨h1, h2, h3⟩ := h
        have h5 := h1
        unfold mayB at h5
        simp only [Bool.and_eq_true] at h5
        exact ⟨manyB_le h5.1, .inr (.inr ⟨k3, h1, nilB_eq h2, h3⟩)⟩
      · cases h
theorem someE_len {e : En} (h : someE e = true) : e.v.length ≤ 8 ∧ e.w.length ≤ 8 ∧ (e.k = 2 → mayR e.r = true) ∧ 1 ≤ e.k ∧ e.k ≤ 3 := by
  obtain ⟨n, h⟩ := someE_may h
  obtain ⟨_, ⟨k, h1, h2, _⟩ | ⟨k, h1, _, h3, h4⟩ | ⟨k, h1, h2, _⟩⟩ := mayE_cases h
  · exact ⟨(mayB_len h1).1, (mayB_len h2).1, fun h => by omega, by omega, by omega⟩
  · exact ⟨by rw [h3]; simp, by rw [h4]; simp, fun _ => h1, by omega, by omega⟩
  · exact ⟨by rw [h2]; simp, (mayB_len h1).1, fun h => by omega, by omega, by omega⟩
theorem bodyE_len {e : En} (h : someE e = true) : (bodyE e).length ≤ 300 := by
  obtain ⟨h1, h2, h3, _, _⟩ := someE_len h
  unfold bodyE
  split
  · rw [List.length_append, vecB_len, vecB_len]; omega
  · split
    · rename_i k2
      rw [layL_len]
      have := mayR_size (h3 k2)
      omega
    · rw [vecB_len]; omega
theorem bodyE_okF {e : En} (h : someE e = true) : okF e.k (bodyE e) = true := by
  obtain ⟨_, _, _, h4, h5⟩ := someE_len h
  exact okF_of h4 (by omega) (by have := bodyE_len h; omega)

set_option maxHeartbeats 4000000 in
theorem body_c (e : En) (a b : Value) (w : World) (ha : Nl w a e.v) (hb : Nl w b e.w) (hs : e.r.t.size ≤ 9223372036854775807) (hT : Tabs w) (h : someE e = true) :
    Calls Tryz.prog 78 #[.agg #[.int .i64 e.k, a, b, .int .i64 e.r.o, .int .i64 e.r.s, .int .i64 e.r.w, .int .i64 e.r.c, .string e.r.t]] w (rowB w.heap.size (bodyE e) w) := by
  obtain ⟨l1, l2, l3, _, _⟩ := someE_len h
  obtain ⟨ad1, cap1, rfl, _⟩ := ha.form
  obtain ⟨ad2, cap2, rfl, _⟩ := hb.form
  have HX := Lib.hid (Bx.new 43 w #[.int .i64 e.k, .slice ad1 e.v.length cap1, .slice ad2 e.w.length cap2, .int .i64 e.r.o, .int .i64 e.r.s, .int .i64 e.r.w, .int .i64 e.r.c, .string e.r.t])
  have hA := Lib.hid (alloc_below w (.cells #[.int .i64 e.k, .slice ad1 e.v.length cap1, .slice ad2 e.w.length cap2, .int .i64 e.r.o, .int .i64 e.r.s, .int .i64 e.r.w, .int .i64 e.r.c, .string e.r.t] 43))
  obtain ⟨W1, hW1⟩ : ∃ W1, W1 = w.alloc (.cells #[.int .i64 e.k, .slice ad1 e.v.length cap1, .slice ad2 e.w.length cap2, .int .i64 e.r.o, .int .i64 e.r.s, .int .i64 e.r.w, .int .i64 e.r.c, .string e.r.t] 43) := ⟨_, rfl⟩
  rw [← hW1] at HX hA
  have hz : W1.heap.size = w.heap.size + 1 := by rw [hW1]; simp
  have CW : Hid (∀ W, Below W1.heap.size W1 W → Calls Tryz.prog 101 #[.slice none 0 0, .slice ad2 e.w.length cap2] W (rowB W.heap.size ([] ++ vecB e.w) W)) := Lib.hid (fun W hW =>
    putvec_c [] e.w _ ad2 cap2 W W.heap.size (BRow.nil _ _) (fun w' h' => hb.below (bn (bn hA.out hW) h')) (by omega) (by simp) (Nat.le_refl _))
  unfold bodyE
  by_cases k1 : e.k = 1
  · rw [if_pos k1]
    have f1 : (e.k == 1) = true := by simpa using k1
    have CV : Hid (∀ W, Below W1.heap.size W1 W → Calls Tryz.prog 101 #[.slice none 0 0, .slice ad1 e.v.length cap1] W (rowB W1.heap.size ([] ++ vecB e.v) W)) := Lib.hid (fun W hW =>
      putvec_c [] e.v _ ad1 cap1 W W1.heap.size (BRow.nil _ _) (fun w' h' => ha.below (hA.out.trans ((hW.trans h').mono (by omega)))) (by omega) (by simp) hW.size)
    have CV2 : Hid (∀ W v, Below W1.heap.size W1 W → BRow W W1.heap.size v (vecB e.v) → Calls Tryz.prog 101 #[v, .slice ad2 e.w.length cap2] W (rowB W1.heap.size (vecB e.v ++ vecB e.w) W)) := Lib.hid (fun W v hW hv =>
      putvec_c (vecB e.v) e.w _ ad2 cap2 W W1.heap.size hv (fun w' h' => hb.below (hA.out.trans ((hW.trans h').mono (by omega)))) (by omega) (by rw [vecB_len]; omega) hW.size)
    have HS : Hid (∀ w' : World, Below W1.heap.size W1 w' → w'.cell? ⟨w.heap.size, 1, none⟩ = some (.slice ad1 e.v.length cap1) ∧ w'.cell? ⟨w.heap.size, 2, none⟩ = some (.slice ad2 e.w.length cap2)) := Lib.hid (fun w' h' => by
      obtain ⟨c0, c1, c2, _⟩ := (HX.out.below h').eight
      exact ⟨c1, c2⟩)
    clear ha hb hs hT h l3 k1 CW HX
    go_enter Tryz.func78, Tryz.ntmps78
    go_wp2_with fail
    rw [← hW1]
    clear hW1
    go_region_held3 (fun w' => w'.cell? ⟨w.heap.size, 1, none⟩ = some (.slice ad1 e.v.length cap1) ∧ w'.cell? ⟨w.heap.size, 2, none⟩ = some (.slice ad2 e.w.length cap2)) (exact HS.out _ (by first | assumption | exact (Below.refl _ _).drew | exact Below.refl _ _))
      (first
      | (go_at_call 101; refine (CV2.out _ _ (by first | assumption | exact (Below.refl _ _).drew | exact Below.refl _ _) h1row).mono ?_; rintro x w3 ⟨v3, rfl, h3row, b3⟩; have b3' : Below W1.heap.size W1 w3 := Below.trans (by first | assumption | exact (Below.refl _ _).drew | exact Below.refl _ _) b3; clear b3)
      | (go_at_call 101; refine (CV.out _ (by first | assumption | exact (Below.refl _ _).drew | exact Below.refl _ _)).mono ?_; rintro x w2 ⟨v2, rfl, h1row, b2⟩; have b2' : Below W1.heap.size W1 w2 := Below.trans (by first | assumption | exact (Below.refl _ _).drew | exact Below.refl _ _) b2; clear b2)
      | fail)
    go_wp2
    go_ret
    exact ⟨_, rfl, h3row.mono (by omega), hA.out.trans (b3'.mono (by omega))⟩
  · rw [if_neg k1]
    have f1 : (e.k == 1) = false := by simpa using k1
    by_cases k2 : e.k = 2
    · rw [if_pos k2]
      have f2 : (e.k == 2) = true := by simpa using k2
      have hm := l3 k2
      have HC : Hid (Calls Tryz.prog 102 #[.agg #[.int .i64 e.r.o, .int .i64 e.r.s, .int .i64 e.r.w, .int .i64 e.r.c, .string e.r.t]] W1 (rclayT e.r W1)) := Lib.hid (rclay_c e.r W1 hs (hT.below hA.out))
      unfold rclayT at HC
      rw [hm] at HC
      clear ha hb hs hT h l3 k1 k2 CW HX
      go_enter Tryz.func78, Tryz.ntmps78
      go_wp2_with fail
      rw [← hW1]
      refine HC.out.mono ?_
      rintro x w2 ⟨v2, rfl, h2, b2⟩
      go_wp2
      go_ret
      exact ⟨_, rfl, BRow.mono h2 (by omega), bn hA.out b2⟩
    · rw [if_neg k2]
      have f2 : (e.k == 2) = false := by simpa using k2
      have HC := Lib.hid (CW.out W1 (Below.refl _ _))
      clear ha hb hs hT h l3 k1 k2 CW HX
      go_enter Tryz.func78, Tryz.ntmps78
      go_wp2_with fail
      rw [← hW1]
      refine HC.out.mono ?_
      rintro x w2 ⟨v2, rfl, h2, b2⟩
      go_wp2
      go_ret
      exact ⟨_, rfl, BRow.mono h2 (by omega), bn hA.out b2⟩

/-- What Lay answers. -/
def layeT (e : En) (w : World) (x : Ending) (w' : World) : Prop :=
  ∃ v, x = .returned (.tuple #[v, .int .i64 (if someE e then 0 else 2)]) ∧ BRow w' w.heap.size v (if someE e then layE e else []) ∧ Below w.heap.size w w'

set_option maxHeartbeats 4000000 in
theorem laye_c (e : En) (a b : Value) (w : World) (ha : Nl w a e.v) (hb : Nl w b e.w) (hv : e.v.length ≤ 1000000) (hw : e.w.length ≤ 1000000) (hs : e.r.t.size ≤ 9223372036854775807) (hT : Tabs w) :
    Calls Tryz.prog 59 #[.agg #[.int .i64 e.k, a, b, .int .i64 e.r.o, .int .i64 e.r.s, .int .i64 e.r.w, .int .i64 e.r.c, .string e.r.t]] w (layeT e w) := by
  have HX := Lib.hid (Bx.new 43 w #[.int .i64 e.k, a, b, .int .i64 e.r.o, .int .i64 e.r.s, .int .i64 e.r.w, .int .i64 e.r.c, .string e.r.t])
  have hA := Lib.hid (alloc_below w (.cells #[.int .i64 e.k, a, b, .int .i64 e.r.o, .int .i64 e.r.s, .int .i64 e.r.w, .int .i64 e.r.c, .string e.r.t] 43))
  obtain ⟨W1, hW1⟩ : ∃ W1, W1 = w.alloc (.cells #[.int .i64 e.k, a, b, .int .i64 e.r.o, .int .i64 e.r.s, .int .i64 e.r.w, .int .i64 e.r.c, .string e.r.t] 43) := ⟨_, rfl⟩
  rw [← hW1] at HX hA
  have hz : W1.heap.size = w.heap.size + 1 := by rw [hW1]; simp
  have HC := Lib.hid (some_c e a b W1 (ha.below hA.out) (hb.below hA.out) hv hw hs (hT.below hA.out))
  obtain ⟨ad1, cap1, rfl, _⟩ := ha.form
  obtain ⟨ad2, cap2, rfl, _⟩ := hb.form
  unfold layeT
  cases hm : someE e
  · rw [hm] at HC
    clear ha hb hv hw hs hT hm
    go_enter Tryz.func59, Tryz.ntmps59
    go_wp2_with fail
    rw [← hW1]
    refine HC.out.mono ?_
    rintro x w1 ⟨rfl, b1⟩
    go_wp2
    go_ret2
    exact ⟨_, rfl, BRow.nil _ _, bn hA.out b1⟩
  · rw [hm] at HC
    have hok := bodyE_okF hm
    have hlen := bodyE_len hm
    have CB : Hid (∀ W, Below w.heap.size w W → Calls Tryz.prog 78 #[.agg #[.int .i64 e.k, .slice ad1 e.v.length cap1, .slice ad2 e.w.length cap2, .int .i64 e.r.o, .int .i64 e.r.s, .int .i64 e.r.w, .int .i64 e.r.c, .string e.r.t]] W (rowB W.heap.size (bodyE e) W)) := Lib.hid (fun W h => body_c e _ _ W (ha.below h) (hb.below h) hs (hT.below h) hm)
    have CL : Hid (∀ W u, Bl W u (bodyE e) → Calls Tryz.prog 77 #[.int .i64 e.k, u] W fun x w' => ∃ A N C, x = .returned (.tuple #[.slice A N C, .int .i64 0]) ∧ Hid (BRow w' W.heap.size (.slice A N C) (layE e)) ∧ Hid (Below W.heap.size W w')) := Lib.hid (fun W u hu => (lay_c e.k (bodyE e) u W hu (by unfold maxLen; omega)).mono (by
      rintro x w' ⟨A, N, C, h1, h2, h3⟩
      rw [if_pos hok] at h1 h2
      exact ⟨A, N, C, h1, Lib.hid h2, Lib.hid h3⟩))
    clear ha hb hv hw hs hT hm hok
    go_enter Tryz.func59, Tryz.ntmps59
    go_wp2_with fail
    rw [← hW1]
    refine HC.out.mono ?_
    rintro x w1 ⟨rfl, b1⟩
    have HX1 := Lib.hid (HX.out.below b1)
    have HB1 := Lib.hid (bn hA.out b1)
    clear b1 HX HC
    have hl := HX1.out.lt
    obtain ⟨c0, c1, c2, c3, c4, c5, c6, c7⟩ := HX1.out.eight
    go_wp2_with fail
    clear c0 c1 c2 c3 c4 c5 c6 c7
    have HS : Hid (∀ w' : World, Below w1.heap.size w1 w' → w'.cell? ⟨w.heap.size, 0, none⟩ = some (.int .i64 e.k) ∧ w'.cell? ⟨w.heap.size, 1, none⟩ = some (.slice ad1 e.v.length cap1) ∧ w'.cell? ⟨w.heap.size, 2, none⟩ = some (.slice ad2 e.w.length cap2) ∧ w'.cell? ⟨w.heap.size, 3, none⟩ = some (.int .i64 e.r.o) ∧ w'.cell? ⟨w.heap.size, 4, none⟩ = some (.int .i64 e.r.s) ∧ w'.cell? ⟨w.heap.size, 5, none⟩ = some (.int .i64 e.r.w) ∧ w'.cell? ⟨w.heap.size, 6, none⟩ = some (.int .i64 e.r.c) ∧ w'.cell? ⟨w.heap.size, 7, none⟩ = some (.string e.r.t)) := Lib.hid (fun w' h' => (HX1.out.below h').eight)
    go_region_held3 (fun w' => w'.cell? ⟨w.heap.size, 0, none⟩ = some (.int .i64 e.k) ∧ w'.cell? ⟨w.heap.size, 1, none⟩ = some (.slice ad1 e.v.length cap1) ∧ w'.cell? ⟨w.heap.size, 2, none⟩ = some (.slice ad2 e.w.length cap2) ∧ w'.cell? ⟨w.heap.size, 3, none⟩ = some (.int .i64 e.r.o) ∧ w'.cell? ⟨w.heap.size, 4, none⟩ = some (.int .i64 e.r.s) ∧ w'.cell? ⟨w.heap.size, 5, none⟩ = some (.int .i64 e.r.w) ∧ w'.cell? ⟨w.heap.size, 6, none⟩ = some (.int .i64 e.r.c) ∧ w'.cell? ⟨w.heap.size, 7, none⟩ = some (.string e.r.t)) (exact HS.out _ (by first | assumption | exact (Below.refl _ _).drew | exact Below.refl _ _))
      (first
      | (go_at_call 77; refine (CL.out _ _ h1row.nl).mono ?_; rintro x w3 ⟨A3, N3, C3, rfl, h3row, b3⟩; have b3' : Below w1.heap.size w1 w3 := bn (by first | assumption | exact (Below.refl _ _).drew | exact Below.refl _ _) b3.out; have h3row' : BRow w3 w1.heap.size (.slice A3 N3 C3) (layE e) := h3row.out.mono b2'.size; clear b3 h3row)
      | (go_at_call 78; refine (CB.out _ (bn HB1.out (by first | assumption | exact (Below.refl _ _).drew | exact Below.refl _ _))).mono ?_; rintro x w2 ⟨v2, rfl, h1row, b2⟩; have b2' : Below w1.heap.size w1 w2 := bn (by first | assumption | exact (Below.refl _ _).drew | exact Below.refl _ _) b2; clear b2)
      | fail)
    go_wp2
    go_ret2
    exact ⟨_, rfl, h3row'.mono HB1.out.size, bn HB1.out b3'⟩
end Go.Proofs.YtjmkphnppegegaaGreatDoor
/-
  Chapter 8's own Lay, by contract.
-/
namespace Go.Proofs.YtjmkphnppegegaaGreatDoor
open Go.RowKit Go.Lib
set_option maxRecDepth 100000

end Go.Proofs.YtjmkphnppegegaaGreatDoor
