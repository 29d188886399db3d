/-
  A ledger in memory beside its plain picture: Open, Write, Sync, Segments, Loose by contract.
-/
import Derived.Test.YtjmkphnppegegaaGreatDoorPkLw
import Derived.Test.YtjmkphnppegegaaGreatDoorPkA
namespace Go.Proofs.YtjmkphnppegegaaGreatDoor
open Go.RowKit Go.Lib
set_option maxRecDepth 100000

/-- In block g, over the drive at p, there is the ledger S. -/
structure Led (w : World) (g p m : Nat) (S : Lg) (own : Nat → Prop) : Prop where
  lb : LB w g p S.n S.k ((S.k + S.A.length : Nat) : Int) ((rowsE S.L).length : Int)
  dr : Dr w p S.P m own
  ng : ¬ own g
  ok : S.Ok
theorem Led.below {w w' : World} {g p m : Nat} {S : Lg} {own : Nat → Prop} (h : Led w g p m S own) (hb : Below w.heap.size w w') : Led w' g p m S own := ⟨h.lb.below hb, h.dr.below hb, h.ng, h.ok⟩
theorem Led.far {w w' : World} {g p m : Nat} {S : Lg} {own T : Nat → Prop} (h : Led w g p m S own) (ht : Turn T w w') (hn : ∀ i, T i → ¬ own i ∧ i ≠ g) : Led w' g p m S own :=
  ⟨h.lb.turn ht (fun k => (hn g k).2 rfl), h.dr.far ht (fun i hi => (hn i hi).1), h.ng, h.ok⟩
theorem Led.lt {w : World} {g p m : Nat} {S : Lg} {own : Nat → Prop} (h : Led w g p m S own) : g < w.heap.size := h.lb.lt
theorem Lg.P_len (S : Lg) : S.P.length = S.A.length + 1 := by unfold Lg.P; rw [files_len, S.F_len]
theorem Led.size {w : World} {g p m : Nat} {S : Lg} {own : Nat → Prop} (h : Led w g p m S own) : (rowsE S.L).length ≤ 1048576 := by
  have h1 := h.dr.us
  rw [Lg.used] at h1
  omega
theorem write_S {w : World} {g p m : Nat} {S : Lg} {own : Nat → Prop} (h : Led w g p m S own) (d : En) (a b c f : Value) (vv ww : List Int) (ha : Nl w a d.v) (hb : Nl w b d.w) (hv : Nl w c vv) (hw : Nl w f ww) (hT : Tabs w) (hk : d.k ≠ 1) (hm : mayE d S.n = true) (hmb : mayE (baseE vv ww) S.n = true) (hl : S.k + S.A.length < 97) :
    Calls Tryz.prog 17 #[.pointer (some ⟨g, 0, none⟩), .agg #[.int .i64 d.k, a, b, .int .i64 d.r.o, .int .i64 d.r.s, .int .i64 d.r.w, .int .i64 d.r.c, .string d.r.t], c, f] w fun x w' =>
      (usedP S.P + S.adds d vv ww ≤ m → x = .returned (.int .i64 0) ∧ ∃ own', Led w' g p m (S.write d vv ww) own' ∧ Step w (plusB own g) w' (plusB own' g)) ∧ (m < usedP S.P + S.adds d vv ww → x = .returned (.int .i64 8) ∧ Below w.heap.size w w') := by
  have hn := h.ok.n8
  have hsm := someE_len (mayE_some hm)
  have hsx := someE_text (mayE_some hm)
  have hsb := someE_len (mayE_some hmb)
  have hsz := h.size
  by_cases hz : (rowsE S.L).length < 400
  · refine (write_same_c w g p S.n S.k (S.k + S.A.length) ((rowsE S.L).length : Int) m S.P own d a b vv ww c f h.lb ha hb hv hw ⟨by omega, by omega, by omega⟩ ⟨by have := hsb.1; simp only [baseE] at this; omega, by have := hsb.2.1; simp only [baseE] at this; omega⟩ hT h.dr h.ng hn (by omega) (by rw [Lg.P_len]; omega) (by omega) ⟨hk, hm, hmb⟩ (by omega)).mono ?_
    intro e w' hh
    have ea : S.adds d vv ww = (rowsE [d]).length := by unfold Lg.adds; rw [if_pos hz, rowsE_one]
    rw [ea]
    refine ⟨fun hf => ?_, hh.2⟩
    obtain ⟨h1, own', h2, h3, h4, h5⟩ := hh.1 hf
    have ew : S.write d vv ww = { S with L := S.L ++ [d] } := by unfold Lg.write; rw [if_pos hz]
    rw [rowsE_one, Lg.app_same h.ok] at h2
    rw [if_pos rfl, rowsE_one] at h5
    refine ⟨h1, own', ⟨?_, by rw [ew]; exact h2, h4, h.ok.write hm hk hmb hl⟩, h3⟩
    rw [ew]
    simp only [rowsE_app, rowsE_one, List.length_append, Int.natCast_add] at h5 ⊢
    exact h5
  · refine (write_next_c w g p S.n S.k (S.k + S.A.length) ((rowsE S.L).length : Int) m S.P own d a b vv ww c f h.lb ha hb hv hw ⟨by omega, by omega, by omega⟩ ⟨by have := hsb.1; simp only [baseE] at this; omega, by have := hsb.2.1; simp only [baseE] at this; omega⟩ hT h.dr h.ng hn (by omega) (by rw [Lg.P_len]; omega) (by omega) ⟨hk, hm, hmb⟩ (by omega) (fun l => ?_)).mono ?_
    · have h1 := app_new S.n S.F l S.k (by rw [S.F_len]; omega)
      rw [S.F_len, show S.k + (S.A.length + 1) = S.k + S.A.length + 1 from by omega] at h1
      unfold Lg.P
      rw [h1, Lg.look_new h.ok]
      rfl
    · intro e w' hh
      have ea : S.adds d vv ww = (rowsE [baseE vv ww, d]).length := by unfold Lg.adds; rw [if_neg hz, rowsE_two, List.length_append]
      rw [ea]
      refine ⟨fun hf => ?_, hh.2⟩
      obtain ⟨h1, own', h2, h3, h4, h5⟩ := hh.1 hf
      have ew : S.write d vv ww = { S with A := S.A ++ [S.L], L := [baseE vv ww, d], y := 0 } := by unfold Lg.write; rw [if_neg hz]
      rw [rowsE_two, Lg.app_next h.ok] at h2
      refine ⟨h1, own', ⟨?_, by rw [ew]; exact h2, h4, h.ok.write hm hk hmb hl⟩, h3⟩
      rw [ew]
      simp only [List.length_append, List.length_singleton]
      exact h5
theorem sync_S {w : World} {g p m : Nat} {S : Lg} {own : Nat → Prop} (h : Led w g p m S own) :
    Calls Tryz.prog 19 #[.pointer (some ⟨g, 0, none⟩)] w fun e w' => e = .returned (.int .i64 0) ∧ ∃ own', Led w' g p m S.sync own' ∧ Step w own w' own' := by
  have hn := h.ok.n8
  have hk := h.ok.k2
  refine (lsync_c w g p S.n (S.k + S.A.length) m S.k _ S.P own h.lb h.dr h.ng (by omega) (by omega) (by rw [Lg.look h.ok]; rfl)).mono ?_
  rintro e w' ⟨rfl, own', hd, hs⟩
  rw [Lg.sync_P h.ok] at hd
  exact ⟨rfl, own', ⟨h.lb.turn hs.turn h.ng, hd, hs.not h.ng h.lt, h.ok.sync⟩, hs⟩
theorem segs_S {w : World} {g p m : Nat} {S : Lg} {own : Nat → Prop} (h : Led w g p m S own) :
    Calls Tryz.prog 18 #[.pointer (some ⟨g, 0, none⟩)] w fun e w' => e = .returned (.int .i64 ((S.A.length + 1 : Nat) : Int)) ∧ Below w.heap.size w w' := segments_c w g p S.n S.k S.A.length _ h.lb (by have := h.ok.k2; omega)
theorem looseF_full : ∀ A : List (List En), looseF (A.map fullF) = 0
  | [] => rfl
  | s :: r => by simp [looseF, fullF, looseF_full r]
theorem loose_S {w : World} {p m : Nat} {S : Lg} {own : Nat → Prop} (h : Dr w p S.P m own) (ok : S.Ok) :
    Calls Tryz.prog 20 #[.pointer (some ⟨p, 0, none⟩)] w fun e w' => e = .returned (.int .i64 (((rowsE S.L).length - S.y : Nat) : Int)) ∧ Below w.heap.size w w' := by
  have hh := loose_d (F := S.F) h (by have := ok.k2; rw [S.F_len]; omega)
  have e : looseF S.F = (rowsE S.L).length - S.y := by unfold Lg.F; rw [looseF_app, looseF_full]; simp [looseF]
  rwa [e] at hh

def Lg.segs (S : Lg) : List (List En × Nat) := S.A.map (fun s => (s, (rowsE s).length)) ++ [(S.L, S.y)]
theorem segs_F (S : Lg) : S.segs.map segF = S.F := by
  unfold Lg.segs Lg.F
  rw [List.map_append, List.map_map]
  rfl
theorem flatS_map : ∀ A : List (List En), flatS (A.map (fun s => (s, (rowsE s).length))) = A.flatten
  | [] => rfl
  | s :: r => by simp [flatS, flatS_map r]
theorem segs_all (S : Lg) : flatS S.segs = S.all := by
  unfold Lg.segs Lg.all
  rw [flatS_app, flatS_map]
  simp [flatS]
theorem segs_len (S : Lg) : S.segs.length = S.A.length + 1 := by simp [Lg.segs]
theorem segs_good {S : Lg} (h : S.Ok) : ∀ s ∈ S.segs, goodE S.n true s.1 ∧ s.1 ≠ [] := by
  intro s hs
  rcases List.mem_append.1 hs with hs | hs
  · obtain ⟨t, ht, rfl⟩ := List.mem_map.1 hs
    exact h.ga t ht
  · rw [List.mem_singleton] at hs
    subst hs
    exact ⟨h.gl, h.nl⟩
/-- What Open answers over a ledger's files. -/
def openS (w : World) (p m : Nat) (S : Lg) (own : Nat → Prop) (all : List En) (x : Ending) (w' : World) : Prop :=
  ∃ v xs own', x = .returned (.tuple #[.pointer (some ⟨w.heap.size, 0, none⟩), v, .int .i64 0]) ∧ EK w' own' (w.heap.size + 1) v xs ∧ xs.map Ev.e = all ∧ Led w' w.heap.size p m S own' ∧ Step w own w' own'
theorem open_S {w : World} {p m : Nat} {S : Lg} {own : Nat → Prop} (h : Dr w p S.P m own) (ok : S.Ok) (hm : m ≤ 100000) (hT : Tabs w) :
    Calls Tryz.prog 12 #[.pointer (some ⟨p, 0, none⟩), .int .i64 (S.n : Int)] w (openS w p m S own S.all) := by
  have hk := ok.k2
  have hd : Dr w p (filesN S.n S.k (S.segs.map segF)) m own := by rw [segs_F]; exact h
  refine (open_end_c w p S.n S.k m S.segs own hd ok.n1 ok.n8 ok.k1 (by rw [segs_len]; omega) hm (by intro e; have := segs_len S; rw [e] at this; simp at this) (segs_good ok) hT).mono ?_
  rintro e w' ⟨v, xs, own', h1, h2, h3, h4, h5, h6, h7⟩
  rw [segs_F] at h5
  rw [segs_all] at h3
  have hl : lastZ S.segs = ((rowsE S.L).length : Int) := lastZ_app _ _
  rw [hl, segs_len] at h4
  refine ⟨v, xs, own', h1, h2, h3, ⟨?_, h5, h7, ok⟩, h6⟩
  have e1 : (S.k : Int) + ((S.A.length + 1 : Nat) : Int) - 1 = ((S.k + S.A.length : Nat) : Int) := by omega
  rw [e1] at h4
  exact h4
theorem Lg.new_ok {n : Nat} (h1 : 1 ≤ n) (h8 : n ≤ 8) : (Lg.new n).Ok :=
  ⟨h1, h8, Nat.le_refl _, by simp [Lg.new], fun s hs => by simp [Lg.new] at hs, ⟨zeros_may h1 h8, rfl, trivial⟩, by simp [Lg.new], Nat.le_refl _⟩
/-- A ledger on a drive without files. -/
theorem new_S {w : World} {p m : Nat} {own : Nat → Prop} (n : Nat) (h : Dr w p [] m own) (h1 : 1 ≤ n) (h8 : n ≤ 8) (hm : m ≤ 100000) (hT : ∀ W own', Step w own W own' → Tabs W) :
    Calls Tryz.prog 12 #[.pointer (some ⟨p, 0, none⟩), .int .i64 (n : Int)] w fun x w' =>
      (usedP (Lg.new n).P ≤ m → openS w p m (Lg.new n) own (Lg.new n).all x w') ∧ (m < usedP (Lg.new n).P → x = .returned (.tuple #[.pointer none, .slice none 0 0, .int .i64 8]) ∧ ∃ own', Dr w' p [] m own' ∧ Step w own w' own') := by
  refine (open_new_c w p n m own (baseE (List.replicate n 0) (List.replicate n 0)) rfl h h1 h8 hm hT).mono ?_
  intro x w' hh
  have eu : usedP (Lg.new n).P = (layE (baseE (List.replicate n 0) (List.replicate n 0))).length := by
    rw [Lg.used]
    simp [Lg.new, sumE, rowsE]
  rw [eu]
  refine ⟨fun hf => ?_, hh.2⟩
  obtain ⟨v, xs, own', e1, e2, e3, e4, e5, e6, e7⟩ := hh.1 hf
  refine ⟨v, xs, own', e1, e2, by rw [e3]; simp [Lg.new, Lg.all], ⟨?_, ?_, e7, Lg.new_ok h1 h8⟩, e6⟩
  · simpa [Lg.new, rowsE] using e4
  · have : (Lg.new n).P = filesN n 1 [(layE (baseE (List.replicate n 0) (List.replicate n 0)), (layE (baseE (List.replicate n 0) (List.replicate n 0))).length)] := by
      simp [Lg.new, Lg.P, Lg.F, rowsE]
    rw [this]
    exact e5
end Go.Proofs.YtjmkphnppegegaaGreatDoor
/-
  What every ledger answers (awake), by contract; plain.
-/
namespace Go.Proofs.YtjmkphnppegegaaGreatDoor
open Go.RowKit Go.Lib
set_option maxRecDepth 100000

/-- Since w0 nothing elder has turned; what is owned is newer. -/
structure Gr (w0 w : World) (own : Nat → Prop) : Prop where
  bl : Below w0.heap.size w0 w
  ow : ∀ i, own i → w0.heap.size ≤ i
theorem Gr.step {w0 w w' : World} {own own' : Nat → Prop} (h : Gr w0 w own) (hs : Step w own w' own') : Gr w0 w' own' :=
  ⟨h.bl.trans (hs.below h.bl.size h.ow), fun i hi => by
    rcases hs.new i hi with k | k
    · exact h.ow i k
    · exact Nat.le_trans h.bl.size k⟩
theorem Gr.below {w0 w w' : World} {own : Nat → Prop} (h : Gr w0 w own) (hb : Below w.heap.size w w') : Gr w0 w' own := ⟨bn h.bl hb, h.ow⟩
theorem Gr.plus {w0 w : World} {own : Nat → Prop} (h : Gr w0 w own) {g : Nat} (hg : w0.heap.size ≤ g) : Gr w0 w (plusB own g) := ⟨h.bl, fun i hi => by
  rcases hi with k | k
  · exact h.ow i k
  · omega⟩
theorem Gr.stepP {w0 w w' : World} {own own' : Nat → Prop} {g : Nat} (h : Gr w0 w own) (hg : w0.heap.size ≤ g) (hs : Step w (plusB own g) w' (plusB own' g)) : Gr w0 w' own' := by
  have := (h.plus hg).step hs
  exact ⟨this.bl, fun i hi => this.ow i (.inl hi)⟩
theorem Gr.tabs {w0 w : World} {own : Nat → Prop} (h : Gr w0 w own) (hT : Tabs w0) : Tabs w := hT.below h.bl
theorem Nl.two (W : World) (a b : Int) (T : TypeId) : Nl (W.alloc (.cells #[.int .i64 a, .int .i64 b] T)) (.slice (some ⟨W.heap.size, 0, none⟩) 2 2) [a, b] := by
  refine .inr ⟨_, 2, rfl, fun _ => ⟨W.heap.size, 0, rfl, fun k hk => ?_⟩⟩
  have hx := Bx.new T W #[.int .i64 a, .int .i64 b]
  match k, hk with
  | 0, _ => exact hx.cell 0
  | 1, _ => exact hx.cell 1
def markE (l : List Int) : En := ⟨3, [], l, zeroR⟩
theorem blank_zero : blankR zeroR = true := (sameR_iff zeroR zeroR).2 rfl
theorem mark_may {l : List Int} {n : Int} (h : mayB l n = true) : mayE (markE l) n = true := by simp [mayE, markE, h, nilB, blank_zero]
theorem base_may {l : List Int} {n : Int} (h : mayB l n = true) : mayE (baseE l l) n = true := by simp [mayE, baseE, h, leB_refl, blank_zero]
theorem layE_le {e : En} (h : someE e = true) : (layE e).length ≤ 312 := by rw [layE_len]; have := bodyE_len h; omega
theorem new_used {n : Nat} (h1 : 1 ≤ n) (h8 : n ≤ 8) : usedP (Lg.new n).P ≤ 312 ∧ (rowsE (Lg.new n).L).length ≤ 312 := by
  have := layE_le (mayE_some (zeros_may h1 h8))
  rw [Lg.used]
  simp [Lg.new, sumE, rowsE]
  exact this
theorem adds_le {S : Lg} {d : En} {v w : List Int} (h : someE d = true) (hb : someE (baseE v w) = true) : S.adds d v w ≤ 624 := by
  unfold Lg.adds
  have h1 := layE_le h
  have h2 := layE_le hb
  split <;> omega

theorem Lg.write_n (S : Lg) (e : En) (v w : List Int) : (S.write e v w).n = S.n := by unfold Lg.write; split <;> rfl
theorem Lg.write_k (S : Lg) (e : En) (v w : List Int) : (S.write e v w).k = S.k := by unfold Lg.write; split <;> rfl
theorem Lg.write_A (S : Lg) (e : En) (v w : List Int) : (S.write e v w).A.length ≤ S.A.length + 1 := by unfold Lg.write; split <;> simp
/-- Write of a mark of zeros, with lists just laid. -/
theorem write_mark {W : World} {g p m : Nat} {S : Lg} {own : Nat → Prop} (h : Led W g p m S own) (hn : S.n = 2) (b : Value) (hb : Nl W b [0, 0]) (hT : Tabs W) (hl : S.k + S.A.length < 97) (T T' : TypeId) :
    Calls Tryz.prog 17 #[.pointer (some ⟨g, 0, none⟩), .agg #[.int .i64 3, .slice none 0 0, b, .int .i64 0, .int .i64 0, .int .i64 0, .int .i64 0, .string ⟨#[]⟩], .slice (some ⟨W.heap.size, 0, none⟩) 2 2, .slice (some ⟨W.heap.size + 1, 0, none⟩) 2 2]
      ((W.alloc (.cells #[.int .i64 0, .int .i64 0] T)).alloc (.cells #[.int .i64 0, .int .i64 0] T')) fun x w' =>
      (usedP S.P + S.adds (markE [0, 0]) [0, 0] [0, 0] ≤ m → x = .returned (.int .i64 0) ∧ ∃ own', Led w' g p m (S.write (markE [0, 0]) [0, 0] [0, 0]) own' ∧ Step W (plusB own g) w' (plusB own' g)) ∧ (m < usedP S.P + S.adds (markE [0, 0]) [0, 0] [0, 0] → x = .returned (.int .i64 8) ∧ Below W.heap.size W w') := by
  have hA := alloc_below W (.cells #[.int .i64 0, .int .i64 0] T)
  have hB := bn hA (alloc_below (W.alloc (.cells #[.int .i64 0, .int .i64 0] T)) (.cells #[.int .i64 0, .int .i64 0] T'))
  have n2 := Nl.two (W.alloc (.cells #[.int .i64 0, .int .i64 0] T)) 0 0 T'
  rw [show (W.alloc (.cells #[.int .i64 0, .int .i64 0] T)).heap.size = W.heap.size + 1 by simp] at n2
  have hz : mayB [0, 0] (2 : Int) = true := by decide
  refine (write_S (h.below hB) (markE [0, 0]) (.slice none 0 0) b _ _ [0, 0] [0, 0] (.inl ⟨rfl, rfl⟩) (hb.below hB) ((Nl.two W 0 0 T).below (alloc_below _ _)) n2 (hT.below hB) (by decide) (by rw [hn]; exact mark_may hz) (by rw [hn]; exact base_may hz) hl).mono ?_
  intro x w' hh
  refine ⟨fun hf => ?_, fun hf => ⟨(hh.2 hf).1, bn hB (hh.2 hf).2⟩⟩
  obtain ⟨h1, own', h2, h3⟩ := hh.1 hf
  exact ⟨h1, own', h2, h3.beside hB⟩
set_option maxHeartbeats 8000000 in
theorem awake_c (w : World) (hT : Tabs w) : Calls Tryz.prog 10 #[] w fun e w' => e = .returned (.bool true) ∧ Below w.heap.size w w' := by
  have HT := Lib.hid hT
  have HN := Lib.hid (dNew w 2000 (by omega))
  clear hT
  go_enter Tryz.func10, Tryz.ntmps10
  go_wp2_with fail
  refine HN.out.mono ?_
  rintro e w1 ⟨p, own1, rfl, d1, o1, b1⟩
  have HG1 : Hid (Gr w w1 own1) := Lib.hid ⟨b1, o1⟩
  have HO : Hid (Calls Tryz.prog 12 #[.pointer (some ⟨p, 0, none⟩), .int .i64 2] w1 (openS w1 p 2000 (Lg.new 2) own1 (Lg.new 2).all)) := Lib.hid ((new_S 2 d1 (by omega) (by omega) (by omega) (fun W own' hs => (HG1.out.step hs).tabs HT.out)).mono (fun e w' hh => hh.1 (by have := (new_used (n := 2) (by omega) (by omega)).1; omega)))
  clear d1 o1 b1 HN
  go_wp2_with fail
  refine HO.out.mono ?_
  rintro e w2 ⟨v2, xs2, own2, rfl, ek2, es2, l2, s2⟩
  obtain ⟨x0, rfl, hx0⟩ : ∃ x0, xs2 = [x0] ∧ x0.e = baseE [0, 0] [0, 0] := by
    have h : xs2.map Ev.e = [baseE [0, 0] [0, 0]] := es2
    cases xs2 with
    | nil => cases h
    | cons x t =>
      cases t with
      | nil => exact ⟨x, rfl, by simpa using h⟩
      | cons y t => simp at h
  obtain ⟨ad, cap, rfl, _, k2⟩ := ek2.1.er
  obtain ⟨b, o, rfl, k3⟩ := k2 (by simp)
  have ev := k3 0 (by simp)
  simp only [Nat.zero_mul, Nat.add_zero, List.getElem_cons_zero] at ev
  have c0 := ev.1.1
  rw [hx0] at c0
  have c0' : w2.cell? ⟨b, o, none⟩ = some (.int .i64 1) := c0
  have hb2 := World.block_lt_of_cell? w2 _ c0'
  have HL2 := Lib.hid l2
  have HG2 := Lib.hid (HG1.out.step s2)
  have hsz1 := HG1.out.bl.size
  clear ek2 es2 l2 s2 k2 k3 ev c0 HO
  simp only [List.length_singleton]
  have n2 := Nl.two w2 0 0 3
  have hA2 := alloc_below w2 (.cells #[.int .i64 0, .int .i64 0] 3)
  have hA3 := alloc_below (w2.alloc (.cells #[.int .i64 0, .int .i64 0] 3)) (.cells #[.int .i64 3, .slice none 0 0, .slice (some ⟨w2.heap.size, 0, none⟩) 2 2, .int .i64 0, .int .i64 0, .int .i64 0, .int .i64 0, .string ⟨#[]⟩] 43)
  have hadd : usedP (Lg.new 2).P + (Lg.new 2).adds (markE [0, 0]) [0, 0] [0, 0] ≤ 2000 := by
    have h1 := (new_used (n := 2) (by omega) (by omega)).1
    have h2 := adds_le (S := Lg.new 2) (mayE_some (mark_may (l := [0, 0]) (n := 2) (by decide))) (mayE_some (base_may (l := [0, 0]) (n := 2) (by decide)))
    omega
  have CW : Hid (Calls Tryz.prog 17 #[.pointer (some ⟨w1.heap.size, 0, none⟩), .agg #[.int .i64 3, .slice none 0 0, .slice (some ⟨w2.heap.size, 0, none⟩) 2 2, .int .i64 0, .int .i64 0, .int .i64 0, .int .i64 0, .string ⟨#[]⟩], .slice (some ⟨w2.heap.size + 1 + 1, 0, none⟩) 2 2, .slice (some ⟨w2.heap.size + 1 + 1 + 1, 0, none⟩) 2 2]
      ((((w2.alloc (.cells #[.int .i64 0, .int .i64 0] 3)).alloc (.cells #[.int .i64 3, .slice none 0 0, .slice (some ⟨w2.heap.size, 0, none⟩) 2 2, .int .i64 0, .int .i64 0, .int .i64 0, .int .i64 0, .string ⟨#[]⟩] 43)).alloc (.cells #[.int .i64 0, .int .i64 0] 3)).alloc (.cells #[.int .i64 0, .int .i64 0] 3)) fun x w' => x = .returned (.int .i64 0) ∧ ∃ own', Led w' w1.heap.size p 2000 ((Lg.new 2).write (markE [0, 0]) [0, 0] [0, 0]) own' ∧ Gr w w' own') := Lib.hid (by
    have hh := write_mark ((HL2.out.below hA2).below hA3) rfl (.slice (some ⟨w2.heap.size, 0, none⟩) 2 2) (n2.below hA3) (((HG2.out.below hA2).below hA3).tabs HT.out) (by simp [Lg.new]) 3 3
    rw [show ((w2.alloc (.cells #[.int .i64 0, .int .i64 0] 3)).alloc (.cells #[.int .i64 3, .slice none 0 0, .slice (some ⟨w2.heap.size, 0, none⟩) 2 2, .int .i64 0, .int .i64 0, .int .i64 0, .int .i64 0, .string ⟨#[]⟩] 43)).heap.size = w2.heap.size + 1 + 1 by simp] at hh
    refine hh.mono ?_
    intro x w' hx
    obtain ⟨h1, own', h2, h3⟩ := hx.1 hadd
    exact ⟨h1, own', h2, ((HG2.out.below hA2).below hA3).stepP hsz1 h3⟩)
  have hal1 : ((Lg.new 2).write (markE [0, 0]) [0, 0] [0, 0]) = ⟨2, 1, [], [baseE [0, 0] [0, 0], markE [0, 0]], (Lg.new 2).y⟩ := by
    unfold Lg.write
    rw [if_pos (by have := (new_used (n := 2) (by omega) (by omega)).2; omega)]
    rfl
  rw [hal1] at CW
  obtain ⟨S1, hS1⟩ : ∃ S1, S1 = (⟨2, 1, [], [baseE [0, 0] [0, 0], markE [0, 0]], (Lg.new 2).y⟩ : Lg) := ⟨_, rfl⟩
  rw [← hS1] at CW
  have HS1 := Lib.hid hS1
  clear n2 hA2 hA3 hadd hal1 hS1 HL2
  go_wp2_with fail
  refine CW.out.mono ?_
  rintro e w3 ⟨rfl, own3, l3, g3⟩
  have HSY := Lib.hid (sync_S l3)
  have HG3 := Lib.hid g3
  clear l3 g3 CW c0' hb2
  go_wp2_with fail
  refine HSY.out.mono ?_
  rintro e w4 ⟨rfl, own4, l4, s4⟩
  have HG4 := Lib.hid (HG3.out.step s4)
  have hz4 := Lib.hid HG4.out.bl.size
  have HL4 := Lib.hid l4
  have hn2 : S1.sync.n = 2 := by rw [HS1.out]; rfl
  have HOP := Lib.hid (open_S l4.dr l4.ok (by omega) (HG4.out.tabs HT.out))
  rw [hn2] at HOP
  clear l4 s4 HSY hn2
  go_wp2_with fail
  refine HOP.out.mono ?_
  rintro e w5 ⟨v5, ys, own5, rfl, ek5, es5, l5, s5⟩
  have hys : ys.map Ev.e = [baseE [0, 0] [0, 0], markE [0, 0]] := by rw [es5, HS1.out]; rfl
  obtain ⟨y0, y1, rfl, hy1⟩ : ∃ y0 y1, ys = [y0, y1] ∧ y1.e = markE [0, 0] := by
    cases ys with
    | nil => cases hys
    | cons x t =>
      cases t with
      | nil => simp at hys
      | cons y t =>
        cases t with
        | nil => exact ⟨x, y, rfl, by simp at hys; exact hys.2⟩
        | cons z t => simp at hys
  obtain ⟨ad5, cap5, rfl, _, k2⟩ := ek5.1.er
  obtain ⟨b5, o5, rfl, k3⟩ := k2 (by simp)
  have ev := k3 1 (by simp)
  simp only [Nat.one_mul, List.getElem_cons_succ, List.getElem_cons_zero] at ev
  have c1 := ev.1.1
  rw [hy1] at c1
  have c1' : w5.cell? ⟨b5, o5 + 8, none⟩ = some (.int .i64 3) := c1
  have hb5 := World.block_lt_of_cell? w5 _ c1'
  have HG5 := Lib.hid (HG4.out.step s5)
  have lb5 := HL4.out.lb.turn s5.turn HL4.out.ng
  have hSA : S1.sync.A.length = 0 := by rw [HS1.out]; rfl
  have HSG := Lib.hid (segments_c w5 w1.heap.size p S1.sync.n S1.sync.k S1.sync.A.length _ lb5 (by have := HL4.out.ok.k2; omega))
  rw [hSA] at HSG
  have HD5 := Lib.hid l5.dr
  have HOK := Lib.hid l5.ok
  have hyy : (rowsE S1.sync.L).length - S1.sync.y = 0 := by simp [Lg.sync]
  clear ek5 es5 l5 s5 k2 k3 ev c1 hys hy1 lb5 HOP hSA
  simp only [List.length_cons, List.length_nil, Nat.zero_add, Nat.reduceAdd]
  go_wp2_with fail
  refine HSG.out.mono ?_
  rintro e w6 ⟨rfl, b6⟩
  have HLO := Lib.hid (loose_S (HD5.out.below b6) HOK.out)
  rw [hyy] at HLO
  have HG6 := Lib.hid (HG5.out.below b6)
  clear b6 HSG c1' hb5 hyy
  go_wp2_with fail
  refine HLO.out.mono ?_
  rintro e w7 ⟨rfl, b7⟩
  have HG7 := Lib.hid (HG6.out.below b7)
  clear b7 HLO
  go_wp2
  go_ret
  exact ⟨rfl, HG7.out.bl⟩
end Go.Proofs.YtjmkphnppegegaaGreatDoor
/-
  plain, Low by contract.
-/
namespace Go.Proofs.YtjmkphnppegegaaGreatDoor
open Go.RowKit Go.Lib
set_option maxRecDepth 100000

def plainV (l : List Ev) : List Ev := l.filter fun x => !(x.e.k == 1)
theorem plainV_e (l : List Ev) : (plainV l).map Ev.e = plainE (l.map Ev.e) := by
  unfold plainV plainE
  rw [List.filter_map]
  rfl
theorem plainV_succ (l : List Ev) (j : Nat) (hj : j < l.length) : plainV (l.take (j + 1)) = plainV (l.take j) ++ (if l[j].e.k == 1 then [] else [l[j]]) := by
  unfold plainV
  rw [List.take_succ_eq_append_getElem hj, List.filter_append]
  cases h : (l[j].e.k == 1) <;> simp [h]
theorem plainV_len (l : List Ev) : (plainV l).length ≤ l.length := List.length_filter_le ..
set_option maxHeartbeats 8000000 in
theorem plain_c (w : World) (v : Value) (l : List Ev) (h : Er w v l) (hl : l.length ≤ 100000) :
    Calls Tryz.prog 22 #[v] w fun e w' => ∃ v', e = .returned v' ∧ ERow w' w.heap.size v' (plainV l) ∧ Below w.heap.size w w' := by
  have HE := Lib.hid h
  obtain ⟨ad, cap, rfl, hc, _⟩ := h
  go_enter Tryz.func22, Tryz.ntmps22
  go_wp2
  go_loopw [3, 4] (fun v3 v4 wr => ∃ (j : Nat) (xs : List Ev), j ≤ l.length ∧ v4 = .int .i64 (j : Int) ∧ Hid (xs = plainV (l.take j)) ∧ Hid (ERow wr w.heap.size v3 xs) ∧ Hid (Below w.heap.size w wr)) (fun _ v4 _ => l.length - (RowKit.intOf v4).toNat)
  case atStart => exact ⟨0, [], by omega, rfl, Lib.hid rfl, Lib.hid (World.ownsRow_nil _ _ _ _), Lib.hid (Below.refl _ _)⟩
  case round =>
    obtain ⟨j, xs, hj, rfl, HX, HR, HB⟩ := hrel
    by_cases hjl : j < l.length
    · obtain ⟨ad2, cap2, e2, _, hs2⟩ := HE.out.below HB.out
      cases e2
      obtain ⟨b, o, rfl, hat⟩ := hs2 (by omega)
      have a1 := hat j hjl
      have hsu := plainV_succ l j hjl
      have hJ := Lib.hid hjl
      have hxl : xs.length ≤ 100000 := by rw [HX.out]; have := plainV_len (l.take j); rw [List.length_take] at this; omega
      rw [← HX.out] at hsu
      generalize l[j] = X at a1 hsu
      obtain ⟨d, A, B⟩ := X
      have hgl := World.block_lt_of_cell? wr _ a1.1.1
      obtain ⟨⟨p0, p1, p2, p3, p4, p5, p6, p7⟩, hA, hB⟩ := a1
      simp only at p0 p1 p2 p3 p4 p5 p6 p7 hA hB hsu
      obtain ⟨adA, capA, rfl, _⟩ := id hA.form
      obtain ⟨adB, capB, rfl, _⟩ := id hB.form
      have hsz := HB.out.size
      clear hs2 hat
      cases hk : (d.k == 1) with
      | true =>
        rw [hk] at hsu
        simp only [if_true, List.append_nil] at hsu
        have HSU := Lib.hid hsu
        clear hsu hA hB
        go_wp2
        go_roundw
        case rel => exact ⟨j + 1, xs, hJ.out, by go_num, Lib.hid HSU.out.symm, HR, HB⟩
        case measure => have := hJ.out; simp [RowKit.intOf]; omega
      | false =>
        rw [hk] at hsu
        simp only [Bool.false_eq_true, if_false] at hsu
        have HSU := Lib.hid hsu
        have hal := alloc_below wr (.cells #[.int .i64 d.k, .slice adA d.v.length capA, .slice adB d.w.length capB, .int .i64 d.r.o, .int .i64 d.r.s, .int .i64 d.r.w, .int .i64 d.r.c, .string d.r.t] 43)
        have er7 := Er.one wr ⟨d, .slice adA d.v.length capA, .slice adB d.w.length capB⟩ 43 hA hB
        have ho7 : ERow (wr.alloc (.cells #[.int .i64 d.k, .slice adA d.v.length capA, .slice adB d.w.length capB, .int .i64 d.r.o, .int .i64 d.r.s, .int .i64 d.r.w, .int .i64 d.r.c, .string d.r.t] 43)) w.heap.size _ xs := own_below HR.out hal
        obtain ⟨A8, N8, C8, w8, run8, row8, g8, _⟩ := eapp_run xs [⟨d, .slice adA d.v.length capA, .slice adB d.w.length capB⟩] _ _ _ 22 w.heap.size ho7 er7 (by simp; omega) (by simp; omega)
        have HR8 := Lib.hid run8
        have HO8 := Lib.hid row8
        have HB8 := Lib.hid ((bn HB.out hal).trans (below_of_grown g8 (by simp; omega) (fun i hi => (World.ownsRow.lt ho7 i hi).1)))
        clear hsu hA hB hal er7 ho7 run8 row8 g8
        go_wp2_with (at_builtin; refine wpList_append_run rfl _ _ 22 rfl _ _ HR8.out ?_; clear HR8)
        go_roundw
        case rel => exact ⟨j + 1, xs ++ [⟨d, .slice adA d.v.length capA, .slice adB d.w.length capB⟩], hJ.out, by go_num, Lib.hid HSU.out.symm, HO8, HB8⟩
        case measure => have := hJ.out; simp [RowKit.intOf]; omega
    · obtain rfl : j = l.length := by omega
      go_wp2
      go_ret
      refine ⟨_, rfl, ?_, HB.out⟩
      have e := HX.out
      rw [List.take_length] at e
      rw [← e]
      exact HR.out
end Go.Proofs.YtjmkphnppegegaaGreatDoor
