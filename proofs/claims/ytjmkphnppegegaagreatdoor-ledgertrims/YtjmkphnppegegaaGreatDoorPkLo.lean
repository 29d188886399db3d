/-
  Open by contract: over what was left.
-/
import Derived.Test.YtjmkphnppegegaaGreatDoorPkLl
import Derived.Test.YtjmkphnppegegaaGreatDoorPkLm
namespace Go.Proofs.YtjmkphnppegegaaGreatDoor
open Go.RowKit Go.Lib
set_option maxRecDepth 100000

/-- What Open leaves: a ledger's box in a new block, entries of one's own, the drive's files. -/
def openT (w : World) (p n k m : Nat) (last size : Int) (F : List (List Int × Nat)) (own : Nat → Prop) (all : List En) (x : Ending) (w' : World) : Prop :=
  ∃ v xs own', x = .returned (.tuple #[.pointer (some ⟨w.heap.size, 0, none⟩), v, .int .i64 0]) ∧ EK w' own' (w.heap.size + 1) v xs ∧ xs.map Ev.e = all ∧ LB w' w.heap.size p n k last size ∧ Dr w' p (filesN n k F) m own' ∧ Step w own w' own' ∧ ¬ own' w.heap.size
theorem Step.minus {w W w' : World} {own own' : Nat → Prop} {g : Nat} (hb : Below w.heap.size w W) (hup : ∀ i, own i → i < w.heap.size) (hg : w.heap.size ≤ g) (h : Step W (plusB own g) w' (plusB own' g)) : Step w own w' own' := by
  refine ⟨⟨h.turn.os.trans hb.os, h.turn.tape.trans hb.tape, h.turn.output.trans hb.output, Nat.le_trans hb.size h.turn.size, fun i hi ho => ?_⟩, fun i hi => ?_, fun i hi => ?_⟩
  · refine (h.turn.block i (Nat.lt_of_lt_of_le hi hb.size) (fun k => ?_)).trans (hb.block i hi)
    rcases k with k | k
    · exact ho k
    · omega
  · rcases h.sub i (.inl hi) with k | k
    · exact k
    · have := hup i hi
      omega
  · rcases h.new i (.inl hi) with (k | k) | k
    · exact .inl k
    · exact .inr (by omega)
    · exact .inr (Nat.le_trans hb.size k)
theorem EOwn.step {w w' : World} {B : Nat} {v : Value} {l : List Ev} {own own' : Nat → Prop} (h : EOwn w B v l) (hs : Step w own w' own') (ho : ∀ i, own i → i < w.heap.size → i < B) : EOwn w' B v l := by
  refine h.turn hs.turn ⟨fun g hg k => ?_, fun u hu g hg k => ?_⟩
  · have := h.lt.1 g hg; have := ho g k this.2; omega
  · have := h.lt.2 u hu g hg; have := ho g k this.2; omega
theorem bn' {w W W' : World} (h : Below w.heap.size w W) (k : Turn (fun i => i = w.heap.size) W W') : Below w.heap.size w W' := h.trans (k.below h.size (fun i hi => by omega))

set_option maxHeartbeats 8000000 in
theorem open_end_c (w : World) (p n k m : Nat) (segs : List (List En × Nat)) (own : Nat → Prop) (hd : Dr w p (filesN n k (segs.map segF)) m own)
    (hn1 : 1 ≤ n) (hn : n ≤ 8) (hk0 : 1 ≤ k) (hk : k + (segs.length + 1) < 100) (hm : m ≤ 100000) (hne : segs ≠ []) (hgd : ∀ s ∈ segs, goodE n true s.1 ∧ s.1 ≠ []) (hT : Tabs w) :
    Calls Tryz.prog 12 #[.pointer (some ⟨p, 0, none⟩), .int .i64 (n : Int)] w (openT w p n k m ((k : Int) + (segs.length : Int) - 1) (lastZ segs) (segs.map segF) own (flatS segs)) := by
  have hup : ∀ i, own i → i < w.heap.size := fun i hi => hd.up hi
  have HX := Lib.hid (Bx.new 64 w #[.pointer (some ⟨p, 0, none⟩), .int .i64 n, .int .i64 0, .int .i64 0, .int .i64 0])
  have hA := Lib.hid (alloc_below w (.cells #[.pointer (some ⟨p, 0, none⟩), .int .i64 n, .int .i64 0, .int .i64 0, .int .i64 0] 64))
  obtain ⟨W1, hW1⟩ : ∃ W1, W1 = w.alloc (.cells #[.pointer (some ⟨p, 0, none⟩), .int .i64 n, .int .i64 0, .int .i64 0, .int .i64 0] 64) := ⟨_, rfl⟩
  rw [← hW1] at HX hA
  have hzW : W1.heap.size = w.heap.size + 1 := by rw [hW1]; simp
  have hng : ¬ own w.heap.size := fun h => by have := hup _ h; omega
  have HL := Lib.hid (load_end_c W1 w.heap.size p n k m segs own HX.out (hd.below hA.out) hng hn1 hn hk0 hk (fun e => absurd e (by simpa using hne)) hm hgd (fun W hW => hT.below (bn' hA.out hW)))
  have HUP := Lib.hid hup
  have HZW := Lib.hid hzW
  have e1 : decide ((n : Int) < 1) = false := by simp; omega
  have e2 : decide ((8 : Int) < (n : Int)) = false := by simp; omega
  have hpos : 0 < (flatS segs).length := by
    cases segs with
    | nil => exact absurd rfl hne
    | cons s r =>
      have := (hgd s (List.mem_cons_self ..)).2
      cases hs : s.1 with
      | nil => exact absurd hs this
      | cons e t => simp [flatS, hs]
  clear hne
  clear hd hT hgd hup hng hzW
  go_enter Tryz.func12, Tryz.ntmps12
  go_wp2_with fail
  rw [← hW1]
  clear hW1
  refine HL.out.mono ?_
  rintro e w2 ⟨v, xs, own2, rfl, ow2, hes, l2, d2, s2, ng2, no2⟩
  have hxl : 0 < xs.length := by have := congrArg List.length hes; rw [List.length_map] at this; omega
  obtain ⟨adx, capx, rfl, _, _⟩ := ow2.er
  have ex : ((xs.length : Int) == 0) = false := by simp; intro e; rw [e] at hxl; simp at hxl
  have HOW := Lib.hid ow2
  have HES := Lib.hid hes
  have HL2 := Lib.hid l2
  have HD2 := Lib.hid d2
  have HS2 := Lib.hid s2
  have HN2 := Lib.hid ng2
  have HNO := Lib.hid no2
  have HC := Lib.hid (clear_no_c w2 w.heap.size p n k m (lastZ segs) (segs.map segF) own2 (by rw [List.length_map]; exact l2) d2 hn hk0 (by rw [List.length_map]; omega))
  clear ow2 hes l2 d2 s2 ng2 no2 HL hxl
  go_wp2_with fail
  refine HC.out.mono ?_
  rintro e w3 ⟨rfl, h3⟩
  have H3 := Lib.hid h3
  clear h3
  go_wp2
  go_ret3
  have hz := HZW.out
  have hst := Step.minus hA.out HUP.out (Nat.le_refl _) HS2.out
  have hlt2 := HL2.out.lt
  refine ⟨_, xs, own2, rfl, ?_, HES.out, HL2.out.below H3.out, HD2.out.below H3.out, hst.trans (Step.ofBelow H3.out), HN2.out⟩
  rw [← hz]
  exact EK.below ⟨HOW.out, HNO.out⟩ H3.out


set_option maxHeartbeats 8000000 in
theorem open_cut_c (w : World) (p n k m : Nat) (segs : List (List En × Nat)) (own : Nat → Prop) (tb : List Int) (tf tz : Nat) (R : List En) (htb : OkB tb) (hrd : readE tb n = (R, tz)) (htz : 0 < tz) (htl : tz < tb.length) (hd : Dr w p (filesN n k (segs.map segF ++ [(tb, tf)])) m own)
    (hn1 : 1 ≤ n) (hn : n ≤ 8) (hk0 : 1 ≤ k) (hk : k + (segs.length + 1) < 100) (hm : m ≤ 100000) (hne : R ≠ []) (hgd : ∀ s ∈ segs, goodE n true s.1 ∧ s.1 ≠ []) (hT : Tabs w) :
    Calls Tryz.prog 12 #[.pointer (some ⟨p, 0, none⟩), .int .i64 (n : Int)] w (openT w p n k m ((k : Int) + (segs.length : Int)) (tz : Int) (segs.map segF ++ [(tb.take tz, tz)]) own (flatS segs ++ R)) := by
  have hup : ∀ i, own i → i < w.heap.size := fun i hi => hd.up hi
  have HX := Lib.hid (Bx.new 64 w #[.pointer (some ⟨p, 0, none⟩), .int .i64 n, .int .i64 0, .int .i64 0, .int .i64 0])
  have hA := Lib.hid (alloc_below w (.cells #[.pointer (some ⟨p, 0, none⟩), .int .i64 n, .int .i64 0, .int .i64 0, .int .i64 0] 64))
  obtain ⟨W1, hW1⟩ : ∃ W1, W1 = w.alloc (.cells #[.pointer (some ⟨p, 0, none⟩), .int .i64 n, .int .i64 0, .int .i64 0, .int .i64 0] 64) := ⟨_, rfl⟩
  rw [← hW1] at HX hA
  have hzW : W1.heap.size = w.heap.size + 1 := by rw [hW1]; simp
  have hng : ¬ own w.heap.size := fun h => by have := hup _ h; omega
  have HL := Lib.hid (load_cut_c W1 w.heap.size p n k m segs own tb tf tz R htb hrd htz htl HX.out (hd.below hA.out) hng hn1 hn hk0 hk (fun e => absurd e (by simp)) hm hgd (fun W hW => hT.below (bn' hA.out hW)))
  have HUP := Lib.hid hup
  have HZW := Lib.hid hzW
  have e1 : decide ((n : Int) < 1) = false := by simp; omega
  have e2 : decide ((8 : Int) < (n : Int)) = false := by simp; omega
  have hpos : 0 < R.length := List.length_pos_iff.2 hne
  clear hne
  clear hd hT hgd hup hng hzW
  go_enter Tryz.func12, Tryz.ntmps12
  go_wp2_with fail
  rw [← hW1]
  clear hW1
  refine HL.out.mono ?_
  rintro e w2 ⟨v, xs, own2, rfl, ow2, hes, l2, d2, s2, ng2, no2⟩
  have hxl : 0 < xs.length := by have := congrArg List.length hes; rw [List.length_map] at this; rw [List.length_append] at this; omega
  obtain ⟨adx, capx, rfl, _, _⟩ := ow2.er
  have ex : ((xs.length : Int) == 0) = false := by simp; intro e; rw [e] at hxl; simp at hxl
  have HOW := Lib.hid ow2
  have HES := Lib.hid hes
  have HL2 := Lib.hid l2
  have HD2 := Lib.hid d2
  have HS2 := Lib.hid s2
  have HN2 := Lib.hid ng2
  have HNO := Lib.hid no2
  have lc : LB w2 w.heap.size p n k ((k : Int) + ((segs.map segF ++ [(tb.take tz, tz)]).length : Int) - 1) (tz : Int) := by
    have e : ((segs.map segF ++ [(tb.take tz, tz)]).length : Int) = (segs.length : Int) + 1 := by simp
    rw [e, show (k : Int) + ((segs.length : Int) + 1) - 1 = (k : Int) + (segs.length : Int) from by omega]
    exact l2
  have HC := Lib.hid (clear_no_c w2 w.heap.size p n k m (tz : Int) (segs.map segF ++ [(tb.take tz, tz)]) own2 lc d2 hn hk0 (by simp; omega))
  clear ow2 hes l2 d2 s2 ng2 no2 HL hxl
  go_wp2_with fail
  refine HC.out.mono ?_
  rintro e w3 ⟨rfl, h3⟩
  have H3 := Lib.hid h3
  clear h3
  go_wp2
  go_ret3
  have hz := HZW.out
  have hst := Step.minus hA.out HUP.out (Nat.le_refl _) HS2.out
  have hlt2 := HL2.out.lt
  refine ⟨_, xs, own2, rfl, ?_, HES.out, HL2.out.below H3.out, HD2.out.below H3.out, hst.trans (Step.ofBelow H3.out), HN2.out⟩
  rw [← hz]
  exact EK.below ⟨HOW.out, HNO.out⟩ H3.out


set_option maxHeartbeats 8000000 in
theorem open_zero_c (w : World) (p n k m : Nat) (segs : List (List En × Nat)) (own : Nat → Prop) (tb : List Int) (tf : Nat) (htb : OkB tb) (hrd : readE tb n = ([], 0)) (hd : Dr w p (filesN n k (segs.map segF ++ [(tb, tf)])) m own)
    (hn1 : 1 ≤ n) (hn : n ≤ 8) (hk0 : 1 ≤ k) (hk : k + (segs.length + 1) < 100) (hm : m ≤ 100000) (hne : segs ≠ []) (hgd : ∀ s ∈ segs, goodE n true s.1 ∧ s.1 ≠ []) (hT : Tabs w) :
    Calls Tryz.prog 12 #[.pointer (some ⟨p, 0, none⟩), .int .i64 (n : Int)] w (openT w p n k m ((k : Int) + (segs.length : Int) - 1) (lastZ segs) (segs.map segF) own (flatS segs)) := by
  have hup : ∀ i, own i → i < w.heap.size := fun i hi => hd.up hi
  have HX := Lib.hid (Bx.new 64 w #[.pointer (some ⟨p, 0, none⟩), .int .i64 n, .int .i64 0, .int .i64 0, .int .i64 0])
  have hA := Lib.hid (alloc_below w (.cells #[.pointer (some ⟨p, 0, none⟩), .int .i64 n, .int .i64 0, .int .i64 0, .int .i64 0] 64))
  obtain ⟨W1, hW1⟩ : ∃ W1, W1 = w.alloc (.cells #[.pointer (some ⟨p, 0, none⟩), .int .i64 n, .int .i64 0, .int .i64 0, .int .i64 0] 64) := ⟨_, rfl⟩
  rw [← hW1] at HX hA
  have hzW : W1.heap.size = w.heap.size + 1 := by rw [hW1]; simp
  have hng : ¬ own w.heap.size := fun h => by have := hup _ h; omega
  have HL := Lib.hid (load_zero_c W1 w.heap.size p n k m segs own tb tf htb hrd HX.out (hd.below hA.out) hng hn1 hn hk0 hk (fun e => absurd e (by simp)) hm hgd (fun W hW => hT.below (bn' hA.out hW)))
  have HUP := Lib.hid hup
  have HZW := Lib.hid hzW
  have e1 : decide ((n : Int) < 1) = false := by simp; omega
  have e2 : decide ((8 : Int) < (n : Int)) = false := by simp; omega
  have hpos : 0 < (flatS segs).length := by
    cases segs with
    | nil => exact absurd rfl hne
    | cons s r =>
      have := (hgd s (List.mem_cons_self ..)).2
      cases hs : s.1 with
      | nil => exact absurd hs this
      | cons e t => simp [flatS, hs]
  clear hne
  clear hd hT hgd hup hng hzW
  go_enter Tryz.func12, Tryz.ntmps12
  go_wp2_with fail
  rw [← hW1]
  clear hW1
  refine HL.out.mono ?_
  rintro e w2 ⟨v, xs, own2, rfl, ow2, hes, l2, d2, s2, ng2, no2⟩
  have hxl : 0 < xs.length := by have := congrArg List.length hes; rw [List.length_map] at this; omega
  obtain ⟨adx, capx, rfl, _, _⟩ := ow2.er
  have ex : ((xs.length : Int) == 0) = false := by simp; intro e; rw [e] at hxl; simp at hxl
  have HOW := Lib.hid ow2
  have HES := Lib.hid hes
  have HL2 := Lib.hid l2
  have HD2 := Lib.hid d2
  have HS2 := Lib.hid s2
  have HN2 := Lib.hid ng2
  have HNO := Lib.hid no2
  have HC := Lib.hid (clear_one_c w2 w.heap.size p n k m (lastZ segs) (segs.map segF) (tb, tf) own2 (by rw [List.length_map]; exact l2) d2 hn hk0 (by rw [List.length_map]; omega))
  clear ow2 hes l2 d2 s2 ng2 no2 HL hxl
  go_wp2_with fail
  refine HC.out.mono ?_
  rintro e w3 ⟨rfl, h3⟩
  have H3 := Lib.hid h3
  clear h3
  go_wp2
  go_ret3
  have hz := HZW.out
  have hst := Step.minus hA.out HUP.out (Nat.le_refl _) HS2.out
  have hlt2 := HL2.out.lt
  obtain ⟨own3, d3, s3⟩ := H3.out
  refine ⟨_, xs, own3, rfl, ?_, HES.out, HL2.out.turn s3.turn HN2.out, d3, hst.trans s3, s3.not HN2.out hlt2⟩
  rw [← hz]
  exact EK.step ⟨HOW.out, HNO.out⟩ s3

end Go.Proofs.YtjmkphnppegegaaGreatDoor
/-
  Open by contract: a new ledger, or none where there is no room.
-/
namespace Go.Proofs.YtjmkphnppegegaaGreatDoor
open Go.RowKit Go.Lib
set_option maxRecDepth 100000

theorem leB_refl : ∀ l : List Int, leB l l = true
  | [] => rfl
  | x :: t => by simp [leB, leB_refl t]
theorem zeros_may {n : Nat} (h1 : 1 ≤ n) (h8 : n ≤ 8) : mayE (baseE (List.replicate n 0) (List.replicate n 0)) n = true := by
  have e : mayB (List.replicate n 0) (n : Int) = true := by
    have : ∀ n : Fin 9, 1 ≤ n.val → mayB (List.replicate n.val 0) (n.val : Int) = true := by decide
    exact this ⟨n, by omega⟩ h1
  have z : blankR zeroR = true := (sameR_iff zeroR zeroR).2 rfl
  simp [mayE, baseE, e, leB_refl, z]
theorem Step.gTurn {w a b : World} {own own2 : Nat → Prop} {g : Nat} (h : Step w own a own2) (hg : w.heap.size ≤ g) (ht : Turn (fun i => i = g) a b) : Step w own b own2 :=
  ⟨⟨ht.os.trans h.turn.os, ht.tape.trans h.turn.tape, ht.output.trans h.turn.output, Nat.le_trans h.turn.size ht.size, fun i hi hn => (ht.block i (Nat.lt_of_lt_of_le hi h.turn.size) (fun e => by omega)).trans (h.turn.block i hi hn)⟩, h.sub, h.new⟩
theorem Step.minus2 {w a b : World} {own own2 own' : Nat → Prop} {g : Nat} (h : Step w own a own2) (hup : ∀ i, own i → i < w.heap.size) (hg : w.heap.size ≤ g) (k : Step a (plusB own2 g) b (plusB own' g)) : Step w own b own' := by
  refine ⟨⟨k.turn.os.trans h.turn.os, k.turn.tape.trans h.turn.tape, k.turn.output.trans h.turn.output, Nat.le_trans h.turn.size k.turn.size, fun i hi ho => ?_⟩, fun i hi => ?_, fun i hi => ?_⟩
  · refine (k.turn.block i (Nat.lt_of_lt_of_le hi h.turn.size) (fun q => ?_)).trans (h.turn.block i hi ho)
    rcases q with q | q
    · rcases h.new i q with q | q
      · exact ho q
      · omega
    · omega
  · rcases k.sub i (.inl (h.sub i hi)) with q | q
    · exact q
    · have := hup i hi
      omega
  · rcases k.new i (.inl hi) with (q | q) | q
    · exact h.new i q
    · exact .inr (by omega)
    · exact .inr (Nat.le_trans h.turn.size q)
theorem Step.grown {w a b : World} {own own2 : Nat → Prop} {r : Option Nat} (h : Step w own a own2) (hg : a.grownBy b r) (hr : ∀ x, r = some x → w.heap.size ≤ x) : Step w own b own2 := ⟨h.turn.grown hg hr, h.sub, h.new⟩
theorem EOwn.snoc {w w1 : World} {B C C' : Nat} {v v' : Value} {l : List Ev} (h : EOwn w B v l) (x : Ev) (ha : Row w C x.a x.e.v) (hb : Row w C' x.b x.e.w) (hB : B ≤ C) (hB' : B ≤ C') (hap : apart x.a x.b) (hl : ∀ u ∈ flat l, ∀ g, u.ownBlock = some g → g < C ∧ g < C') (hr : ERow w1 B v' (l ++ [x])) (hg : w.grownBy w1 v.ownBlock) : EOwn w1 B v' (l ++ [x]) := by
  have far : ∀ {a : Value} {xs : List Int} {B' : Nat}, Row w B' a xs → Row w1 B' a xs := fun {a xs B'} ha => ha.far hg (by
    rintro g hg' g' hg'' rfl
    exact tags_apart h.row ha g hg' hg'')
  refine ⟨hr, fun y hy => ?_, ?_⟩
  · rcases List.mem_append.1 hy with hy | hy
    · exact ⟨far (h.rows y hy).1, far (h.rows y hy).2⟩
    · rw [List.mem_singleton] at hy
      subst hy
      exact ⟨(far ha).mono hB, (far hb).mono hB'⟩
  · rw [flat_app, List.pairwise_append]
    refine ⟨h.pw, ?_, fun a hm b hb2 g hg1 hg2 => ?_⟩
    · simp only [flat, List.pairwise_cons, List.mem_singleton, forall_eq, List.not_mem_nil, false_imp_iff, implies_true, List.Pairwise.nil, and_true]
      exact hap
    · have h1 := hl a hm g hg1
      simp only [flat, List.mem_cons, List.not_mem_nil, or_false] at hb2
      rcases hb2 with rfl | rfl
      · have := (World.ownsRow.lt ha g hg2).1; omega
      · have := (World.ownsRow.lt hb g hg2).1; omega
theorem Row.turn {w w' : World} {B : Nat} {v : Value} {l : List Int} {S : Nat → Prop} (h : Row w B v l) (ht : Turn S w w') (hn : ∀ g, v.ownBlock = some g → ¬ S g) : Row w' B v l := ownsRow_of_block h (fun g hg => ht.block g (World.ownsRow.lt h g hg).2 (hn g hg))

set_option maxHeartbeats 8000000 in
theorem open_new_c (w : World) (p n m : Nat) (own : Nat → Prop) (d : En) (hde : d = baseE (List.replicate n 0) (List.replicate n 0)) (hd : Dr w p [] m own) (hn1 : 1 ≤ n) (hn : n ≤ 8) (hm : m ≤ 100000) (hT : ∀ W own', Step w own W own' → Tabs W) :
    Calls Tryz.prog 12 #[.pointer (some ⟨p, 0, none⟩), .int .i64 (n : Int)] w fun x w' =>
      ((layE d).length ≤ m → openT w p n 1 m 1 ((layE d).length : Int) [(layE d, (layE d).length)] own [d] x w') ∧ (m < (layE d).length → x = .returned (.tuple #[.pointer none, .slice none 0 0, .int .i64 8]) ∧ ∃ own', Dr w' p [] m own' ∧ Step w own w' own') := by
  have hup : ∀ i, own i → i < w.heap.size := fun i hi => hd.up hi
  have HX := Lib.hid (Bx.new 64 w #[.pointer (some ⟨p, 0, none⟩), .int .i64 n, .int .i64 0, .int .i64 0, .int .i64 0])
  have hA := Lib.hid (alloc_below w (.cells #[.pointer (some ⟨p, 0, none⟩), .int .i64 n, .int .i64 0, .int .i64 0, .int .i64 0] 64))
  obtain ⟨W1, hW1⟩ : ∃ W1, W1 = w.alloc (.cells #[.pointer (some ⟨p, 0, none⟩), .int .i64 n, .int .i64 0, .int .i64 0, .int .i64 0] 64) := ⟨_, rfl⟩
  rw [← hW1] at HX hA
  have hzW : W1.heap.size = w.heap.size + 1 := by rw [hW1]; simp
  have hng : ¬ own w.heap.size := fun h => by have := hup _ h; omega
  have hsm : someE d = true := by rw [hde]; exact mayE_some (zeros_may hn1 hn)
  have HL := Lib.hid (load_end_c W1 w.heap.size p n 1 m [] own HX.out (hd.below hA.out) hng hn1 hn (by omega) (by simp) (fun _ => rfl) hm (fun s hs => by cases hs) (fun W hW => hT W own (.ofBelow (bn' hA.out hW))))
  have HUP := Lib.hid hup
  have HZW := Lib.hid hzW
  have HT := Lib.hid hT
  have HSM := Lib.hid hsm
  have e1 : decide ((n : Int) < 1) = false := by simp; omega
  have e2 : decide ((8 : Int) < (n : Int)) = false := by simp; omega
  obtain ⟨Zs, hZs⟩ : ∃ Zs, Zs = List.replicate n (0 : Int) := ⟨_, rfl⟩
  rw [← hZs] at hde
  have CZ : Hid (∀ W, Calls Tryz.prog 30 #[.int .i64 (n : Int)] W (rowT Zs W)) := Lib.hid (fun W => by rw [hZs]; exact zero_c n W hn1 hn)
  subst hde
  clear hd hT hup hng hzW hsm hZs
  go_enter Tryz.func12, Tryz.ntmps12
  go_wp2_with fail
  rw [← hW1]
  clear hW1
  refine HL.out.mono ?_
  rintro e w2 ⟨v, xs, own2, rfl, ow2, hes, l2, d2, s2, ng2, no2⟩
  obtain rfl : xs = [] := by
    cases xs with
    | nil => rfl
    | cons x t => simp [flatS] at hes
  have l2' : LB w2 w.heap.size p n 1 0 0 := l2
  have d2' : Dr w2 p [] m own2 := d2
  obtain ⟨adx, capx, hv, _, _⟩ := ow2.er
  rw [List.length_nil] at hv
  subst hv
  have HOW : Hid (EK w2 own2 W1.heap.size (.slice adx 0 capx) []) := Lib.hid ⟨ow2, no2⟩
  have HL2 := Lib.hid l2'
  have HD2 := Lib.hid d2'
  have HS2 := Lib.hid s2
  have HN2 := Lib.hid ng2
  have HST : Hid (Step w own w2 own2) := Lib.hid (Step.minus hA.out HUP.out (Nat.le_refl _) s2)
  have hlt2 := l2'.lt
  have HZ1 := Lib.hid (CZ.out w2)
  clear ow2 hes l2 d2 s2 ng2 no2 l2' d2' HL
  go_wp2_with fail
  refine HZ1.out.mono ?_
  rintro e w3 ⟨v1, rfl, r1, b3⟩
  have HZ2 := Lib.hid (CZ.out w3)
  have HB3 := Lib.hid b3
  have HR1 := Lib.hid r1
  obtain ⟨ad1, cap1, rfl, _⟩ := r1.nl.form
  clear b3 r1 HZ1
  go_wp2_with fail
  refine HZ2.out.mono ?_
  rintro e w4 ⟨v2, rfl, r2, b4⟩
  obtain ⟨ad2, cap2, rfl, _⟩ := r2.nl.form
  have s3 := HB3.out.size
  have s4 := b4.size
  have HB4 := Lib.hid (bn HB3.out b4)
  have HRA := Lib.hid (HR1.out.below b4)
  have HRB := Lib.hid r2
  have HAP : Hid (apart (.slice ad1 Zs.length cap1) (.slice ad2 Zs.length cap2)) := Lib.hid (fun y hy hy' => by have := (World.ownsRow.lt HR1.out y hy).2; have := (World.ownsRow.lt r2 y hy').1; omega)
  clear b4 r2 HR1 HZ2
  have HX5 := Lib.hid (Bx.new 43 w4 #[.int .i64 1, .slice ad1 Zs.length cap1, .slice ad2 Zs.length cap2, .int .i64 0, .int .i64 0, .int .i64 0, .int .i64 0, .string ⟨#[]⟩])
  have hA5 := Lib.hid (alloc_below w4 (.cells #[.int .i64 1, .slice ad1 Zs.length cap1, .slice ad2 Zs.length cap2, .int .i64 0, .int .i64 0, .int .i64 0, .int .i64 0, .string ⟨#[]⟩] 43))
  obtain ⟨W5, hW5⟩ : ∃ W5, W5 = w4.alloc (.cells #[.int .i64 1, .slice ad1 Zs.length cap1, .slice ad2 Zs.length cap2, .int .i64 0, .int .i64 0, .int .i64 0, .int .i64 0, .string ⟨#[]⟩] 43) := ⟨_, rfl⟩
  rw [← hW5] at HX5 hA5
  have hz5 : W5.heap.size = w4.heap.size + 1 := by rw [hW5]; simp
  have HB5 := Lib.hid (bn HB4.out hA5.out)
  have HRA5 := Lib.hid (HRA.out.below hA5.out)
  have HRB5 := Lib.hid (HRB.out.below hA5.out)
  have HST5 := Lib.hid (HST.out.trans (Step.ofBelow HB5.out))
  have hglt := Lib.hid hlt2
  have HRD : Hid ((∀ W, Turn (fun i => i = w.heap.size) W5 W → Nl W (.slice ad1 Zs.length cap1) Zs) ∧ (∀ W, Turn (fun i => i = w.heap.size) W5 W → Nl W (.slice ad2 Zs.length cap2) Zs)) := Lib.hid
    ⟨fun W hW => (HRA5.out.turn hW (fun y hy e => by have := (World.ownsRow.lt HRA5.out y hy).1; omega)).nl, fun W hW => (HRB5.out.turn hW (fun y hy e => by have := (World.ownsRow.lt HRB5.out y hy).1; omega)).nl⟩
  have HBG := Lib.hid (begin_c W5 w.heap.size p n m 1 0 own2 (baseE Zs Zs) (.slice ad1 Zs.length cap1) (.slice ad2 Zs.length cap2) (HL2.out.below HB5.out) (HD2.out.below HB5.out) HN2.out hn HRD.out.1 HRD.out.2 HSM.out (by omega) (fun W hW => HT.out W own2 (HST5.out.gTurn (Nat.le_refl _) hW)))
  obtain ⟨p0, p1, p2, p3, p4, p5, p6, p7⟩ := HX5.out.eight
  have hlx5 := HX5.out.lt
  by_cases hf : (layE (baseE Zs Zs)).length ≤ m
  · have HB0 : Hid (Calls Tryz.prog 31 #[.pointer (some ⟨w.heap.size, 0, none⟩), .agg #[.int .i64 1, .slice ad1 Zs.length cap1, .slice ad2 Zs.length cap2, .int .i64 0, .int .i64 0, .int .i64 0, .int .i64 0, .string ⟨#[]⟩]] W5 fun x w' => x = .returned (.int .i64 0) ∧ ∃ own', Dr w' p (filesN n 1 [(layE (baseE Zs Zs), (layE (baseE Zs Zs)).length)]) m own' ∧ Step W5 (plusB own2 w.heap.size) w' (plusB own' w.heap.size) ∧ ¬ own' w.heap.size ∧ LB w' w.heap.size p n 1 1 ((layE (baseE Zs Zs)).length : Int)) := Lib.hid (HBG.out.mono (fun e w' hh => hh.1 hf))
    generalize hLE : layE (baseE Zs Zs) = LE at HB0 hf ⊢
    have HLE := Lib.hid hLE
    clear HBG HRD hLE
    go_wp2_with fail
    rw [← hW5]
    clear hW5
    refine HB0.out.mono ?_
    rintro e w6 ⟨rfl, own6, d6, s6, n6, l6⟩
    have hup6 : ∀ y, w2.heap.size ≤ y → y < W5.heap.size → w.heap.size < y → ¬ plusB own2 w.heap.size y := fun y h1 _ h3 k => by
      rcases k with k | k
      · have := HD2.out.up k; omega
      · omega
    have x6 : Bx 43 w6 w4.heap.size _ := (s6.turn.block _ hlx5 (hup6 _ (by omega) hlx5 (by omega))).trans HX5.out
    have hlx6 := x6.lt
    clear p0 p1 p2 p3 p4 p5 p6 p7
    obtain ⟨p0, p1, p2, p3, p4, p5, p6, p7⟩ := x6.eight
    have ra6 : Row w6 w2.heap.size (.slice ad1 Zs.length cap1) Zs := HRA5.out.turn s6.turn (fun y hy => by have := World.ownsRow.lt HRA5.out y hy; exact hup6 y (by omega) this.2 (by omega))
    have rb6 : Row w6 w3.heap.size (.slice ad2 Zs.length cap2) Zs := HRB5.out.turn s6.turn (fun y hy => by have := World.ownsRow.lt HRB5.out y hy; exact hup6 y (by omega) this.2 (by omega))
    have hzW := HZW.out
    have ow5 : EOwn W5 W1.heap.size (.slice adx 0 capx) [] := HOW.out.1.below HB5.out
    have ek6 : EK w6 (plusB own6 w.heap.size) W1.heap.size (.slice adx 0 capx) [] := EK.step ⟨ow5, fun y hy k => by
      have := (ow5.lt.1 y hy).1
      rcases k with k | k
      · exact HOW.out.2.1 y hy k
      · omega, fun u hu => by cases hu⟩ s6
    have hal := alloc_below w6 (.cells #[.int .i64 1, .slice ad1 Zs.length cap1, .slice ad2 Zs.length cap2, .int .i64 0, .int .i64 0, .int .i64 0, .int .i64 0, .string ⟨#[]⟩] 43)
    have er7 := Er.one w6 ⟨baseE Zs Zs, .slice ad1 Zs.length cap1, .slice ad2 Zs.length cap2⟩ 43 ra6.nl rb6.nl
    obtain ⟨W7, hW7⟩ : ∃ W7, W7 = w6.alloc (.cells #[.int .i64 1, .slice ad1 Zs.length cap1, .slice ad2 Zs.length cap2, .int .i64 0, .int .i64 0, .int .i64 0, .int .i64 0, .string ⟨#[]⟩] 43) := ⟨_, rfl⟩
    have er7' : Er W7 (.slice (some ⟨w6.heap.size, 0, none⟩) 1 1) [⟨baseE Zs Zs, .slice ad1 Zs.length cap1, .slice ad2 Zs.length cap2⟩] := by rw [hW7]; exact er7
    rw [← hW7] at hal
    have hz7 : W7.heap.size = w6.heap.size + 1 := by rw [hW7]; simp
    have s56 := s6.turn.size
    obtain ⟨A8, N8, C8, w8, run8, row8, g8, ob8⟩ := eapp_run [] [⟨baseE Zs Zs, .slice ad1 Zs.length cap1, .slice ad2 Zs.length cap2⟩] (.slice adx 0 capx) (.slice (some ⟨w6.heap.size, 0, none⟩) 1 1) W7 22 W1.heap.size (ek6.1.below hal).row er7' (by simp) (by omega)
    have hvb : ∀ y, (Value.slice adx 0 capx).ownBlock = some y → W1.heap.size ≤ y ∧ y < w6.heap.size := fun y hy => ek6.1.lt.1 y hy
    have ow8 := EOwn.snoc (ek6.1.below hal) ⟨baseE Zs Zs, .slice ad1 Zs.length cap1, .slice ad2 Zs.length cap2⟩ (ra6.below hal) (rb6.below hal) (by omega) (by omega) HAP.out (fun u hu => by cases hu) row8 g8
    have d8 : Dr w8 p (filesN n 1 [(LE, LE.length)]) m own6 := (d6.below hal).keep g8.size (fun y hy => g8.block y (by have := d6.up hy; omega) (fun e => ek6.2.1 y e.symm (.inl hy)))
    have l8 : LB w8 w.heap.size p n 1 1 (LE.length : Int) := Bx.far (l6.below hal) g8 (fun e => by have := (hvb _ e.symm).1; omega)
    have st6 : Step w own w6 own6 := HST5.out.minus2 HUP.out (Nat.le_refl _) s6
    have st8 : Step w own w8 own6 := (st6.trans (Step.ofBelow hal)).grown g8 (fun y hy => by have := (hvb y hy).1; omega)
    have no8 : noS own6 (.slice A8 N8 C8) ([] ++ [⟨baseE Zs Zs, .slice ad1 Zs.length cap1, .slice ad2 Zs.length cap2⟩]) := by
      refine ⟨fun y hy k => ?_, fun u hu y hy k => ?_⟩
      · rcases ob8 with e | e
        · rw [e] at hy
          exact ek6.2.1 y hy (.inl k)
        · rw [e] at hy
          have := d6.up k
          cases hy
          omega
      · simp only [List.nil_append, flat, List.mem_cons, List.not_mem_nil, or_false] at hu
        rcases hu with rfl | rfl
        · have h1 := World.ownsRow.lt HRA5.out y hy
          exact s6.not (hup6 y (by omega) h1.2 (by omega)) h1.2 (.inl k)
        · have h1 := World.ownsRow.lt HRB5.out y hy
          exact s6.not (hup6 y (by omega) h1.2 (by omega)) h1.2 (.inl k)
    have HCL := Lib.hid (clear_no_c w8 w.heap.size p n 1 m (LE.length : Int) [(LE, LE.length)] own6 (by exact l8) d8 hn (by omega) (by simp))
    have HR8 := Lib.hid run8
    have HOW8 := Lib.hid ow8
    have HD8 := Lib.hid d8
    have HL8 := Lib.hid l8
    have HS8 := Lib.hid st8
    have HN8 := Lib.hid no8
    have HN6 := Lib.hid n6
    clear d6 s6 n6 l6 x6 ra6 rb6 ow5 ek6 hal er7 er7' run8 row8 g8 ob8 hvb ow8 d8 l8 st6 st8 no8 hup6 HX5 HB0 HOW
    go_wp2_with (first | (at_builtin; rw [← hW7]; clear hW7; refine wpList_append_run rfl _ _ 22 rfl _ _ HR8.out ?_; clear HR8) | fail)
    refine HCL.out.mono ?_
    rintro e w9 ⟨rfl, b9⟩
    have HB9 := Lib.hid b9
    clear b9
    go_wp2
    go_ret3
    rw [HLE.out]
    refine ⟨fun _ => ⟨_, [] ++ [⟨baseE Zs Zs, .slice ad1 Zs.length cap1, .slice ad2 Zs.length cap2⟩], own6, rfl, ?_, rfl, HL8.out.below HB9.out, HD8.out.below HB9.out, HS8.out.trans (Step.ofBelow HB9.out), HN6.out⟩, fun hx => by omega⟩
    rw [← hzW]
    exact EK.below ⟨HOW8.out, HN8.out⟩ HB9.out
  · have HB0 : Hid (Calls Tryz.prog 31 #[.pointer (some ⟨w.heap.size, 0, none⟩), .agg #[.int .i64 1, .slice ad1 Zs.length cap1, .slice ad2 Zs.length cap2, .int .i64 0, .int .i64 0, .int .i64 0, .int .i64 0, .string ⟨#[]⟩]] W5 fun x w' => x = .returned (.int .i64 8) ∧ Turn (fun i => i = w.heap.size) W5 w') := Lib.hid (HBG.out.mono (fun e w' hh => hh.2 (by omega)))
    generalize hLE : layE (baseE Zs Zs) = LE at hf ⊢
    have HLE := Lib.hid hLE
    clear HBG HRD hLE
    go_wp2_with fail
    rw [← hW5]
    clear hW5
    refine HB0.out.mono ?_
    rintro e w6 ⟨rfl, t6⟩
    have HT6 := Lib.hid t6
    clear t6
    go_wp2
    go_ret3
    rw [HLE.out]
    exact ⟨fun hx => by omega, fun _ => ⟨rfl, own2, (HD2.out.below HB5.out).far HT6.out (fun i hi => hi ▸ HN2.out), HST5.out.gTurn (Nat.le_refl _) HT6.out⟩⟩
end Go.Proofs.YtjmkphnppegegaaGreatDoor
