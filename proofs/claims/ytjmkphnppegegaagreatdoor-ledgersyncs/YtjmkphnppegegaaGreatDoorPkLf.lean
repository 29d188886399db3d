/-
  Two ledgers on two drives, and a list of numbers that is handed to both.
-/
import Derived.Test.YtjmkphnppegegaaGreatDoorPkLe
namespace Go.Proofs.YtjmkphnppegegaaGreatDoor
open Go.RowKit Go.Lib
set_option maxRecDepth 100000

structure Tw (w0 w : World) (z : Nat) (zl : List Int) (g p : Nat) (S : Lg) (own : Nat → Prop) (h q : Nat) (T : Lg) (own2 : Nat → Prop) : Prop where
  l1 : Led w g p 60000 S own
  l2 : Led w h q 60000 T own2
  g1 : Gr w0 w own
  g2 : ∀ i, own2 i → w0.heap.size ≤ i
  dj : ∀ i, plusB own g i → ¬ plusB own2 h i
  kz : Kz w (plusB own g) z zl
  kn : ¬ plusB own2 h z
  gg : w0.heap.size ≤ g
  hh : w0.heap.size ≤ h
section
variable {w0 w w' : World} {z : Nat} {zl : List Int} {g p h q : Nat} {S S' T : Lg} {own own' own2 : Nat → Prop}
theorem Tw.swap (k : Tw w0 w z zl g p S own h q T own2) : Tw w0 w z zl h q T own2 g p S own :=
  ⟨k.l2, k.l1, ⟨k.g1.bl, k.g2⟩, k.g1.ow, fun i hi hj => k.dj i hj hi, ⟨k.kz.bx, k.kn⟩, k.kz.no, k.hh, k.gg⟩
theorem Tw.step (k : Tw w0 w z zl g p S own h q T own2) (hs : Step w (plusB own g) w' (plusB own' g)) (l : Led w' g p 60000 S' own') : Tw w0 w' z zl g p S' own' h q T own2 := by
  refine ⟨l, k.l2.far hs.turn (fun i hi => ⟨fun o => k.dj i hi (.inl o), fun e => k.dj i hi (.inr e)⟩), k.g1.stepP k.gg hs, k.g2, fun i hi => ?_, k.kz.step hs, k.kn, k.gg, k.hh⟩
  rcases hs.new i hi with h1 | h1
  · exact k.dj i h1
  · rintro (o | rfl)
    · have := k.l2.dr.up o; omega
    · have := k.l2.lt; omega
theorem Tw.below (k : Tw w0 w z zl g p S own h q T own2) (hb : Below w.heap.size w w') : Tw w0 w' z zl g p S own h q T own2 := k.step (.ofBelow hb) (k.l1.below hb)
theorem Tw.opened (k : Tw w0 w z zl g p S own h q T own2) (hs : Step w own w' own') (l : Led w' w.heap.size p 60000 S' own') : Tw w0 w' z zl w.heap.size p S' own' h q T own2 := by
  have hz := k.kz.bx.lt
  have k1 : Kz w own z zl := ⟨k.kz.bx, fun o => k.kz.no (.inl o)⟩
  have k2 := k1.step hs
  refine ⟨l, k.l2.far hs.turn (fun i hi => ⟨fun o => k.dj i (.inl hi) (.inl o), fun e => k.dj i (.inl hi) (.inr e)⟩), k.g1.step hs, k.g2, fun i hi => ?_, ⟨k2.bx, ?_⟩, k.kn, k.g1.bl.size, k.hh⟩
  · rcases hi with hi | rfl
    · rcases hs.new i hi with h1 | h1
      · exact k.dj i (.inl h1)
      · rintro (o | rfl)
        · have := k.l2.dr.up o; omega
        · have := k.l2.lt; omega
    · rintro (o | e)
      · have := k.l2.dr.up o; omega
      · have := k.l2.lt; omega
  · rintro (o | e)
    · exact k2.no o
    · omega
theorem Tw.start {w0 wc wd we wf : World} {p q : Nat} {oc od oe og : Nat → Prop} {S T : Lg} {zl : List Int} (hc : Dr wc p [] 60000 oc) (oc0 : ∀ i, oc i → w0.heap.size ≤ i) (bc : Below w0.heap.size w0 wc) (od0 : ∀ i, od i → wc.heap.size ≤ i) (od1 : ∀ i, od i → i < wd.heap.size) (bd : Below wc.heap.size wc wd)
    (le : Led we wd.heap.size p 60000 S oe) (se : Step wd oc we oe) (lf : Led wf we.heap.size q 60000 T og) (sf : Step we od wf og) :
    Tw w0 (wf.alloc (.cells (zl.map fun x => Value.int .i64 x).toArray 3)) wf.heap.size zl wd.heap.size p S oe we.heap.size q T og := by
  have s1 := bc.size
  have s2 := bd.size
  have s3 := le.lt
  have s4 := lf.lt
  have hal := alloc_below wf (.cells (zl.map fun x => Value.int .i64 x).toArray 3)
  have fe : ∀ i, oe i → i < we.heap.size := fun i o => le.dr.up o
  have ff : ∀ i, og i → i < wf.heap.size := fun i o => lf.dr.up o
  have ne : ∀ i, oe i → ¬ og i ∧ ¬ od i := fun i o => by
    have hod : ¬ od i := fun k => by
      have h1 := od0 i k
      have h2 := od1 i k
      rcases se.new i o with h3 | h3
      · have := hc.up h3; omega
      · omega
    refine ⟨fun k => ?_, hod⟩
    rcases sf.new i k with h3 | h3
    · exact hod h3
    · have := fe i o; omega
  have ng : ¬ og wd.heap.size ∧ ¬ od wd.heap.size := by
    have hod : ¬ od wd.heap.size := fun k => by have := od1 _ k; omega
    exact ⟨fun k => by
      rcases sf.new _ k with h3 | h3
      · exact hod h3
      · omega, hod⟩
  have le' := le.far sf.turn (fun i hi => ⟨fun o => (ne i o).2 hi, fun e => ng.2 (e ▸ hi)⟩)
  have b2 : Below w0.heap.size w0 wd := bn bc bd
  have G1 : Gr w0 wd oc := ⟨b2, oc0⟩
  have G2 := G1.step se
  have G3 : Gr w0 we od := ⟨G2.bl, fun i k => by have := od0 i k; omega⟩
  have G4 := G3.step sf
  refine ⟨le'.below hal, lf.below hal, ⟨bn G4.bl hal, G2.ow⟩, G4.ow, fun i hi hj => ?_, ⟨Bx.new _ _ _, ?_⟩, ?_, by omega, by omega⟩
  · rcases hi with hi | rfl
    · rcases hj with hj | rfl
      · exact (ne i hi).1 hj
      · have := fe _ hi; omega
    · rcases hj with hj | e
      · exact ng.1 hj
      · omega
  · rintro (o | e)
    · have := fe _ o; omega
    · omega
  · rintro (o | e)
    · have := ff _ o; omega
    · omega
theorem Tw.write (k : Tw w0 w z zl g p S own h q T own2) {n : Nat} {all : List En} {f : Nat} (hc : Cs n S all f) (hl : all.length ≤ 40) (x : Ev) (ha : Nl w0 x.a x.e.v) (hb : Nl w0 x.b x.e.w) (hT : Tabs w0) (hk : x.e.k ≠ 1) (hm : mayE x.e n = true) (hz : mayE (baseE zl zl) n = true) :
    Calls Tryz.prog 17 #[.pointer (some ⟨g, 0, none⟩), .agg #[.int .i64 x.e.k, x.a, x.b, .int .i64 x.e.r.o, .int .i64 x.e.r.s, .int .i64 x.e.r.w, .int .i64 x.e.r.c, .string x.e.r.t], .slice (some ⟨z, 0, none⟩) zl.length zl.length, .slice (some ⟨z, 0, none⟩) zl.length zl.length] w fun e w' => e = .returned (.int .i64 0) ∧ ∃ own', Tw w0 w' z zl g p (S.write x.e zl zl) own' h q T own2 := by
  have hA := hc.A
  have hk1 := hc.k
  have hus := hc.us
  have hn := hc.n
  have had := adds_le (S := S) (mayE_some hm) (mayE_some hz)
  refine (write_S k.l1 x.e x.a x.b _ _ zl zl (ha.below k.g1.bl) (hb.below k.g1.bl) k.kz.nl k.kz.nl (k.g1.tabs hT) hk (by rw [hn]; exact hm) (by rw [hn]; exact hz) (by omega)).mono ?_
  intro e w' hh
  obtain ⟨h1, own', h2, h3⟩ := hh.1 (by omega)
  exact ⟨h1, own', k.step h3 h2⟩
theorem Tw.sync (k : Tw w0 w z zl g p S own h q T own2) : Calls Tryz.prog 19 #[.pointer (some ⟨g, 0, none⟩)] w fun e w' => e = .returned (.int .i64 0) ∧ ∃ own', Tw w0 w' z zl g p S.sync own' h q T own2 := by
  refine (sync_S k.l1).mono ?_
  rintro e w' ⟨rfl, own', h2, h3⟩
  exact ⟨rfl, own', k.step (h3.plus g) h2⟩
theorem Tw.openC (k : Tw w0 w z zl g p S own h q T own2) (hT : Tabs w0) : Calls Tryz.prog 12 #[.pointer (some ⟨p, 0, none⟩), .int .i64 (S.n : Int)] w fun e w' => ∃ v xs own', e = .returned (.tuple #[.pointer (some ⟨w.heap.size, 0, none⟩), v, .int .i64 0]) ∧ EK w' own' (w.heap.size + 1) v xs ∧ xs.map Ev.e = S.all ∧ Tw w0 w' z zl w.heap.size p S own' h q T own2 ∧ Step w own w' own' := by
  refine (open_S k.l1.dr k.l1.ok (by omega) (k.g1.tabs hT)).mono ?_
  rintro e w' ⟨v, xs, own', h1, h2, h3, h4, h5⟩
  exact ⟨v, xs, own', h1, h2, h3, k.opened h5 h4, h5⟩
end
/-- Two ledgers that hold the same, however much of it is synced. -/
structure Lk (S T : Lg) : Prop where
  n : S.n = T.n
  k : S.k = T.k
  A : S.A = T.A
  L : S.L = T.L
theorem Lk.refl (S : Lg) : Lk S S := ⟨rfl, rfl, rfl, rfl⟩
theorem Lk.write {S T : Lg} (h : Lk S T) (e : En) (v w : List Int) : Lk (S.write e v w) (T.write e v w) := by
  obtain ⟨n, k, A, L, y⟩ := S
  obtain ⟨n', k', A', L', y'⟩ := T
  obtain ⟨rfl, rfl, rfl, rfl⟩ := h
  unfold Lg.write
  simp only
  split
  · exact ⟨rfl, rfl, rfl, rfl⟩
  · exact ⟨rfl, rfl, rfl, rfl⟩
theorem Lk.sync {S T : Lg} (h : Lk S T) : Lk S.sync T := ⟨h.n, h.k, h.A, h.L⟩
theorem Lk.sync2 {S T : Lg} (h : Lk S T) : Lk S T.sync := ⟨h.n, h.k, h.A, h.L⟩
theorem Lk.all {S T : Lg} (h : Lk S T) : S.all = T.all := by unfold Lg.all; rw [h.A, h.L]
end Go.Proofs.YtjmkphnppegegaaGreatDoor
