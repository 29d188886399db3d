/-
  Rows of Posts of one's own with their places; OverPosts, by contract.
-/
import Derived.Test.YtgdajnjfkokmdaaPstSame
namespace Go.Proofs.Ytgdajnjfkokmdaa
open Go.RowKit Go.Lib

theorem Bx.soft {T : TypeId} {w : World} {g : Nat} {cs : Array Value} (h : Bx T w g cs) (k : Nat) : w.frozen? ⟨g, k, none⟩ = false := by
  unfold Bx at h
  simp [World.frozen?, h]
theorem Bx.far {T : TypeId} {w w' : World} {g : Nat} {r : Option Nat} {cs : Array Value} (h : Bx T w g cs) (hg : w.grownBy w' r) (hne : some g ≠ r) : Bx T w' g cs := (hg.block g h.lt hne).trans h
theorem Bx.set {T : TypeId} {w : World} {g : Nat} {cs : Array Value} (h : Bx T w g cs) (k : Nat) (u : Value) : Bx T (w.setCell ⟨g, k, none⟩ u) g (cs.setIfInBounds k u) := by
  unfold Bx at h ⊢
  simp [World.setCell, Array.getElem?_modify, h]
/-- The cells of Posts. -/
def csP : List Pv → List Value
  | [] => []
  | x :: r => .int .i64 x.o :: .int .i64 x.s :: x.a :: csP r
theorem csP_len : ∀ l : List Pv, (csP l).length = l.length * 3
  | [] => rfl
  | x :: r => by simp only [csP, List.length_cons, csP_len r]; omega
theorem csP_app : ∀ l m : List Pv, csP (l ++ m) = csP l ++ csP m
  | [], _ => rfl
  | x :: r, m => by simp only [csP, List.cons_append, csP_app r m]
theorem csP_at : ∀ (l : List Pv) (k : Nat) (hk : k < l.length), (csP l)[k * 3]? = some (.int .i64 l[k].o) ∧ (csP l)[k * 3 + 1]? = some (.int .i64 l[k].s) ∧ (csP l)[k * 3 + 2]? = some l[k].a
  | a :: r, 0, _ => ⟨rfl, rfl, rfl⟩
  | a :: r, k + 1, hk => by
    have h := csP_at r k (by simpa using hk)
    rw [show (k + 1) * 3 = k * 3 + 1 + 1 + 1 by omega]
    simpa [csP] using h
def PRow (w : World) (B : Nat) (v : Value) (l : List Pv) : Prop := w.ownsRow B 37 3 v l.length (csP l)
theorem PRow.below {w w' : World} {B : Nat} {v : Value} {l : List Pv} (h : PRow w B v l) (hb : Below w.heap.size w w') : PRow w' B v l := own_below h hb
theorem PRow.nil (w : World) (B : Nat) : PRow w B (.slice none 0 0) [] := World.ownsRow_nil _ _ _ _
/-- A row of Posts of one's own, whose places can be read. -/
theorem PRow.rd {w : World} {B : Nat} {v : Value} {l : List Pv} (h : PRow w B v l) (hl : ∀ x ∈ l, Nl w x.a x.ns) : PRd w v l := by
  rcases h.2 with ⟨rfl, h0⟩ | ⟨g, cap, cur, rfl, _, hh, hn, _, hsz, htake⟩
  · exact ⟨none, 0, by rw [h0], by omega, fun h => by omega⟩
  · refine ⟨_, cap, rfl, hn, fun _ => ⟨g, 0, rfl, fun k hk => ?_⟩⟩
    obtain ⟨c0, c1, c2⟩ := csP_at l k hk
    have f : ∀ t, t < l.length * 3 → w.cell? ⟨g, t, none⟩ = (csP l)[t]? := fun t ht => by
      rw [cell_of_row w g t _ _ _ hh, ← htake, List.getElem?_take_of_lt ht, Array.getElem?_toList]
    rw [Nat.zero_add]
    exact ⟨(f _ (by omega)).trans c0, (f _ (by omega)).trans c1, (f _ (by omega)).trans c2, hl _ (List.getElem_mem hk)⟩
def apart (a b : Value) : Prop := ∀ g, a.ownBlock = some g → b.ownBlock ≠ some g
/-- With its places, all one's own. -/
structure POwn (w : World) (B : Nat) (v : Value) (l : List Pv) : Prop where
  row : PRow w B v l
  rows : ∀ x ∈ l, Row w B x.a x.ns
  pw : (l.map Pv.a).Pairwise apart
theorem POwn.below {w w' : World} {B : Nat} {v : Value} {l : List Pv} (h : POwn w B v l) (hb : Below w.heap.size w w') : POwn w' B v l := ⟨h.row.below hb, fun x hx => (h.rows x hx).below hb, h.pw⟩
theorem POwn.rd {w : World} {B : Nat} {v : Value} {l : List Pv} (h : POwn w B v l) : PRd w v l := h.row.rd fun x hx => (h.rows x hx).nl
theorem tag_bx {w : World} {B g : Nat} {cs : Array Value} {a : Value} {l : List Int} (hx : Bx 37 w g cs) (ha : Row w B a l) : a.ownBlock ≠ some g := fun hg' => by
  rcases ha.2 with ⟨rfl, _⟩ | ⟨g2, cap', cur', rfl, _, h2, _⟩
  · cases hg'
  · simp only [Value.ownBlock, Option.some.injEq] at hg'
    subst hg'
    unfold Bx at hx
    rw [hx] at h2
    simp only [Option.some.injEq, Obj.cells.injEq] at h2
    exact absurd h2.2.1 (by decide)
def set3 (w : World) (g o : Nat) (a b c : Value) : World := ((w.setCell ⟨g, o, none⟩ a).setCell ⟨g, o + 1, none⟩ b).setCell ⟨g, o + 2, none⟩ c
theorem below_set3 {W w : World} {B g : Nat} (h : Below B W w) (hg : B ≤ g) (o : Nat) (a b c : Value) : Below B W (set3 w g o a b c) :=
  ((h.setCell hg _).setCell hg _).setCell hg _
theorem heap_set3 (w : World) (g o : Nat) (a b c : Value) (p : Nat) (hp : p ≠ g) : (set3 w g o a b c).heap[p]? = w.heap[p]? := by
  unfold set3
  simp only [Below.heap_setCell _ _ _ p (show p ≠ (⟨g, _, none⟩ : Addr).block from hp)]
theorem grown_set3 (w : World) (g o : Nat) (a b c : Value) : w.grownBy (set3 w g o a b c) (some g) := by
  have h := below_set3 (Below.refl 0 w) (Nat.zero_le g) o a b c
  exact ⟨h.os, h.tape, h.output, h.size, fun p _ hne => heap_set3 w g o a b c p (by intro e; exact hne (by rw [e]))⟩
theorem row_set3 {w : World} {B g o : Nat} {v : Value} {l : List Int} (h : Row w B v l) (hg : v.ownBlock ≠ some g) (a b c : Value) : Row (set3 w g o a b c) B v l :=
  h.far (grown_set3 w g o a b c) (by rintro g' hg' g'' hg'' rfl; cases hg'; exact hg hg'')
structure OvAt (w : World) (B g : Nat) (l : List Pv) (k : Nat) : Prop where
  cells : ∃ cs, Bx 37 w g cs ∧ l.length * 3 ≤ cs.size ∧ ∀ j (hj : j < l.length), k ≤ j → cs[j * 3 + 2]? = some l[j].a
  rows : ∀ x ∈ l.drop k, Row w B x.a x.ns
  pw : ((l.drop k).map Pv.a).Pairwise apart
theorem bx_set3At {w : World} {g o : Nat} {cs : Array Value} (h : Bx 37 w g cs) (a b c : Value) : ∃ ds, Bx 37 (set3 w g o a b c) g ds ∧ ds.size = cs.size ∧ ∀ k, (k < o ∨ o + 3 ≤ k) → ds[k]? = cs[k]? := by
  refine ⟨_, ((h.set _ a).set _ b).set _ c, by simp, fun k hk => ?_⟩
  rw [Array.getElem?_setIfInBounds_ne (by omega), Array.getElem?_setIfInBounds_ne (by omega), Array.getElem?_setIfInBounds_ne (by omega)]
theorem POwn.ov {w : World} {B g cap : Nat} {l : List Pv} (h : POwn w B (.slice (some ⟨g, 0, none⟩) l.length cap) l) : OvAt w B g l 0 ∧ B ≤ g := by
  rcases h.row.2 with ⟨h1, _⟩ | ⟨g', cap', cur, h1, hg, hh, hn, _, hsz, htake⟩
  · cases h1
  · simp only [Value.slice.injEq, Option.some.injEq, Addr.mk.injEq] at h1
    obtain ⟨⟨rfl, _, _⟩, _, rfl⟩ := h1
    refine ⟨⟨⟨cur, hh, by rw [hsz]; exact Nat.mul_le_mul_right 3 hn, fun j hj _ => ?_⟩, fun x hx => h.rows x (by simpa using hx), by simpa using h.pw⟩, hg⟩
    obtain ⟨_, _, c2⟩ := csP_at l j hj
    have f : ∀ t, t < l.length * 3 → cur[t]? = (csP l)[t]? := fun t ht => by
      rw [← htake, List.getElem?_take_of_lt ht, Array.getElem?_toList]
    exact (f _ (by omega)).trans c2
set_option maxHeartbeats 8000000 in
theorem overp_c (l : List Pv) (v : Value) (w : World) (B : Nat) (h : POwn w B v l) (hn : l.length ≤ 1000000) (hv : ∀ x ∈ l, x.ns.length ≤ 1000000) (hB : B ≤ w.heap.size) :
    Calls Try.prog 27 #[v] w fun e w' => e = .returned (.tuple #[]) ∧ Below B w w' := by
  have HV := Lib.hid hv
  rcases h.row.2 with ⟨rfl, h0⟩ | ⟨g, cap, cur, rfl, hg, hh, hnn, _⟩
  · go_enter Try.func27, Try.ntmps27
    go_wp2
    go_loopw [2] (fun v2 wr => v2 = .int .i64 0 ∧ wr = w) (fun _ _ => 0)
    case atStart => exact ⟨rfl, rfl⟩
    case round =>
      obtain ⟨rfl, rfl⟩ := hrel
      go_wp2
      go_end0
      exact ⟨rfl, Below.refl _ _⟩
  · obtain ⟨ho, hBg⟩ := h.ov
    have HO := Lib.hid ho
    clear h ho hv hh hg hnn
    go_enter Try.func27, Try.ntmps27
    go_wp2
    go_loopw [2] (fun v2 wr => ∃ k : Nat, k ≤ l.length ∧ v2 = .int .i64 (k : Int) ∧ Hid (OvAt wr B g l k) ∧ Hid (Below B w wr)) (fun v2 _ => l.length - (RowKit.intOf v2).toNat)
    case atStart => exact ⟨0, by omega, rfl, HO, Lib.hid (Below.refl _ _)⟩
    case round =>
      obtain ⟨k, hk, rfl, HK, HB⟩ := hrel
      by_cases hp : k < l.length
      · obtain ⟨cs, hx, hsz, hat⟩ := HK.out.cells
        have hrows := HK.out.rows
        have hpw := HK.out.pw
        rw [List.drop_eq_getElem_cons hp] at hrows hpw
        have ca := hat k hp (Nat.le_refl _)
        have hv1 := HV.out l[k] (List.getElem_mem hp)
        have ra := hrows l[k] (List.mem_cons_self ..)
        have rest : ∀ x ∈ l.drop (k + 1), Row wr B x.a x.ns := fun x hx => hrows x (List.mem_cons_of_mem _ hx)
        simp only [List.map_cons, List.pairwise_cons] at hpw
        obtain ⟨pa, pr⟩ := hpw
        have HAT : Hid (∀ j (hj : j < l.length), k + 1 ≤ j → cs[j * 3 + 2]? = some l[j].a) := Lib.hid (fun j hj hkj => hat j hj (by omega))
        generalize l[k] = X at ca hv1 ra pa
        obtain ⟨xo, xs, A, ns⟩ := X
        simp only at ca hv1 ra pa
        have C1 := Lib.hid (over_c ns A wr B ra hv1 (Nat.le_trans hB HB.out.size))
        have HXr := Lib.hid hx
        have HRA := Lib.hid ra
        have HREST := Lib.hid rest
        have HPA := Lib.hid pa
        have HPR := Lib.hid pr
        have HSZ := Lib.hid hsz
        have c1 : wr.cell? ⟨g, k * 3 + 2, none⟩ = some A := (hx.cell _).trans ca
        have hgl := hx.lt
        obtain ⟨adA, capA, rfl, _⟩ := ra.nl.form
        have hpi : decide ((k : Int) < (l.length : Int)) = true := by simpa using hp
        clear hat hrows pa pr ra rest hx hsz
        go_wp2_with fail
        refine C1.out.mono ?_
        rintro e w3 ⟨rfl, g3⟩
        have hx3 := HXr.out.far g3 (fun e => tag_bx HXr.out HRA.out e.symm)
        have hb3 : Below B w w3 := HB.out.trans (below_of_grown g3 (Nat.le_trans hB HB.out.size) (fun i hi => (World.ownsRow.lt HRA.out i hi).1))
        have rest3 : ∀ x ∈ l.drop (k + 1), Row w3 B x.a x.ns := fun x hx =>
          (HREST.out x hx).far g3 (by rintro i hi i' hi' rfl; exact HPA.out x.a (List.mem_map_of_mem hx) i hi hi')
        have hsz := HSZ.out
        have ex : ∀ t, t < 3 → ∃ u, w3.cell? ⟨g, k * 3 + t, none⟩ = some u := fun t ht => ⟨cs[k * 3 + t]'(by omega), (hx3.cell _).trans (Array.getElem?_eq_getElem (by omega))⟩
        obtain ⟨y0, e0⟩ := ex 0 (by omega)
        rw [Nat.add_zero] at e0
        obtain ⟨y1, e1⟩ := ex 1 (by omega)
        obtain ⟨y2, e2⟩ := ex 2 (by omega)
        have s0 := hx3.soft (k * 3)
        have s1 := hx3.soft (k * 3 + 1)
        have s2 := hx3.soft (k * 3 + 2)
        have hgl3 := hx3.lt
        have HX3 := Lib.hid hx3
        have HB3 := Lib.hid hb3
        have HREST3 := Lib.hid rest3
        clear g3 hx3 hb3 rest3 ex c1 hsz
        have fin : Hid (OvAt (set3 w3 g (k * 3) (.int .i64 (-9)) (.int .i64 0) (.slice none 0 0)) B g l (k + 1)) := Lib.hid (by
          obtain ⟨ds, hd1, hd2, hd3⟩ := bx_set3At (o := k * 3) HX3.out (.int .i64 (-9)) (.int .i64 0) (.slice none 0 0)
          refine ⟨⟨ds, hd1, by rw [hd2]; exact HSZ.out, fun j hj hkj => ?_⟩, fun x hx => row_set3 (HREST3.out x hx) (tag_bx HX3.out (HREST3.out x hx)) _ _ _, HPR.out⟩
          rw [hd3 _ (.inr (by omega))]
          exact HAT.out j hj hkj)
        have finb : Hid (Below B w (set3 w3 g (k * 3) (.int .i64 (-9)) (.int .i64 0) (.slice none 0 0))) := Lib.hid (below_set3 HB3.out hBg _ _ _ _)
        go_wp2
        go_roundw
        case rel => exact ⟨k + 1, hp, by go_num, fin, finb⟩
        case measure => simp [RowKit.intOf]; omega
      · go_wp2
        go_end0
        exact ⟨rfl, HB.out⟩
end Go.Proofs.Ytgdajnjfkokmdaa
