/-
  Boxes, bytes, pieces of them, appending, copying, comparing; what the laws share.
-/
import Derived.Test.YtmhmdnlkkpjdjaaDigBase
import Derived.Laws.BytesArg
import Derived.Lib.SliceRun
import Derived.Maps.OwnSet
import Derived.Maps.Ext
import Derived.Sort.KeysCollected
namespace Go.Proofs.Ytmhmdnlkkpjdjaa
open Go.RowKit Go.Lib


theorem alloc_below (w : World) (o : Obj) : Below w.heap.size w (w.alloc o) := (Below.refl _ _).alloc (Nat.le_refl _) _
/-- A box of one's own. -/
def Bx (T : TypeId) (w : World) (g : Nat) (cs : Array Value) : Prop := w.heap[g]? = some (.cells cs T (0, 0))
theorem Bx.lt {T : TypeId} {w : World} {g : Nat} {cs : Array Value} (h : Bx T w g cs) : g < w.heap.size := (Array.getElem?_eq_some_iff.1 h).1
theorem Bx.new (T : TypeId) (w : World) (cs : Array Value) : Bx T (w.alloc (.cells cs T (0, 0))) w.heap.size cs := heap_alloc_new w _
theorem Bx.cell {T : TypeId} {w : World} {g : Nat} {cs : Array Value} (h : Bx T w g cs) (k : Nat) : w.cell? ⟨g, k, none⟩ = cs[k]? := cell_of_row w g k _ _ _ h
theorem Bx.soft {T : TypeId} {w : World} {g : Nat} {cs : Array Value} (h : Bx T w g cs) (k : Nat) : w.frozen? ⟨g, k, none⟩ = false := by
  unfold Bx at h
  simp [World.frozen?, h]
theorem Bx.below {T : TypeId} {w w' : World} {g : Nat} {cs : Array Value} (h : Bx T w g cs) (hb : Below w.heap.size w w') : Bx T w' g cs := (hb.block g h.lt).trans h
theorem Bx.far {T : TypeId} {w w' : World} {g : Nat} {r : Option Nat} {cs : Array Value} (h : Bx T w g cs) (hg : w.grownBy w' r) (hne : some g ≠ r) : Bx T w' g cs := (hg.block g h.lt hne).trans h
theorem Bx.alloc {T : TypeId} {w : World} {g : Nat} {cs : Array Value} (h : Bx T w g cs) (o : Obj) : Bx T (w.alloc o) g cs := (Below.heap_alloc w o g h.lt).trans h
theorem Bx.set {T : TypeId} {w : World} {g : Nat} {cs : Array Value} (h : Bx T w g cs) (k : Nat) (u : Value) : Bx T (w.setCell ⟨g, k, none⟩ u) g (cs.setIfInBounds k u) := by
  unfold Bx at h ⊢
  simp [World.setCell, Array.getElem?_modify, h]
theorem Bx.setFar {T : TypeId} {w : World} {g : Nat} {cs : Array Value} (h : Bx T w g cs) {p : Addr} (hp : g ≠ p.block) (u : Value) : Bx T (w.setCell p u) g cs := (Below.heap_setCell w p u g hp).trans h
theorem alloc_below_of {B : Nat} {w : World} (h : B ≤ w.heap.size) (o : Obj) : Below B w (w.alloc o) := (Below.refl _ _).alloc h _
theorem bn {w a b : World} (h : Below w.heap.size w a) (k : Below a.heap.size a b) : Below w.heap.size w b := h.trans (k.mono h.size)
theorem bl_of_box {T : TypeId} {w : World} {g cap : Nat} {l : List Int} {cs : Array Value} (h : Bx T w g cs) (he : ∀ k (hk : k < l.length), cs[k]? = some (.int .u8 l[k])) : Bl w (.slice (some ⟨g, 0, none⟩) l.length cap) l :=
  .inr ⟨⟨g, 0, none⟩, cap, rfl, fun _ => ⟨g, 0, rfl, fun k hk => by rw [Nat.zero_add, h.cell k, he k hk]⟩⟩
def OkB (l : List Int) : Prop := ∀ x ∈ l, 0 ≤ x ∧ x < 256
theorem OkB.at {l : List Int} (h : OkB l) (k : Nat) (hk : k < l.length) : 0 ≤ l[k] ∧ l[k] < 256 := h _ (List.getElem_mem hk)
theorem OkB.take {l : List Int} (h : OkB l) (k : Nat) : OkB (l.take k) := fun x hx => h x (List.mem_of_mem_take hx)
theorem OkB.drop {l : List Int} (h : OkB l) (k : Nat) : OkB (l.drop k) := fun x hx => h x (List.mem_of_mem_drop hx)
theorem Byts.drop {w : World} {b o : Nat} {l : List Int} (h : Byts w b o l) (k : Nat) : Byts w b (o + k) (l.drop k) := fun j hj => by
  rw [List.length_drop] at hj
  have h1 := h (k + j) (by omega)
  rw [List.getElem_drop, Nat.add_assoc]
  exact h1
theorem Byts.take {w : World} {b o : Nat} {l : List Int} (h : Byts w b o l) (k : Nat) : Byts w b o (l.take k) := fun j hj => by
  rw [List.length_take] at hj
  have h1 := h j (by omega)
  rw [List.getElem_take]
  exact h1
theorem OkB.append {a b : List Int} (h : OkB a) (k : OkB b) : OkB (a ++ b) := fun x hx => by
  rcases List.mem_append.1 hx with hx | hx
  · exact h x hx
  · exact k x hx
/-- A piece of bytes holds the piece of them. -/
theorem bl_sliced {w : World} {ad : Option Addr} {cap : Nat} {l : List Int} (h : Bl w (.slice ad l.length cap) l) (hcap : l.length ≤ cap) (lo hi : Nat) (hlh : lo ≤ hi) (hhi : hi ≤ l.length) : Bl w (sliced ad lo hi cap 1) ((l.drop lo).take (hi - lo)) := by
  have hlen : ((l.drop lo).take (hi - lo)).length = hi - lo := by simp; omega
  have hlen2 : (List.take (hi - lo) (List.drop lo l)).length = hi - lo := hlen
  rcases h with ⟨e, rfl⟩ | ⟨a, c, e, h2⟩
  · simp only [Value.slice.injEq] at e
    obtain ⟨rfl, _, rfl⟩ := e
    simp at hhi
    subst hhi
    obtain rfl : lo = 0 := by omega
    exact .inl ⟨rfl, rfl⟩
  · simp only [Value.slice.injEq] at e
    obtain ⟨rfl, _, rfl⟩ := e
    refine .inr ⟨if cap = lo then a else a.add (lo * 1), cap - lo, ?_, fun h0 => ?_⟩
    · rw [hlen2]
      unfold sliced
      split <;> rfl
    · rw [hlen2] at h0
      obtain ⟨b, o, rfl, hs⟩ := h2 (by omega)
      by_cases hc : cap = lo
      · omega
      · rw [if_neg hc]
        refine ⟨b, o + lo, by rw [Nat.mul_one]; exact Go.WideShapes.add_plain .., fun k hk => ?_⟩
        rw [hlen2] at hk
        rw [List.getElem_take, List.getElem_drop, Nat.add_assoc]
        exact hs (lo + k) (by omega)
theorem slice_any_run (ad : Option Addr) (n cap : Nat) (lo hi : Option Value) (l h : Nat) (W : World) (hb : (Instr.sliceBounds true n cap lo hi none).run Try.prog W = .ok (l, h, cap) W) : (Instr.sliceAt 22 (.slice ad n cap) lo hi none).run Try.prog W = .ok (sliced ad l h cap 1) W := by
  have hs : (sizeOf 5).run Try.prog W = .ok 1 W := by
    simp [sizeOf]
    rfl
  rw [run_sliceAt_slice W _ _ _ _ _ Try.underlying22, run_slice_any W _ _ _ _ Try.underlying22, hb]
  simp only [Result.andThen]
  rw [show Try.prog.elem 22 = 5 by kernel_rfl, hs]
/-- Bytes with their room. -/
def Bc (w : World) (v : Value) (l : List Int) : Prop := Bl w v l ∧ ∃ ad cap, v = .slice ad l.length cap ∧ l.length ≤ cap
theorem Bc.below {w w' : World} {v : Value} {l : List Int} (h : Bc w v l) (hb : Below w.heap.size w w') : Bc w' v l := ⟨h.1.below hb, h.2⟩
theorem Bc.nil (w : World) : Bc w (.slice none 0 0) [] := ⟨.inl ⟨rfl, rfl⟩, none, 0, rfl, Nat.le_refl _⟩
theorem BRow.bc {w : World} {B : Nat} {v : Value} {l : List Int} (h : BRow w B v l) : Bc w v l := by
  refine ⟨h.nl, ?_⟩
  rcases h.2 with ⟨rfl, h0⟩ | ⟨g, cap, cur, rfl, _, _, hn, _⟩
  · exact ⟨none, 0, by rw [h0], by omega⟩
  · exact ⟨_, cap, rfl, hn⟩
/-- A piece, as a slice of letters. -/
theorem Bc.piece {w : World} {ad : Option Addr} {cap n : Nat} {l : List Int} (h : Bc w (.slice ad n cap) l) (lo hi : Nat) (hlh : lo ≤ hi) (hhi : hi ≤ l.length) :
    ∃ A C, sliced ad lo hi cap 1 = .slice A (hi - lo) C ∧ ∀ W, Bc W (.slice ad n cap) l → Bc W (.slice A (hi - lo) C) ((l.drop lo).take (hi - lo)) := by
  obtain ⟨h1, a2, c2, e, hc⟩ := h
  simp only [Value.slice.injEq] at e
  obtain ⟨rfl, rfl, rfl⟩ := e
  have hlen : ((l.drop lo).take (hi - lo)).length = hi - lo := by simp; omega
  exact ⟨_, _, rfl, fun W hW => ⟨bl_sliced hW.1 hc lo hi hlh hhi, _, _, by rw [hlen], by rw [hlen]; omega⟩⟩
/-- A piece of a slice, as a step whose answer is known. -/
theorem wpList_slice_run {P : Program} {w : World} {ops : Array Oper} {rest : List Oper} {o : Oper} {a : Act} {Q : Exit → Act → World → Prop} (hgd : o.guard = none) (t : TypeId) (s : Operand) (lo hi : Option Operand)
    (ho : o.op = .slice t s lo hi none) (v' : Value)
    (hr : (Instr.sliceAt t (a.eval s) (lo.map a.eval) (hi.map a.eval) none).run P w = .ok v' w) (h : wpList P ops Q rest (a.put o.dst v') w) : wpList P ops Q (o :: rest) a w :=
  wpList_plain hgd fun _ hK => by
    unfold Oper.wp execOp
    simp only [ho, Option.map_none, Sem.run_bind, Sem.run_pure, Result.andThen_ok, hr]
    exact hK _ _ h

/-- What is answered: a row of one's own. -/
def rowB (B : Nat) (l : List Int) (w : World) (e : Ending) (w' : World) : Prop := ∃ v, e = .returned v ∧ BRow w' B v l ∧ Below B w w'

theorem bapp_run (l m : List Int) (v u : Value) (w : World) (ty : TypeId) (B : Nat) (h : BRow w B v l) (hu : Bl w u m) (hn : l.length + m.length ≤ 2000000) (hB : B ≤ w.heap.size) :
    ∃ A N C w1, (Builtin.append_ #[22, 22] ty #[v, u]).run Try.prog w = .ok (.slice A N C) w1 ∧ BRow w1 B (.slice A N C) (l ++ m) ∧ Below B w w1 := by
  rcases hu with ⟨rfl, rfl⟩ | ⟨ad, cap, rfl, hu⟩
  · obtain ⟨a, c, rfl, hc⟩ := h.bc.2
    have hc' : ¬ c < l.length := by omega
    refine ⟨a, _, c, w, ?_, by rw [List.append_nil]; exact h, Below.refl _ _⟩
    cases a <;> simp [hc', Builtin.append_, go_sem, run_underlying Try.underlying22]
  · obtain ⟨i0, hi, hz0, hz1, hz2⟩ := info_parts byteInfo
    obtain ⟨v', w', h1, h2, h3, _, _⟩ := run_append_own_at (P := Try.prog) w B 22 ty 5 i0 (.int .u8 0) 1 1 Try.underlying22 hi hz0 hz1 hz2 rfl (by decide) v l.length (bys l) h ad m.length cap (bys m) (by rw [bys_len, Nat.mul_one]) (Bl.news hu) (bys_one m) (by unfold maxLen; omega) (by omega) hB
    have hr : BRow w' B v' (l ++ m) := by
      unfold BRow
      rw [List.length_append, show bys (l ++ m) = bys l ++ bys m by simp [bys]]
      exact h2
    obtain ⟨a, c, rfl, _⟩ := hr.nl.form
    exact ⟨a, _, c, w', h1, hr, below_of_grown h3 hB (fun g hg => (World.ownsRow.lt h g hg).1)⟩
theorem brow_empty (w : World) : (w.alloc (.cells #[] 5)).ownsRow w.heap.size 5 1 (.slice (some ⟨w.heap.size, 0, none⟩) 0 0) 0 [] :=
  ⟨rfl, .inr ⟨w.heap.size, 0, #[], rfl, Nat.le_refl _, heap_alloc_new w _, Nat.le_refl _, Nat.zero_le _, rfl, rfl⟩⟩
set_option maxHeartbeats 4000000 in
theorem clone_c (l : List Int) (v : Value) (w : World) (h : Bl w v l) (hn : l.length ≤ 2000000) : Calls Try.prog 26 #[v] w (rowB w.heap.size l w) := by
  rcases h with ⟨rfl, rfl⟩ | ⟨ad, cap, rfl, h⟩
  · have hq := fun W => Lib.run_eql_slice_nil (P := Try.prog) W 22 5 none 0 0 0 0 Try.underlying22
    go_enter Try.func26, Try.ntmps26
    go_wp2
    go_ret
    exact ⟨_, rfl, BRow.nil _ _, Below.refl _ _⟩
  · obtain ⟨i0, hi, hz0, hz1, hz2⟩ := info_parts byteInfo
    have HN : Hid (∀ i u, (bys l)[i]? = some u → (w.alloc (.cells #[] 5)).cell? (ad.add i) = some u) := Lib.hid (fun i u hu => by
      have h1 := Bl.news h i u hu
      exact (((Below.refl _ w).alloc (Nat.le_refl _) (.cells #[] 5)).cell (World.block_lt_of_cell? w _ h1)).trans h1)
    have HO := Lib.hid (brow_empty w)
    have hq := fun W => Lib.run_eql_slice_nil (P := Try.prog) W 22 5 (some ad) l.length cap 0 0 Try.underlying22
    clear h
    go_enter Try.func26, Try.ntmps26
    go_wp2_with (at_builtin; refine wpList_append_own _ rfl _ _ 22 rfl w.heap.size 5 i0 (.int .u8 0) 1 1 Try.underlying22 hi hz0 hz1 hz2 rfl (by decide) _ _ _ rfl HO.out ad l.length cap (bys l) rfl (by rw [bys_len, Nat.mul_one]) (by exact HN.out) (bys_one l) (by unfold maxLen; omega) (by omega) (by simp) ?_; intro v' w3 hown3 hgrow3 hnil3)
    go_ret
    refine ⟨_, rfl, by rw [Nat.zero_add, List.nil_append] at hown3; exact hown3, ?_⟩
    exact ((Below.refl _ w).alloc (Nat.le_refl _) _).trans (below_of_grown hgrow3 (by simp) (by intro g hg; cases hg; exact Nat.le_refl _))

def sameB : List Int → List Int → Bool
  | [], [] => true
  | x :: s, y :: t => (x == y) && sameB s t
  | _, _ => false
theorem sameB_iff : ∀ (a b : List Int), sameB a b = true ↔ a = b
  | [], [] => by simp [sameB]
  | x :: s, y :: t => by simp [sameB, sameB_iff s t]
  | [], _ :: _ => by simp [sameB]
  | _ :: _, [] => by simp [sameB]
theorem sameB_len : ∀ (a b : List Int), a.length ≠ b.length → sameB a b = false
  | [], [], h => by simp at h
  | x :: s, y :: t, h => by rw [sameB, sameB_len s t (by simpa using h), Bool.and_false]
  | [], _ :: _, _ => rfl
  | _ :: _, [], _ => rfl
theorem sameB_self (l : List Int) : sameB l l = true := (sameB_iff l l).2 rfl
def lowT (m : Int) (w : World) (e : Ending) (w' : World) : Prop := ∃ r : Int, e = .returned (.int .i64 r) ∧ 0 ≤ r ∧ r < m ∧ w = w'
theorem low_c (x m : Int) (w : World) (hm : 0 < m) (hm2 : m ≤ 4294967296) : Calls Try.prog 21 #[.int .i64 x, .int .i64 m] w (lowT m w) := by
  have hne : (m == 0) = false := by simp; omega
  go_enter Try.func21, Try.ntmps21
  go_wp2
  go_ret
  have h1 : 0 ≤ IntKind.u64.wrap x := by rw [IntKind.wrap_u64]; omega
  have h2 := Int.tmod_nonneg m h1
  have h3 := Int.tmod_lt_of_pos (IntKind.u64.wrap x) hm
  generalize (IntKind.u64.wrap x).tmod m = r at h2 h3
  have e : wrap64 r = r := by unfold wrap64; omega
  exact ⟨r, by rw [← e]; simp only [e]; rfl, h2, h3, rfl⟩
set_option maxHeartbeats 4000000 in
theorem bsame_c (l m : List Int) (v1 v2 : Value) (w : World) (h1 : Bl w v1 l) (h2 : Bl w v2 m) (hn : l.length ≤ 2000000) :
    Calls Try.prog 16 #[v1, v2] w fun e w' => e = .returned (.bool (sameB l m)) ∧ Below w.heap.size w w' := by
  obtain ⟨ad1, cap1, rfl, k1⟩ := h1.form
  obtain ⟨ad2, cap2, rfl, k2⟩ := h2.form
  have H1 := Lib.hid k1
  have H2 := Lib.hid k2
  clear h1 h2 k1 k2
  by_cases hl : l.length = m.length
  · have e0 : ((l.length : Int) != (m.length : Int)) = false := by simp [hl]
    have HL := Lib.hid hl
    clear hl
    go_enter Try.func16, Try.ntmps16
    go_wp2
    go_loopw [5] (fun v5 wr => ∃ k q : Nat, k ≤ l.length ∧ v5 = .int .i64 (k : Int) ∧ wr = w.drewN q ∧ Hid (sameB (l.drop k) (m.drop k) = sameB l m)) (fun v5 _ => l.length - (RowKit.intOf v5).toNat)
    case atStart => exact ⟨0, 0, by omega, rfl, rfl, Lib.hid rfl⟩
    case round =>
      obtain ⟨k, q, hk, rfl, rfl, hs⟩ := hrel
      by_cases hp : k < l.length
      · obtain ⟨g1, o1, rfl, c1⟩ := H1.out (by omega)
        have hpm : k < m.length := by have := HL.out; omega
        obtain ⟨g2, o2, rfl, c2⟩ := H2.out (by omega)
        have c11 := c1 k hp
        have c21 := c2 k hpm
        have hs' := hs.out
        rw [List.drop_eq_getElem_cons hp, List.drop_eq_getElem_cons hpm, sameB] at hs'
        clear c1 c2 H1 H2 hs
        generalize l[k] = x at c11 hs'
        generalize m[k] = y at c21 hs'
        by_cases hxy : x = y
        · have f1 : (x != y) = false := by simpa using hxy
          have f2 : (x == y) = true := by simpa using hxy
          rw [f2, Bool.true_and] at hs'
          have HS := Lib.hid hs'
          clear hs' hxy f2
          go_wp2
          go_quiet (fail)
          go_wp2
          go_roundw
          case rel => exact ⟨k + 1, q + nq, hp, by go_num, rfl, HS⟩
          case measure => simp [RowKit.intOf]; omega
        · have f1 : (x != y) = true := by simpa using hxy
          have f2 : (x == y) = false := by simpa using hxy
          rw [f2, Bool.false_and] at hs'
          have HS := Lib.hid hs'
          clear hs' hxy f2
          go_wp2
          go_quiet (fail)
          go_wp2
          go_ret
          exact ⟨by rw [← HS.out]; rfl, below_drewN (below_drewN (Below.refl _ _) q) nq⟩
      · have hs' := hs.out
        rw [List.drop_eq_nil_of_le (by omega), List.drop_eq_nil_of_le (by have := HL.out; omega), sameB] at hs'
        have HS := Lib.hid hs'
        clear hs' hs
        go_wp2
        go_ret
        exact ⟨by rw [← HS.out]; rfl, below_drewN (Below.refl _ _) q⟩
  · have e0 : ((l.length : Int) != (m.length : Int)) = true := by simp; omega
    rw [sameB_len l m hl]
    go_enter Try.func16, Try.ntmps16
    go_wp2
    go_ret
    exact ⟨rfl, Below.refl _ _⟩
end Go.Proofs.Ytmhmdnlkkpjdjaa
