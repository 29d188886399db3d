/-
  Keys and lists of places in memory: read, rows of one's own.
-/
import Derived.Test.YtgdajnjfkokmdaaPstBase
import Derived.Test.YtgdajnjfkokmdaaPstMath
import Derived.Laws.StructEq
namespace Go.Proofs.Ytgdajnjfkokmdaa
open Go.RowKit Go.Lib

def Bx (T : TypeId) (w : World) (g : Nat) (cs : Array Value) : Prop := w.heap[g]? = some (.cells cs T (0, 0))
theorem Bx.new (T : TypeId) (w : World) (cs : Array Value) : Bx T (w.alloc (.cells cs T (0, 0))) w.heap.size cs := heap_alloc_new w _
theorem Bx.cell {T : TypeId} {w : World} {g : Nat} {cs : Array Value} (h : Bx T w g cs) (k : Nat) : w.cell? ⟨g, k, none⟩ = cs[k]? := cell_of_row w g k _ _ _ h
theorem Bx.lt {T : TypeId} {w : World} {g : Nat} {cs : Array Value} (h : Bx T w g cs) : g < w.heap.size := (Array.getElem?_eq_some_iff.1 h).1
theorem Bx.below {T : TypeId} {w w' : World} {g : Nat} {cs : Array Value} (h : Bx T w g cs) (hb : Below w.heap.size w w') : Bx T w' g cs := (hb.block g h.lt).trans h
theorem bn {w a b : World} (h : Below w.heap.size w a) (k : Below a.heap.size a b) : Below w.heap.size w b := h.trans (k.mono h.size)
/-- The cells of Keys. -/
def cs2 : List Ky → List Value
  | [] => []
  | k :: r => .int .i64 k.1 :: .int .i64 k.2 :: cs2 r
theorem cs2_len : ∀ l : List Ky, (cs2 l).length = l.length * 2
  | [] => rfl
  | k :: r => by simp only [cs2, List.length_cons, cs2_len r]; omega
theorem cs2_app : ∀ l m : List Ky, cs2 (l ++ m) = cs2 l ++ cs2 m
  | [], _ => rfl
  | k :: r, m => by simp only [cs2, List.cons_append, cs2_app r m]
theorem cs2_at : ∀ (l : List Ky) (k : Nat) (hk : k < l.length), (cs2 l)[k * 2]? = some (.int .i64 l[k].1) ∧ (cs2 l)[k * 2 + 1]? = some (.int .i64 l[k].2)
  | a :: r, 0, _ => ⟨rfl, rfl⟩
  | a :: r, k + 1, hk => by
    have h := cs2_at r k (by simpa using hk)
    rw [show (k + 1) * 2 = k * 2 + 1 + 1 by omega]
    simpa [cs2] using h
theorem cs2_one (l : List Ky) : ∀ u ∈ cs2 l, u.oneCell' = true := by
  induction l with
  | nil => intro u hu; cases hu
  | cons k r ih =>
    intro u hu
    simp only [cs2, List.mem_cons] at hu
    rcases hu with rfl | rfl | hu
    · rfl
    · rfl
    · exact ih u hu
/-- A list of Keys as it can be read. -/
def KAt (w : World) (b o : Nat) (k : Ky) : Prop := w.cell? ⟨b, o, none⟩ = some (.int .i64 k.1) ∧ w.cell? ⟨b, o + 1, none⟩ = some (.int .i64 k.2)
theorem KAt.below {w w' : World} {b o : Nat} {k : Ky} (h : KAt w b o k) (hb : Below w.heap.size w w') : KAt w' b o k :=
  ⟨(hb.cell (World.block_lt_of_cell? w _ h.1)).trans h.1, (hb.cell (World.block_lt_of_cell? w _ h.2)).trans h.2⟩
def KRd (w : World) (v : Value) (l : List Ky) : Prop :=
  ∃ ad cap, v = .slice ad l.length cap ∧ l.length ≤ cap ∧ (0 < l.length → ∃ b o, ad = some ⟨b, o, none⟩ ∧ ∀ k (hk : k < l.length), KAt w b (o + k * 2) l[k])
theorem KRd.below {w w' : World} {v : Value} {l : List Ky} (h : KRd w v l) (hb : Below w.heap.size w w') : KRd w' v l := by
  obtain ⟨ad, cap, h1, h2, h3⟩ := h
  exact ⟨ad, cap, h1, h2, fun h0 => by obtain ⟨b, o, e, hs⟩ := h3 h0; exact ⟨b, o, e, fun k hk => (hs k hk).below hb⟩⟩
def KRow (w : World) (B : Nat) (v : Value) (l : List Ky) : Prop := w.ownsRow B 34 2 v l.length (cs2 l)
theorem KRow.below {w w' : World} {B : Nat} {v : Value} {l : List Ky} (h : KRow w B v l) (hb : Below w.heap.size w w') : KRow w' B v l := own_below h hb
theorem KRow.nil (w : World) (B : Nat) : KRow w B (.slice none 0 0) [] := World.ownsRow_nil _ _ _ _
theorem KRow.rd {w : World} {B : Nat} {v : Value} {l : List Ky} (h : KRow w B v l) : KRd w v l := by
  rcases h.2 with ⟨rfl, h0⟩ | ⟨g, cap, cur, rfl, _, hh, hn, _, hsz, htake⟩
  · exact ⟨none, 0, by rw [h0], by omega, fun h => by omega⟩
  · refine ⟨_, cap, rfl, hn, fun _ => ⟨g, 0, rfl, fun k hk => ?_⟩⟩
    obtain ⟨c0, c1⟩ := cs2_at l k hk
    have f : ∀ t, t < l.length * 2 → w.cell? ⟨g, t, none⟩ = (cs2 l)[t]? := fun t ht => by
      rw [cell_of_row w g t _ _ _ hh, ← htake, List.getElem?_take_of_lt ht, Array.getElem?_toList]
    rw [Nat.zero_add]
    exact ⟨(f _ (by omega)).trans c0, (f _ (by omega)).trans c1⟩

/-- A Post as it lies: its Key, its places' slice, and what that holds. -/
structure Pv where
  o : Int
  s : Int
  a : Value
  ns : List Int
def Pv.p (x : Pv) : Po := ⟨(x.o, x.s), x.ns⟩
theorem Pv.p_k (x : Pv) : x.p.k = (x.o, x.s) := rfl
theorem Pv.p_ns (x : Pv) : x.p.ns = x.ns := rfl
def ps (l : List Pv) : List Po := l.map Pv.p
structure PAt (w : World) (b o : Nat) (x : Pv) : Prop where
  c0 : w.cell? ⟨b, o, none⟩ = some (.int .i64 x.o)
  c1 : w.cell? ⟨b, o + 1, none⟩ = some (.int .i64 x.s)
  c2 : w.cell? ⟨b, o + 2, none⟩ = some x.a
  nl : Nl w x.a x.ns
theorem PAt.below {w w' : World} {b o : Nat} {x : Pv} (h : PAt w b o x) (hb : Below w.heap.size w w') : PAt w' b o x :=
  ⟨(hb.cell (World.block_lt_of_cell? w _ h.c0)).trans h.c0, (hb.cell (World.block_lt_of_cell? w _ h.c1)).trans h.c1, (hb.cell (World.block_lt_of_cell? w _ h.c2)).trans h.c2, h.nl.below hb⟩
def PRd (w : World) (v : Value) (l : List Pv) : Prop :=
  ∃ ad cap, v = .slice ad l.length cap ∧ l.length ≤ cap ∧ (0 < l.length → ∃ b o, ad = some ⟨b, o, none⟩ ∧ ∀ k (hk : k < l.length), PAt w b (o + k * 3) l[k])
theorem PRd.below {w w' : World} {v : Value} {l : List Pv} (h : PRd w v l) (hb : Below w.heap.size w w') : PRd w' v l := by
  obtain ⟨ad, cap, h1, h2, h3⟩ := h
  exact ⟨ad, cap, h1, h2, fun h0 => by obtain ⟨b, o, e, hs⟩ := h3 h0; exact ⟨b, o, e, fun k hk => (hs k hk).below hb⟩⟩
/-- A list of lists of Posts: each with its slice. -/
structure Lv where
  v : Value
  l : List Pv
def pls (ls : List Lv) : List (List Po) := ls.map fun x => ps x.l
def LRd (w : World) (v : Value) (ls : List Lv) : Prop :=
  (∃ ad cap, v = .slice ad ls.length cap ∧ ls.length ≤ cap ∧ (0 < ls.length → ∃ b o, ad = some ⟨b, o, none⟩ ∧ ∀ k (hk : k < ls.length), w.cell? ⟨b, o + k, none⟩ = some ls[k].v)) ∧ ∀ x ∈ ls, PRd w x.v x.l
theorem LRd.below {w w' : World} {v : Value} {ls : List Lv} (h : LRd w v ls) (hb : Below w.heap.size w w') : LRd w' v ls := by
  obtain ⟨⟨ad, cap, h1, h2, h3⟩, h4⟩ := h
  exact ⟨⟨ad, cap, h1, h2, fun h0 => by obtain ⟨b, o, e, hs⟩ := h3 h0; exact ⟨b, o, e, fun k hk => (hb.cell (World.block_lt_of_cell? w _ (hs k hk))).trans (hs k hk)⟩⟩, fun x hx => (h4 x hx).below hb⟩
theorem eq_key (a b c d : Int) (w : World) : (Op.equalIn 10000 34 (.agg #[.int .i64 a, .int .i64 b]) (.agg #[.int .i64 c, .int .i64 d])).run Try.prog w = .ok (a == c && b == d) w := by
  have u3 := Try.underlying3
  have a3 := Try.isAgg3
  have z3 := Try.sizeOf3
  rw [show (10000 : Nat) = 9999 + 1 from rfl, run_equalIn_struct w 9999 34 _ _ (by kernel_rfl) (by kernel_rfl)]
  simp only [Program.fieldsOf, Try.underlying34]
  go_simp
  by_cases h1 : a = c <;> by_cases h2 : b = d <;> simp [h1, h2]
theorem below_two (w : World) (o o' : Obj) : Below w.heap.size w ((w.alloc o).alloc o') := ((Below.refl _ _).alloc (Nat.le_refl _) _).alloc (by simp) _
end Go.Proofs.Ytgdajnjfkokmdaa
