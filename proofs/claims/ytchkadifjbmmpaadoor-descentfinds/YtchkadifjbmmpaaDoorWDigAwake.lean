/-
  awake, Low, by contract: what every program answers that is one.
-/
import Derived.Test.YtchkadifjbmmpaaDoorWDigRefAll
import Derived.Lib.SlBytesConst
namespace Go.Proofs.YtchkadifjbmmpaaDoor.D
open Go.RowKit Go.Lib

def lowT (m : Int) (w : World) (e : Ending) (w' : World) : Prop := ∃ r : Int, e = .returned (.int .i64 r) ∧ 0 ≤ r ∧ r < m ∧ w = w'

theorem low_c (x m : Int) (w : World) (hm : 0 < m) (hm2 : m ≤ 4294967296) : Calls Tryd.prog 26 #[.int .i64 x, .int .i64 m] w (lowT m w) := by
  have hne : (m == 0) = false := by simp; omega
  go_enter Tryd.func26, Tryd.ntmps26
  go_wp2
  go_ret
  have h1 : 0 ≤ IntKind.u64.wrap x := by rw [IntKind.wrap_u64]; omega
  have h2 := Int.tmod_nonneg m h1
  have h3 := Int.tmod_lt_of_pos (IntKind.u64.wrap x) hm
  generalize (IntKind.u64.wrap x).tmod m = r at h2 h3
  have e : wrap64 r = r := by unfold wrap64; omega
  exact ⟨r, by rw [← e]; simp only [e]; rfl, h2, h3, rfl⟩

theorem dl_two {T : TypeId} {w : World} {g cap : Nat} {x y : Int} (h : Bx T w g #[.int .u64 x, .int .u64 y]) : Dl w (.slice (some ⟨g, 0, none⟩) 2 cap) [x, y] :=
  ⟨some ⟨g, 0, none⟩, cap, rfl, fun _ => ⟨g, 0, rfl, fun k hk => by
    match k, hk with
    | 0, _ => rw [Nat.zero_add, h.cell 0]; rfl
    | 1, _ => rw [Nat.zero_add, h.cell 1]; rfl⟩⟩
theorem bl_one {T : TypeId} {w : World} {g cap : Nat} {x : Int} (h : Bx T w g #[.int .u8 x]) : Bl w (.slice (some ⟨g, 0, none⟩) 1 cap) [x] :=
  bl_of_box (l := [x]) h (fun k hk => by match k, hk with | 0, _ => rfl)

/-- A marked row of one byte, just laid. -/
theorem bl_marked (w : World) (T : TypeId) (fr : Nat × Nat) (cap : Nat) (x : Int) : Bl (w.alloc (.cells #[.int .u8 x] T fr)) (.slice (some ⟨w.heap.size, 0, none⟩) 1 cap) [x] :=
  .inr ⟨⟨w.heap.size, 0, none⟩, cap, rfl, fun _ => ⟨w.heap.size, 0, rfl, fun k hk => by
    match k, hk with
    | 0, _ => exact cell_of_row _ _ 0 _ _ _ (heap_alloc_new w _)⟩⟩
theorem pl_one_at {T : TypeId} {w : World} {g cap : Nat} {u : Value} {l : List Int} (hg : g = w.heap.size) (hu : Bl w u l) : Pl (w.alloc (.cells #[u] T (0, 0))) (.slice (some ⟨g, 0, none⟩) 1 cap) [l] := by
  subst hg
  exact pl_one (Bx.new T w _) (hu.below (alloc_below _ _))

theorem fnv_a : fnvs 14695981039346656037 [[97]] = 12638187200555641996 := by decide +kernel
theorem all_01 : (allD [0, 1] != 0) = true := by decide +kernel
end Go.Proofs.YtchkadifjbmmpaaDoor.D
