/-
  LendRecords, KeptRecords, OverRecords, by contract.
-/
import Derived.Test.YtkmcieiglhdjeaaDoorVRecSortL
import Derived.ArgAppend
namespace Go.Proofs.YtkmcieiglhdjeaaDoor
open Go.RowKit Go.Lib

theorem cs5_app : ∀ a b : List Rc, cs5 (a ++ b) = cs5 a ++ cs5 b
  | [], _ => rfl
  | r :: t, b => by simp [cs5, cs5_app t b]
theorem set5 (P : List Value) (n : Nat) (hP : P.length = n) (a b c d e : Value) (t : List Value) (v0 v1 v2 v3 v4 : Value) :
    (((((P ++ (a :: b :: c :: d :: e :: t)).set n v0).set (n + 1) v1).set (n + 2) v2).set (n + 3) v3).set (n + 4) v4 = P ++ (v0 :: v1 :: v2 :: v3 :: v4 :: t) := by
  subst hP
  simp

/-- What room is marked with. -/
def room : Rc := ⟨0, 0, 0, 0, ⟨#[114, 111, 111, 109]⟩⟩
/-- The records l, lent: three marks lie behind them. -/
def RLent (w : World) (g : Nat) (l : List Rc) : Prop := w.ownsRow g 27 5 (.slice (some ⟨g, 0, none⟩) (l.length + 3) (l.length + 3)) (l.length + 3) (cs5 (l ++ [room, room, room]))
theorem RLent.below {w w' : World} {g : Nat} {l : List Rc} (h : RLent w g l) (hb : Below w.heap.size w w') : RLent w' g l := own_below h hb
theorem RLent.lt {w : World} {g : Nat} {l : List Rc} (h : RLent w g l) : g < w.heap.size := (World.ownsRow.lt h g rfl).2
theorem RLent.far {w w' : World} {g : Nat} {l : List Rc} {r : Option Nat} (h : RLent w g l) (hg : w.grownBy w' r) (hne : r ≠ some g) : RLent w' g l :=
  World.ownsRow.kept h hg (.inr (fun e => hne e.symm))
theorem RLent.recs {w : World} {g : Nat} {l : List Rc} (h : RLent w g l) : Recs w g 0 (l ++ [room, room, room]) := fun k hk => by
  have h1 := cs5_at (l ++ [room, room, room]) k hk
  have hl : (l ++ [room, room, room]).length = l.length + 3 := by simp
  have f : ∀ j, j < (l.length + 3) * 5 → w.cell? ⟨g, j, none⟩ = (cs5 (l ++ [room, room, room]))[j]? := fun j hj => World.ownsRow.cellAt h j hj
  rw [hl] at hk
  rw [Nat.zero_add]
  exact ⟨(f _ (by omega)).trans h1.1, (f _ (by omega)).trans h1.2.1, (f _ (by omega)).trans h1.2.2.1, (f _ (by omega)).trans h1.2.2.2.1, (f _ (by omega)).trans h1.2.2.2.2⟩
theorem RLent.rl {w : World} {g : Nat} {l : List Rc} (h : RLent w g l) : Rl w (.slice (some ⟨g, 0, none⟩) l.length (l.length + 3)) l :=
  .inr ⟨⟨g, 0, none⟩, l.length + 3, rfl, by omega, fun _ => ⟨g, 0, rfl, fun k hk => by
    have h1 := h.recs k (by simp; omega)
    rw [List.getElem_append_left hk] at h1
    exact h1⟩⟩

/-- A row with its room. -/
theorem rrow_whole {w : World} {B g n cap : Nat} {xs : List Value} (h : w.ownsRow B 27 5 (.slice (some ⟨g, 0, none⟩) n cap) n xs) : ∃ zs, zs.length = (cap - n) * 5 ∧ w.ownsRow B 27 5 (.slice (some ⟨g, 0, none⟩) cap cap) cap (xs ++ zs) := by
  obtain ⟨h1, h2⟩ := h
  rcases h2 with ⟨h0, _⟩ | ⟨g', cap', cur, hv, hg, hh, hn, hcap, hsz, htake⟩
  · cases h0
  · cases hv
    refine ⟨cur.toList.drop (n * 5), by simp; omega, ?_, .inr ⟨g, cap, cur, rfl, hg, hh, Nat.le_refl _, hcap, hsz, ?_⟩⟩
    · simp [h1]; omega
    · rw [List.take_of_length_le (by simp; omega), ← htake, List.take_append_drop]

theorem rlend_set (l : List Rc) (k : Nat) (zs : List Value) (h : zs.length = (3 - k) * 5) (hk : k < 3) :
    ∃ zs', zs'.length = (3 - (k + 1)) * 5 ∧ (((((cs5 l ++ (cs5 (List.replicate k room) ++ zs)).set (l.length * 5 + k * 5) (.int .i64 0)).set (l.length * 5 + k * 5 + 1) (.int .i64 0)).set (l.length * 5 + k * 5 + 2) (.int .i64 0)).set (l.length * 5 + k * 5 + 3) (.int .i64 0)).set (l.length * 5 + k * 5 + 4) (.string ⟨#[114, 111, 111, 109]⟩) = cs5 l ++ (cs5 (List.replicate (k + 1) room) ++ zs') := by
  match zs, h with
  | a :: b :: c :: d :: e :: t, h =>
    refine ⟨t, by simp at h; omega, ?_⟩
    rw [← List.append_assoc, set5 _ _ (by simp [cs5_len]), List.replicate_succ', cs5_app]
    simp [cs5, room]
  | [], h => simp at h; omega
  | [_], h => simp at h; omega
  | [_, _], h => simp at h; omega
  | [_, _, _], h => simp at h; omega
  | [_, _, _, _], h => simp at h; omega

def rlendT (l : List Rc) (w : World) (e : Ending) (w' : World) : Prop := ∃ g, e = .returned (.slice (some ⟨g, 0, none⟩) l.length (l.length + 3)) ∧ RLent w' g l ∧ w.heap.size ≤ g ∧ Below w.heap.size w w'

theorem rlend_run (l : List Rc) (u : Value) (w : World) (ty : TypeId) (h : Rl w u l) (B : Nat) (g : Nat) (hown : w.ownsRow B 27 5 (.slice (some ⟨g, 0, none⟩) 0 (l.length + 3)) 0 []) :
    ∃ w1, (Builtin.append_ #[28, 28] ty #[.slice (some ⟨g, 0, none⟩) 0 (l.length + 3), u]).run Tryd.prog w = .ok (.slice (some ⟨g, 0, none⟩) l.length (l.length + 3)) w1 ∧ w1.ownsRow B 27 5 (.slice (some ⟨g, 0, none⟩) l.length (l.length + 3)) l.length (cs5 l) ∧ w.grownBy w1 (some g) := by
  rcases h with ⟨rfl, rfl⟩ | ⟨ad, cap, rfl, _, h⟩
  · refine ⟨w, ?_, hown, grown_refl _ _⟩
    simp [Builtin.append_, go_sem, run_underlying Tryd.underlying28]
  · obtain ⟨i0, hi, hz0, hz1, hz2⟩ := info_parts recInfo
    obtain ⟨w', h1, h2, h3⟩ := run_append_own_spare (P := Tryd.prog) w B 28 ty 27 i0 5 Tryd.underlying28 hi hz1 g 0 (l.length + 3) [] hown ad l.length cap (cs5 l) (cs5_len l) (fun j u hu => by
      have hj : j < l.length * 5 := by have := (List.getElem?_eq_some_iff.1 hu).1; rwa [cs5_len] at this
      obtain ⟨b, o, rfl, hR⟩ := h (by omega)
      exact hR.news j u hu) (cs5_one l) (by omega)
    rw [Nat.zero_add] at h1 h2
    exact ⟨w', h1, h2, h3⟩

set_option maxHeartbeats 4000000 in
theorem rlend_c (l : List Rc) (v : Value) (w : World) (h : Rl w v l) (hn : l.length ≤ 1000) : Calls Tryd.prog 7 #[v] w (rlendT l w) := by
  obtain ⟨i0, hi, hz0, hz1, hz2⟩ := info_parts recInfo
  have HI := Lib.hid hi
  have HZ0 := Lib.hid hz0
  have HZ1 := Lib.hid hz1
  obtain ⟨ad, cap, rfl, _⟩ := h.form
  have HN := Lib.hid h
  have hb8 : i0.bytes * (l.length + 3) ≤ 281474976710656 := by rw [hz2]; omega
  clear h hi hz0 hz1 hz2
  go_enter Tryd.func7, Tryd.ntmps7
  go_wp2_with (first
    | (refine wpList_make_own _ rfl _ _ 28 rfl w.heap.size 27 i0 (.agg #[.int .i64 0, .int .i64 0, .int .i64 0, .int .i64 0, .string ⟨#[]⟩]) 5 Tryd.underlying28 HI.out HZ0.out HZ1.out .i64 .i64 _ (l.length + 3) rfl rfl (by omega) hb8 (by unfold maxLen; omega) (Nat.le_refl _) ?_; intro w1 hown1 hgr1; obtain ⟨w2, happ, hown2, hgr2⟩ := rlend_run l _ w1 28 (HN.out.below (below_of_grown hgr1 (Nat.le_refl _) (by intro g hg; cases hg))) w.heap.size w.heap.size hown1; have HAPP := Lib.hid happ; have HO2 := Lib.hid hown2; have HB2 : Hid (Below w.heap.size w w2) := Lib.hid ((below_of_grown hgr1 (Nat.le_refl _) (by intro g hg; cases hg)).trans (below_of_grown hgr2 hgr1.size (by intro g hg; cases hg; exact Nat.le_refl _))); clear happ hown1 hown2 hgr1 hgr2)
    | (at_builtin; refine wpList_append_run rfl _ _ 28 rfl _ _ HAPP.out ?_))
  obtain ⟨zs, hzl, hw⟩ := rrow_whole HO2.out
  have HW := Lib.hid hw
  have hzl' : zs.length = 3 * 5 := by omega
  clear hw hzl HAPP HO2
  go_loopw [5] (fun v5 wr => ∃ (k : Nat) (zs : List Value), k ≤ 3 ∧ v5 = .int .i64 (k : Int) ∧ zs.length = (3 - k) * 5 ∧ Hid (wr.ownsRow w.heap.size 27 5 (.slice (some ⟨w.heap.size, 0, none⟩) (l.length + 3) (l.length + 3)) (l.length + 3) (cs5 l ++ (cs5 (List.replicate k room) ++ zs))) ∧ Below w.heap.size w wr) (fun v5 _ => 3 - (RowKit.intOf v5).toNat)
  case atStart => exact ⟨0, zs, by omega, rfl, hzl', Lib.hid (by simpa [cs5] using HW.out), HB2.out⟩
  case round =>
    obtain ⟨k, ys, hk, rfl, hy, HR, hb⟩ := hrel
    have HY := Lib.hid hy
    clear hy hzl' HW HB2
    have hgl := (World.ownsRow.lt HR.out w.heap.size rfl).2
    by_cases hp : k < 3
    · obtain ⟨y2, hy2, e2⟩ := rlend_set l k ys HY.out hp
      have hst := (World.ownsRow.stored (World.ownsRow.stored (World.ownsRow.stored (World.ownsRow.stored (World.ownsRow.stored HR.out (l.length * 5 + k * 5) (.int .i64 0)).1 (l.length * 5 + k * 5 + 1) (.int .i64 0)).1 (l.length * 5 + k * 5 + 2) (.int .i64 0)).1 (l.length * 5 + k * 5 + 3) (.int .i64 0)).1 (l.length * 5 + k * 5 + 4) (.string ⟨#[114, 111, 111, 109]⟩)).1
      rw [e2] at hst
      have HST := Lib.hid hst
      have hf : ∀ j, wr.frozen? ⟨w.heap.size, j, none⟩ = false := fun j => World.ownsRow.frozenAt HR.out j
      have hcs : ∀ j, j < 5 → ∃ u, wr.cell? ⟨w.heap.size, l.length * 5 + k * 5 + j, none⟩ = some u := fun j hj => by
        rw [World.ownsRow.cellAt HR.out (l.length * 5 + k * 5 + j) (by omega)]
        rw [List.getElem?_eq_getElem (by simp [cs5_len]; have := HY.out; omega)]
        exact ⟨_, rfl⟩
      obtain ⟨u0, c0⟩ := hcs 0 (by omega)
      obtain ⟨u1, c1⟩ := hcs 1 (by omega)
      obtain ⟨u2, c2⟩ := hcs 2 (by omega)
      obtain ⟨u3, c3⟩ := hcs 3 (by omega)
      obtain ⟨u4, c4⟩ := hcs 4 (by omega)
      rw [Nat.add_zero] at c0
      have HY2 := Lib.hid hy2
      clear hst e2 hy2 hcs
      go_wp2
      go_roundw
      case rel => exact ⟨k + 1, y2, hp, by go_num, HY2.out, HST, ((((hb.setCell (by exact Nat.le_refl _) _).setCell (by exact Nat.le_refl _) _).setCell (by exact Nat.le_refl _) _).setCell (by exact Nat.le_refl _) _).setCell (by exact Nat.le_refl _) _⟩
      case measure => simp [RowKit.intOf]; omega
    · have hk3 : k = 3 := by omega
      subst hk3
      have hy0 : ys = [] := List.eq_nil_of_length_eq_zero (by have := HY.out; omega)
      subst hy0
      have HL : Hid (RLent wr w.heap.size l) := Lib.hid (by
        unfold RLent
        have e : cs5 (l ++ [room, room, room]) = cs5 l ++ (cs5 (List.replicate 3 room) ++ []) := by rw [cs5_app, List.append_nil]; rfl
        rw [e]
        exact HR.out)
      go_wp2
      go_ret
      exact ⟨_, rfl, HL.out, Nat.le_refl _, hb⟩

set_option maxHeartbeats 4000000 in
theorem rkept_c (l : List Rc) (g : Nat) (v : Value) (w : World) (h : RLent w g l) (hm : Rl w v l) (hn : l.length ≤ 1000) : Calls Tryd.prog 11 #[.slice (some ⟨g, 0, none⟩) l.length (l.length + 3), v] w fun e w' => e = .returned (.bool true) ∧ Below w.heap.size w w' := by
  have HC := Lib.hid (samel_c l _ v w h.rl hm (by omega))
  have HR := Lib.hid h.recs
  have hlt := h.lt
  have qq := eq_rec room room
  rw [same_self] at qq
  unfold room at qq
  clear h hm
  go_enter Tryd.func11, Tryd.ntmps11
  go_wp2
  go_loopw [6] (fun v6 wr => ∃ (k : Nat), k ≤ 3 ∧ v6 = .int .i64 (k : Int) ∧ wr = w) (fun v6 _ => 3 - (RowKit.intOf v6).toNat)
  case atStart => exact ⟨0, by omega, rfl, rfl⟩
  case round =>
    obtain ⟨k, hk, rfl, rfl⟩ := hrel
    by_cases hp : k < 3
    · have c := HR.out (l.length + k) (by simp; omega)
      have e : (l ++ [room, room, room])[l.length + k]'(by simp; omega) = room := by
        rw [List.getElem_append_right (by omega)]
        match k, hp with
        | 0, _ => simp
        | 1, _ => simp
        | 2, _ => simp
      rw [e, Nat.zero_add, Nat.add_mul] at c
      unfold room at c
      obtain ⟨c0, c1, c2, c3, c4⟩ := c
      clear e
      go_wp2
      go_roundw
      case rel => exact ⟨k + 1, hp, by go_num, by trivial⟩
      case measure => simp [RowKit.intOf]; omega
    · go_wp2_with fail
      refine HC.out.mono ?_
      rintro e w1 ⟨rfl, b1⟩
      go_wp2
      go_ret
      exact ⟨rfl, b1⟩

/-- What is written over. -/
def over : Rc := ⟨0, 0, 0, 0, ⟨#[111, 118, 101, 114]⟩⟩
theorem grown_weak {w w' : World} {r : Option Nat} (h : w.grownBy w' none) : w.grownBy w' r := ⟨h.os, h.tape, h.output, h.size, fun k hk _ => h.block k hk (by simp)⟩

set_option maxHeartbeats 4000000 in
theorem rover_c (g n : Nat) (d : Nat → Rc) (w : World) (h : Dt w g n d) (hn : n ≤ 1000000) :
    Calls Tryd.prog 20 #[.slice (some ⟨g, 0, none⟩) n n] w fun e w' => e = .returned (.tuple #[]) ∧ w.grownBy w' (some g) := by
  obtain ⟨i0, hi, hz0, hz1, hz2⟩ := info_parts recInfo
  have HI := Lib.hid hi
  have HZ0 := Lib.hid hz0
  have HZ1 := Lib.hid hz1
  have HZ2 := Lib.hid hz2
  have H := Lib.hid h
  clear hi hz0 hz1 hz2 h
  go_enter Tryd.func20, Tryd.ntmps20
  go_wp2
  go_loopw [2] (fun v2 wr => ∃ (k : Nat) (d' : Nat → Rc), k ≤ n ∧ v2 = .int .i64 (k : Int) ∧ Hid (Dt wr g n d') ∧ Hid (w.grownBy wr (some g))) (fun v2 _ => n - (RowKit.intOf v2).toNat)
  case atStart => exact ⟨0, d, by omega, rfl, H, Lib.hid (grown_refl _ _)⟩
  case round =>
    obtain ⟨k, d', hk, rfl, HD, HG⟩ := hrel
    have hsz := HG.out.size
    clear H
    by_cases hp : k < n
    · have hlt := HD.out.lt
      have c0 := HD.out.c0 k hp
      have c1 := HD.out.c1 k hp
      have c2 := HD.out.c2 k hp
      have c3 := HD.out.c3 k hp
      have c4 := HD.out.c4 k hp
      have hf := HD.out.soft
      have HD2 := Lib.hid (HD.out.put5 k hp over)
      have HG2 := Lib.hid (grown_put5 HG.out k over)
      generalize d' k = R at c0 c1 c2 c3 c4
      go_wp2
      go_roundw
      case rel => exact ⟨k + 1, _, hp, by go_num, HD2, HG2⟩
      case measure => simp [RowKit.intOf]; omega
    · have hR := HD.out.rl
      have HO : Hid (∀ j u, (cs5 (seg d' 0 n))[j]? = some u → wr.cell? ((⟨g, 0, none⟩ : Addr).add j) = some u) := Lib.hid (fun j u hu => by
        have hl : (seg d' 0 n).length = n := by rw [seg_len]; omega
        have hj : j < n * 5 := by have := (List.getElem?_eq_some_iff.1 hu).1; rwa [cs5_len, hl] at this
        have hRc : Recs wr g 0 (seg d' 0 n) := fun k hk => by
          rw [hl] at hk
          have e : (seg d' 0 n)[k]'(by rw [hl]; exact hk) = d' k := by simp [seg]
          rw [e, Nat.zero_add]
          exact ⟨HD.out.c0 k hk, HD.out.c1 k hk, HD.out.c2 k hk, HD.out.c3 k hk, HD.out.c4 k hk⟩
        exact hRc.news j u hu)
      have HLEN : Hid ((cs5 (seg d' 0 n)).length = n * 5) := Lib.hid (by rw [cs5_len, seg_len]; omega)
      have HO2 : Hid (∀ j u, (cs5 (seg d' 0 n))[j]? = some u → (wr.alloc (.cells #[.int .i64 over.o, .int .i64 over.s, .int .i64 over.w, .int .i64 over.c, .string over.t] 27)).cell? ((⟨g, 0, none⟩ : Addr).add j) = some u) := Lib.hid (fun j u hu => by
        rw [Go.WideShapes.add_plain, (alloc_below wr _).cell (show (⟨g, 0 + j, none⟩ : Addr).block < wr.heap.size from HD.out.lt), ← Go.WideShapes.add_plain]
        exact HO.out j u hu)
      have HO3 : Hid (∀ j u, (cs5 [over])[j]? = some u → (wr.alloc (.cells #[.int .i64 over.o, .int .i64 over.s, .int .i64 over.w, .int .i64 over.c, .string over.t] 27)).cell? ((⟨wr.heap.size, 0, none⟩ : Addr).add j) = some u) := Lib.hid (fun j u hu => by
        rw [Go.WideShapes.add_plain, Nat.zero_add, cell_of_row _ wr.heap.size j _ _ _ (heap_alloc_new wr _), ← hu]
        simp [cs5])
      clear hR HO
      unfold over at HO2 HO3
      go_wp2_with (at_builtin; go_loud (refine wpList_append_grows _ rfl _ _ 28 rfl 27 i0 (.agg #[.int .i64 0, .int .i64 0, .int .i64 0, .int .i64 0, .string ⟨#[]⟩]) 5 48 Tryd.underlying28 HI.out HZ0.out HZ1.out HZ2.out rfl (by decide) (some ⟨g, 0, none⟩) n n (cs5 (seg d' 0 n)) rfl (by intro h; cases h) HLEN.out (fun b hb => by cases hb; exact HO2.out) ⟨wr.heap.size, 0, none⟩ 1 1 (cs5 [⟨0, 0, 0, 0, ⟨#[111, 118, 101, 114]⟩⟩]) rfl rfl (by exact HO3.out) (cs5_one _) (by omega) (by unfold maxLen; omega) (by omega) ?_; intro v' w3 hown3 hgrow3))
      go_end0
      exact ⟨rfl, grown_trans HG.out (grown_trans (World.grownBy_alloc _ _ _) (grown_weak hgrow3))⟩
end Go.Proofs.YtkmcieiglhdjeaaDoor
