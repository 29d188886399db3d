/-
  LendInts, KeptInts, OverInts, by contract: what is lent with room behind it, what is looked at, what is written over.
-/
import Derived.Test.YtmdojflpnikhnaaVecRef
import Derived.Deep.DeepAppendRoom
namespace Go.Proofs.Ytmdojflpnikhnaa
open Go.RowKit Go.Lib

/-- The numbers l, lent: three marks lie behind them. -/
def Lent (w : World) (g : Nat) (l : List Int) : Prop := w.ownsRow g 3 1 (.slice (some ⟨g, 0, none⟩) (l.length + 3) (l.length + 3)) (l.length + 3) (ints (l ++ [-777, -777, -777]))
theorem Lent.below {w w' : World} {g : Nat} {l : List Int} (h : Lent w g l) (hb : Below w.heap.size w w') : Lent w' g l := own_below h hb
theorem Lent.lt {w : World} {g : Nat} {l : List Int} (h : Lent w g l) : g < w.heap.size := (World.ownsRow.lt h g rfl).2
theorem Lent.far {w w' : World} {g : Nat} {l : List Int} {r : Option Nat} (h : Lent w g l) (hg : w.grownBy w' r) (hne : r ≠ some g) : Lent w' g l :=
  World.ownsRow.kept h hg (.inr (fun e => hne e.symm))
theorem Lent.at {w : World} {g : Nat} {l : List Int} (h : Lent w g l) (k : Nat) (x : Int) (hk : (l ++ [-777, -777, -777])[k]? = some x) : w.cell? ⟨g, k, none⟩ = some (.int .i64 x) := by
  have hl : k < (l ++ [-777, -777, -777]).length := (List.getElem?_eq_some_iff.1 hk).1
  refine (World.ownsRow.cellAt h k (by simp at hl; omega)).trans ?_
  rw [ints, List.getElem?_map, hk]
  rfl
theorem Lent.nl {w : World} {g : Nat} {l : List Int} (h : Lent w g l) : Nl w (.slice (some ⟨g, 0, none⟩) l.length (l.length + 3)) l :=
  .inr ⟨⟨g, 0, none⟩, l.length + 3, rfl, fun _ => ⟨g, 0, rfl, fun k hk => by
    rw [Nat.zero_add]
    exact h.at k l[k] (by rw [List.getElem?_append_left hk, List.getElem?_eq_getElem hk])⟩⟩

/-- A row with its room. -/
theorem row_whole {w : World} {B g n cap : Nat} {xs : List Value} (h : w.ownsRow B 3 1 (.slice (some ⟨g, 0, none⟩) n cap) n xs) : ∃ zs, zs.length = cap - n ∧ w.ownsRow B 3 1 (.slice (some ⟨g, 0, none⟩) cap cap) cap (xs ++ zs) := by
  obtain ⟨h1, h2⟩ := h
  rcases h2 with ⟨h0, _⟩ | ⟨g', cap', cur, hv, hg, hh, hn, hcap, hsz, htake⟩
  · cases h0
  · cases hv
    rw [Nat.mul_one] at hsz h1 htake
    refine ⟨cur.toList.drop n, by simp; omega, ?_, .inr ⟨g, cap, cur, rfl, hg, hh, Nat.le_refl _, hcap, by rw [Nat.mul_one]; exact hsz, ?_⟩⟩
    · simp [h1]; omega
    · rw [Nat.mul_one, List.take_of_length_le (by simp; omega), ← htake, List.take_append_drop]

def lendT (l : List Int) (w : World) (e : Ending) (w' : World) : Prop := ∃ g, e = .returned (.slice (some ⟨g, 0, none⟩) l.length (l.length + 3)) ∧ Lent w' g l ∧ w.heap.size ≤ g ∧ Below w.heap.size w w'

theorem lend_set (l : List Int) (k : Nat) (zs : List Value) (h : zs.length = 3 - k) (hk : k < 3) : ∃ zs', zs'.length = 3 - (k + 1) ∧ (ints l ++ (List.replicate k (Value.int .i64 (-777)) ++ zs)).set (l.length + k) (Value.int .i64 (-777)) = ints l ++ (List.replicate (k + 1) (Value.int .i64 (-777)) ++ zs') := by
  cases zs with
  | nil => simp at h; omega
  | cons z t =>
    refine ⟨t, by simp at h; omega, ?_⟩
    rw [List.set_append_right _ _ (by rw [ints_len]; omega), ints_len, Nat.add_sub_cancel_left, List.set_append_right _ _ (by simp), List.length_replicate, Nat.sub_self, List.set_cons_zero, List.replicate_succ']
    simp

theorem lend_run (l : List Int) (u : Value) (w : World) (ty : TypeId) (h : Nl w u l) (_ : l.length ≤ 1000000) (B : Nat) (g : Nat) (hown : w.ownsRow B 3 1 (.slice (some ⟨g, 0, none⟩) 0 (l.length + 3)) 0 []) :
    ∃ w1, (Builtin.append_ #[23, 23] ty #[.slice (some ⟨g, 0, none⟩) 0 (l.length + 3), u]).run Try.prog w = .ok (.slice (some ⟨g, 0, none⟩) l.length (l.length + 3)) w1 ∧ w1.ownsRow B 3 1 (.slice (some ⟨g, 0, none⟩) l.length (l.length + 3)) l.length (ints l) ∧ w.grownBy w1 (some g) := by
  rcases h with ⟨rfl, rfl⟩ | ⟨ad, cap, rfl, h⟩
  · refine ⟨w, ?_, hown, grown_refl _ _⟩
    simp [Builtin.append_, go_sem, run_underlying Try.underlying23]
  · obtain ⟨i0, hi, hz0, hz1, hz2⟩ := info_parts intInfo
    obtain ⟨w', h1, h2, h3⟩ := run_append_own_spare (P := Try.prog) w B 23 ty 3 i0 1 Try.underlying23 hi hz1 g 0 (l.length + 3) [] hown ad l.length cap (ints l) (by rw [ints_len, Nat.mul_one]) (Nl.news h) (ints_one l) (by omega)
    rw [Nat.zero_add] at h1 h2
    exact ⟨w', h1, h2, h3⟩

set_option maxHeartbeats 4000000 in
theorem lend_c (l : List Int) (v : Value) (w : World) (h : Nl w v l) (hn : l.length ≤ 1000) : Calls Try.prog 10 #[v] w (lendT l w) := by
  obtain ⟨i0, hi, hz0, hz1, hz2⟩ := info_parts intInfo
  have HI := Lib.hid hi
  have HZ0 := Lib.hid hz0
  have HZ1 := Lib.hid hz1
  obtain ⟨ad, cap, rfl, _⟩ := h.form
  have HN := Lib.hid h
  have hb8 : i0.bytes * (l.length + 3) ≤ 281474976710656 := by rw [hz2]; omega
  clear h hi hz0 hz1 hz2
  go_enter Try.func10, Try.ntmps10
  go_wp2_with (first
    | (refine wpList_make_own _ rfl _ _ 23 rfl w.heap.size 3 i0 (.int .i64 0) 1 Try.underlying23 HI.out HZ0.out HZ1.out .i64 .i64 _ (l.length + 3) rfl rfl (by omega) hb8 (by unfold maxLen; omega) (Nat.le_refl _) ?_; intro w1 hown1 hgr1; obtain ⟨w2, happ, hown2, hgr2⟩ := lend_run l _ w1 23 (HN.out.below (below_of_grown hgr1 (Nat.le_refl _) (by intro g hg; cases hg))) (by omega) w.heap.size w.heap.size hown1; have HAPP := Lib.hid happ; have HO2 := Lib.hid hown2; have HB2 : Hid (Below w.heap.size w w2) := Lib.hid ((below_of_grown hgr1 (Nat.le_refl _) (by intro g hg; cases hg)).trans (below_of_grown hgr2 hgr1.size (by intro g hg; cases hg; exact Nat.le_refl _))); clear happ hown1 hown2 hgr1 hgr2)
    | (at_builtin; refine wpList_append_run rfl _ _ 23 rfl _ _ HAPP.out ?_))
  obtain ⟨zs, hzl, hw⟩ := row_whole HO2.out
  have HW := Lib.hid hw
  have hzl' : zs.length = 3 := by omega
  clear hw hzl HAPP HO2
  go_loopw [5] (fun v5 wr => ∃ (k : Nat) (zs : List Value), k ≤ 3 ∧ v5 = .int .i64 (k : Int) ∧ zs.length = 3 - k ∧ Hid (wr.ownsRow w.heap.size 3 1 (.slice (some ⟨w.heap.size, 0, none⟩) (l.length + 3) (l.length + 3)) (l.length + 3) (ints l ++ (List.replicate k (Value.int .i64 (-777)) ++ zs))) ∧ Below w.heap.size w wr) (fun v5 _ => 3 - (intOf v5).toNat)
  case atStart => exact ⟨0, zs, by omega, rfl, hzl', Lib.hid (by simpa using HW.out), HB2.out⟩
  case round =>
    obtain ⟨k, ys, hk, rfl, hy, HR, hb⟩ := hrel
    have HY := Lib.hid hy
    clear hy hzl' HW HB2
    have hgl := (World.ownsRow.lt HR.out w.heap.size rfl).2
    by_cases hp : k < 3
    · obtain ⟨y2, hy2, e2⟩ := lend_set l k ys HY.out hp
      have hst := (World.ownsRow.stored HR.out (l.length + k) (.int .i64 (-777))).1
      rw [e2] at hst
      have HST := Lib.hid hst
      have hf := World.ownsRow.frozenAt HR.out (l.length + k)
      have hc := World.ownsRow.cellAt HR.out (l.length + k) (by omega)
      have HY2 := Lib.hid hy2
      rw [List.getElem?_eq_getElem (by simp [ints_len]; have := HY.out; omega)] at hc
      generalize (ints l ++ (List.replicate k (Value.int .i64 (-777)) ++ ys))[l.length + k]'(by simp [ints_len]; have := HY.out; omega) = u at hc
      clear hst e2 hy2
      go_wp2
      go_roundw
      case rel => exact ⟨k + 1, y2, hp, by go_num, HY2.out, HST, hb.setCell (by exact Nat.le_refl _) _⟩
      case measure => simp [intOf]; omega
    · have hk3 : k = 3 := by omega
      subst hk3
      have hy0 : ys = [] := List.eq_nil_of_length_eq_zero (by have := HY.out; omega)
      subst hy0
      have HL : Hid (Lent wr w.heap.size l) := Lib.hid (by
        unfold Lent
        have e : ints (l ++ [-777, -777, -777]) = ints l ++ (List.replicate 3 (Value.int .i64 (-777)) ++ []) := by simp [ints, List.replicate]
        rw [e]
        exact HR.out)
      go_wp2
      go_ret
      exact ⟨_, rfl, HL.out, Nat.le_refl _, hb⟩

set_option maxHeartbeats 4000000 in
theorem kept_c (l m : List Int) (g : Nat) (v : Value) (w : World) (h : Lent w g l) (hm : Nl w v m) (hn : l.length ≤ 1000) : Calls Try.prog 23 #[.slice (some ⟨g, 0, none⟩) l.length (l.length + 3), v] w fun e w' => e = .returned (.bool (sameB l m)) ∧ Below w.heap.size w w' := by
  have HC := Lib.hid (same_c l m _ v w h.nl hm (by omega))
  have HL := Lib.hid h
  have hlt := h.lt
  clear h hm
  generalize sameB l m = S at HC ⊢
  go_enter Try.func23, Try.ntmps23
  go_wp2
  go_loopw [6] (fun v6 wr => ∃ (k : Nat), k ≤ 3 ∧ v6 = .int .i64 (k : Int) ∧ wr = w) (fun v6 _ => 3 - (intOf v6).toNat)
  case atStart => exact ⟨0, by omega, rfl, rfl⟩
  case round =>
    obtain ⟨k, hk, rfl, rfl⟩ := hrel
    by_cases hp : k < 3
    · have c0 := HL.out.at (l.length + k) (-777) (by
        rw [List.getElem?_append_right (by omega), Nat.add_sub_cancel_left]
        match k, hp with
        | 0, _ => rfl
        | 1, _ => rfl
        | 2, _ => rfl)
      go_wp2
      go_roundw
      case rel => exact ⟨k + 1, hp, by go_num, by trivial⟩
      case measure => simp [intOf]; omega
    · go_wp2_with fail
      refine HC.out.mono ?_
      rintro e w1 ⟨rfl, b1⟩
      go_wp2
      go_ret
      exact ⟨rfl, b1⟩

set_option maxHeartbeats 4000000 in
theorem over_c (l : List Int) (v : Value) (w : World) (B : Nat) (h : Row w B v l) (hn : l.length ≤ 1000000) (hB : B ≤ w.heap.size) :
    Calls Try.prog 24 #[v] w fun e w' => e = .returned (.tuple #[]) ∧ w.grownBy w' v.ownBlock := by
  obtain ⟨i0, hi, hz0, hz1, hz2⟩ := info_parts intInfo
  have HI := Lib.hid hi
  have HZ0 := Lib.hid hz0
  have HZ1 := Lib.hid hz1
  have HZ2 := Lib.hid hz2
  clear hi hz0 hz1 hz2
  obtain ⟨ad, cap, rfl, _⟩ := h.nl.form
  have H := Lib.hid h
  clear h
  go_enter Try.func24, Try.ntmps24
  go_wp2
  go_loopw [2] (fun v2 wr => ∃ (k : Nat) (m : List Int), k ≤ l.length ∧ v2 = .int .i64 (k : Int) ∧ m.length = l.length ∧ Hid (Row wr B (.slice ad l.length cap) m) ∧ Hid (w.grownBy wr (Value.slice ad l.length cap).ownBlock)) (fun v2 _ => l.length - (intOf v2).toNat)
  case atStart => exact ⟨0, l, by omega, rfl, rfl, H, Lib.hid (grown_refl _ _)⟩
  case round =>
    obtain ⟨k, m, hk, rfl, hm, HM, HG⟩ := hrel
    have HML := Lib.hid hm
    have hsz := HG.out.size
    clear hm H
    by_cases hp : k < l.length
    · obtain ⟨g, cap2, he, hg, hlt⟩ := HM.out.form (by have := HML.out; omega)
      simp only [Value.slice.injEq] at he
      obtain ⟨rfl, e4, e5⟩ := he
      clear e4 e5
      have hc := HM.out.at2 HML.out k _ (List.getElem?_eq_getElem (by have := HML.out; omega))
      have hf := HM.out.soft2 HML.out k
      have HM2 := Lib.hid (HM.out.set2 HML.out k (-999))
      have HG2 : Hid (w.grownBy (wr.setCell ⟨g, k, none⟩ (.int .i64 (-999))) (Value.slice (some ⟨g, 0, none⟩) l.length cap).ownBlock) := Lib.hid (grown_trans HG.out (by
        have h1 : Row wr B (.slice (some ⟨g, 0, none⟩) m.length cap) m := by rw [HML.out]; exact HM.out
        exact (World.ownsRow.stored h1 k _).2))
      generalize m[k]'(by have := HML.out; omega) = y at hc
      go_wp2
      go_roundw
      case rel => exact ⟨k + 1, m.set k (-999), hp, by go_num, by rw [List.length_set]; exact HML.out, HM2, HG2⟩
      case measure => simp [intOf]; omega
    · have HO : Hid (wr.ownsRow B 3 1 (.slice ad l.length cap) l.length (ints m)) := Lib.hid (by have h1 := HM.out; unfold Row at h1; rw [HML.out] at h1; exact h1)
      go_wp2_with (at_builtin; refine wpList_append_own _ rfl _ _ 23 rfl B 3 i0 (.int .i64 0) 1 8 Try.underlying23 HI.out HZ0.out HZ1.out HZ2.out rfl (by decide) _ _ _ rfl (World.ownsRow.alloc HO.out _) ⟨wr.heap.size, 0, none⟩ 1 1 [.int .i64 (-999)] rfl rfl (cell_one_new _ _ _) (fun x hx => by simp at hx; subst hx; rfl) (by unfold maxLen; omega) (by omega) (by simp; omega) ?_; intro v' w3 hown3 hgrow3 hnil3)
      go_end0
      exact ⟨rfl, grown_trans HG.out (grown_trans (World.grownBy_alloc _ _ _) hgrow3)⟩

end Go.Proofs.Ytmdojflpnikhnaa
