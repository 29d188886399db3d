/-
  SameBytes, LendBytes, KeptBytes, OverBytes, Low, by contract.
-/
import Derived.Test.YtcnpckdchjjeoaaDoorMFrmPut
namespace Go.Proofs.YtcnpckdchjjeoaaDoor
open Go.RowKit Go.Lib
set_option maxRecDepth 100000
theorem sameB_self (l : List Int) : sameB l l = true := (sameB_iff l l).2 rfl
set_option maxHeartbeats 4000000 in
theorem bsame_c (l m : List Int) (v1 v2 : Value) (w : World) (h1 : Bl w v1 l) (h2 : Bl w v2 m) (hn : l.length ≤ 1000000) :
    Calls Tryd.prog 12 #[v1, v2] w fun e w' => e = .returned (.bool (sameB l m)) ∧ Below w.heap.size w w' := by
  obtain ⟨ad1, cap1, rfl, k1⟩ := h1.form
  obtain ⟨ad2, cap2, rfl, k2⟩ := h2.form
  have H1 := Lib.hid k1
  have H2 := Lib.hid k2
  clear h1 h2 k1 k2
  by_cases hl : l.length = m.length
  · have e0 : ((l.length : Int) != (m.length : Int)) = false := by simp [hl]
    have HL := Lib.hid hl
    clear hl
    go_enter Tryd.func12, Tryd.ntmps12
    go_wp2
    go_loopw [5] (fun v5 wr => ∃ k q : Nat, k ≤ l.length ∧ v5 = .int .i64 (k : Int) ∧ wr = w.drewN q ∧ Hid (sameB (l.drop k) (m.drop k) = sameB l m)) (fun v5 _ => l.length - (RowKit.intOf v5).toNat)
    case atStart => exact ⟨0, 0, by omega, rfl, rfl, Lib.hid rfl⟩
    case round =>
      obtain ⟨k, q, hk, rfl, rfl, hs⟩ := hrel
      by_cases hp : k < l.length
      · obtain ⟨g1, o1, rfl, c1⟩ := H1.out (by omega)
        have hpm : k < m.length := by have := HL.out; omega
        obtain ⟨g2, o2, rfl, c2⟩ := H2.out (by omega)
        have c11 := c1 k hp
        have c21 := c2 k hpm
        have hs' := hs.out
        rw [List.drop_eq_getElem_cons hp, List.drop_eq_getElem_cons hpm, sameB] at hs'
        clear c1 c2 H1 H2 hs
        generalize l[k] = x at c11 hs'
        generalize m[k] = y at c21 hs'
        by_cases hxy : x = y
        · have f1 : (x != y) = false := by simpa using hxy
          have f2 : (x == y) = true := by simpa using hxy
          rw [f2, Bool.true_and] at hs'
          have HS := Lib.hid hs'
          clear hs' hxy f2
          go_wp2
          go_quiet (fail)
          go_wp2
          go_roundw
          case rel => exact ⟨k + 1, q + nq, hp, by go_num, rfl, HS⟩
          case measure => simp [RowKit.intOf]; omega
        · have f1 : (x != y) = true := by simpa using hxy
          have f2 : (x == y) = false := by simpa using hxy
          rw [f2, Bool.false_and] at hs'
          have HS := Lib.hid hs'
          clear hs' hxy f2
          go_wp2
          go_quiet (fail)
          go_wp2
          go_ret
          exact ⟨by rw [← HS.out]; rfl, below_drewN (below_drewN (Below.refl _ _) q) nq⟩
      · have hs' := hs.out
        rw [List.drop_eq_nil_of_le (by omega), List.drop_eq_nil_of_le (by have := HL.out; omega), sameB] at hs'
        have HS := Lib.hid hs'
        clear hs' hs
        go_wp2
        go_ret
        exact ⟨by rw [← HS.out]; rfl, below_drewN (Below.refl _ _) q⟩
  · have e0 : ((l.length : Int) != (m.length : Int)) = true := by simp; omega
    rw [sameB_len l m hl]
    go_enter Tryd.func12, Tryd.ntmps12
    go_wp2
    go_ret
    exact ⟨rfl, Below.refl _ _⟩

/-- The numbers l, lent: three marks lie behind them. -/
def BLent (w : World) (g : Nat) (l : List Int) : Prop := w.ownsRow g 5 1 (.slice (some ⟨g, 0, none⟩) (l.length + 3) (l.length + 3)) (l.length + 3) (bys (l ++ [119, 119, 119]))
theorem BLent.below {w w' : World} {g : Nat} {l : List Int} (h : BLent w g l) (hb : Below w.heap.size w w') : BLent w' g l := own_below h hb
theorem BLent.lt {w : World} {g : Nat} {l : List Int} (h : BLent w g l) : g < w.heap.size := (World.ownsRow.lt h g rfl).2
theorem BLent.far {w w' : World} {g : Nat} {l : List Int} {r : Option Nat} (h : BLent w g l) (hg : w.grownBy w' r) (hne : r ≠ some g) : BLent w' g l :=
  World.ownsRow.kept h hg (.inr (fun e => hne e.symm))
theorem BLent.at {w : World} {g : Nat} {l : List Int} (h : BLent w g l) (k : Nat) (x : Int) (hk : (l ++ [119, 119, 119])[k]? = some x) : w.cell? ⟨g, k, none⟩ = some (.int .u8 x) := by
  have hl : k < (l ++ [119, 119, 119]).length := (List.getElem?_eq_some_iff.1 hk).1
  refine (World.ownsRow.cellAt h k (by simp at hl; omega)).trans ?_
  rw [bys, List.getElem?_map, hk]
  rfl
theorem BLent.nl {w : World} {g : Nat} {l : List Int} (h : BLent w g l) : Bl w (.slice (some ⟨g, 0, none⟩) l.length (l.length + 3)) l :=
  .inr ⟨⟨g, 0, none⟩, l.length + 3, rfl, fun _ => ⟨g, 0, rfl, fun k hk => by
    rw [Nat.zero_add]
    exact h.at k l[k] (by rw [List.getElem?_append_left hk, List.getElem?_eq_getElem hk])⟩⟩

/-- A row with its room. -/
theorem brow_whole {w : World} {B g n cap : Nat} {xs : List Value} (h : w.ownsRow B 5 1 (.slice (some ⟨g, 0, none⟩) n cap) n xs) : ∃ zs, zs.length = cap - n ∧ w.ownsRow B 5 1 (.slice (some ⟨g, 0, none⟩) cap cap) cap (xs ++ zs) := by
  obtain ⟨h1, h2⟩ := h
  rcases h2 with ⟨h0, _⟩ | ⟨g', cap', cur, hv, hg, hh, hn, hcap, hsz, htake⟩
  · cases h0
  · cases hv
    rw [Nat.mul_one] at hsz h1 htake
    refine ⟨cur.toList.drop n, by simp; omega, ?_, .inr ⟨g, cap, cur, rfl, hg, hh, Nat.le_refl _, hcap, by rw [Nat.mul_one]; exact hsz, ?_⟩⟩
    · simp [h1]; omega
    · rw [Nat.mul_one, List.take_of_length_le (by simp; omega), ← htake, List.take_append_drop]

def blendT (l : List Int) (w : World) (e : Ending) (w' : World) : Prop := ∃ g, e = .returned (.slice (some ⟨g, 0, none⟩) l.length (l.length + 3)) ∧ BLent w' g l ∧ w.heap.size ≤ g ∧ Below w.heap.size w w'

theorem blend_set (l : List Int) (k : Nat) (zs : List Value) (h : zs.length = 3 - k) (hk : k < 3) : ∃ zs', zs'.length = 3 - (k + 1) ∧ (bys l ++ (List.replicate k (Value.int .u8 119) ++ zs)).set (l.length + k) (Value.int .u8 119) = bys l ++ (List.replicate (k + 1) (Value.int .u8 119) ++ zs') := by
  cases zs with
  | nil => simp at h; omega
  | cons z t =>
    refine ⟨t, by simp at h; omega, ?_⟩
    rw [List.set_append_right _ _ (by rw [bys_len]; omega), bys_len, Nat.add_sub_cancel_left, List.set_append_right _ _ (by simp), List.length_replicate, Nat.sub_self, List.set_cons_zero, List.replicate_succ']
    simp

theorem blend_run (l : List Int) (u : Value) (w : World) (ty : TypeId) (h : Bl w u l) (_ : l.length ≤ 1000000) (B : Nat) (g : Nat) (hown : w.ownsRow B 5 1 (.slice (some ⟨g, 0, none⟩) 0 (l.length + 3)) 0 []) :
    ∃ w1, (Builtin.append_ #[33, 33] ty #[.slice (some ⟨g, 0, none⟩) 0 (l.length + 3), u]).run Tryd.prog w = .ok (.slice (some ⟨g, 0, none⟩) l.length (l.length + 3)) w1 ∧ w1.ownsRow B 5 1 (.slice (some ⟨g, 0, none⟩) l.length (l.length + 3)) l.length (bys l) ∧ w.grownBy w1 (some g) := by
  rcases h with ⟨rfl, rfl⟩ | ⟨ad, cap, rfl, h⟩
  · refine ⟨w, ?_, hown, grown_refl _ _⟩
    simp [Builtin.append_, go_sem, run_underlying Tryd.underlying33]
  · obtain ⟨i0, hi, hz0, hz1, hz2⟩ := info_parts byteInfo
    obtain ⟨w', h1, h2, h3⟩ := run_append_own_spare (P := Tryd.prog) w B 33 ty 5 i0 1 Tryd.underlying33 hi hz1 g 0 (l.length + 3) [] hown ad l.length cap (bys l) (by rw [bys_len, Nat.mul_one]) (Bl.news h) (bys_one l) (by omega)
    rw [Nat.zero_add] at h1 h2
    exact ⟨w', h1, h2, h3⟩

set_option maxHeartbeats 4000000 in
theorem blend_c (l : List Int) (v : Value) (w : World) (h : Bl w v l) (hn : l.length ≤ 1000000) : Calls Tryd.prog 18 #[v] w (blendT l w) := by
  obtain ⟨i0, hi, hz0, hz1, hz2⟩ := info_parts byteInfo
  have HI := Lib.hid hi
  have HZ0 := Lib.hid hz0
  have HZ1 := Lib.hid hz1
  obtain ⟨ad, cap, rfl, _⟩ := h.form
  have HN := Lib.hid h
  have hb8 : i0.bytes * (l.length + 3) ≤ 281474976710656 := by rw [hz2]; omega
  clear h hi hz0 hz1 hz2
  go_enter Tryd.func18, Tryd.ntmps18
  go_wp2_with (first
    | (refine wpList_make_own _ rfl _ _ 33 rfl w.heap.size 5 i0 (.int .u8 0) 1 Tryd.underlying33 HI.out HZ0.out HZ1.out .i64 .i64 _ (l.length + 3) rfl rfl (by omega) hb8 (by unfold maxLen; omega) (Nat.le_refl _) ?_; intro w1 hown1 hgr1; obtain ⟨w2, happ, hown2, hgr2⟩ := blend_run l _ w1 33 (HN.out.below (below_of_grown hgr1 (Nat.le_refl _) (by intro g hg; cases hg))) (by omega) w.heap.size w.heap.size hown1; have HAPP := Lib.hid happ; have HO2 := Lib.hid hown2; have HB2 : Hid (Below w.heap.size w w2) := Lib.hid ((below_of_grown hgr1 (Nat.le_refl _) (by intro g hg; cases hg)).trans (below_of_grown hgr2 hgr1.size (by intro g hg; cases hg; exact Nat.le_refl _))); clear happ hown1 hown2 hgr1 hgr2)
    | (at_builtin; refine wpList_append_run rfl _ _ 33 rfl _ _ HAPP.out ?_))
  obtain ⟨zs, hzl, hw⟩ := brow_whole HO2.out
  have HW := Lib.hid hw
  have hzl' : zs.length = 3 := by omega
  clear hw hzl HAPP HO2
  go_loopw [5] (fun v5 wr => ∃ (k : Nat) (zs : List Value), k ≤ 3 ∧ v5 = .int .i64 (k : Int) ∧ zs.length = 3 - k ∧ Hid (wr.ownsRow w.heap.size 5 1 (.slice (some ⟨w.heap.size, 0, none⟩) (l.length + 3) (l.length + 3)) (l.length + 3) (bys l ++ (List.replicate k (Value.int .u8 119) ++ zs))) ∧ Below w.heap.size w wr) (fun v5 _ => 3 - (RowKit.intOf v5).toNat)
  case atStart => exact ⟨0, zs, by omega, rfl, hzl', Lib.hid (by simpa using HW.out), HB2.out⟩
  case round =>
    obtain ⟨k, ys, hk, rfl, hy, HR, hb⟩ := hrel
    have HY := Lib.hid hy
    clear hy hzl' HW HB2
    have hgl := (World.ownsRow.lt HR.out w.heap.size rfl).2
    by_cases hp : k < 3
    · obtain ⟨y2, hy2, e2⟩ := blend_set l k ys HY.out hp
      have hst := (World.ownsRow.stored HR.out (l.length + k) (.int .u8 119)).1
      rw [e2] at hst
      have HST := Lib.hid hst
      have hf := World.ownsRow.frozenAt HR.out (l.length + k)
      have hc := World.ownsRow.cellAt HR.out (l.length + k) (by omega)
      have HY2 := Lib.hid hy2
      rw [List.getElem?_eq_getElem (by simp [bys_len]; have := HY.out; omega)] at hc
      generalize (bys l ++ (List.replicate k (Value.int .u8 119) ++ ys))[l.length + k]'(by simp [bys_len]; have := HY.out; omega) = u at hc
      clear hst e2 hy2
      go_wp2
      go_roundw
      case rel => exact ⟨k + 1, y2, hp, by go_num, HY2.out, HST, hb.setCell (by exact Nat.le_refl _) _⟩
      case measure => simp [RowKit.intOf]; omega
    · have hk3 : k = 3 := by omega
      subst hk3
      have hy0 : ys = [] := List.eq_nil_of_length_eq_zero (by have := HY.out; omega)
      subst hy0
      have HL : Hid (BLent wr w.heap.size l) := Lib.hid (by
        unfold BLent
        have e : bys (l ++ [119, 119, 119]) = bys l ++ (List.replicate 3 (Value.int .u8 119) ++ []) := by simp [bys, List.replicate]
        rw [e]
        exact HR.out)
      go_wp2
      go_ret
      exact ⟨_, rfl, HL.out, Nat.le_refl _, hb⟩

set_option maxHeartbeats 4000000 in
theorem bkept_c (l m : List Int) (g : Nat) (v : Value) (w : World) (h : BLent w g l) (hm : Bl w v m) (hn : l.length ≤ 1000000) : Calls Tryd.prog 22 #[.slice (some ⟨g, 0, none⟩) l.length (l.length + 3), v] w fun e w' => e = .returned (.bool (sameB l m)) ∧ Below w.heap.size w w' := by
  have HC := Lib.hid (bsame_c l m _ v w h.nl hm (by omega))
  have HL := Lib.hid h
  have hlt := h.lt
  clear h hm
  generalize sameB l m = S at HC ⊢
  go_enter Tryd.func22, Tryd.ntmps22
  go_wp2
  go_loopw [6] (fun v6 wr => ∃ (k : Nat), k ≤ 3 ∧ v6 = .int .i64 (k : Int) ∧ wr = w) (fun v6 _ => 3 - (RowKit.intOf v6).toNat)
  case atStart => exact ⟨0, by omega, rfl, rfl⟩
  case round =>
    obtain ⟨k, hk, rfl, rfl⟩ := hrel
    by_cases hp : k < 3
    · have c0 := HL.out.at (l.length + k) 119 (by
        rw [List.getElem?_append_right (by omega), Nat.add_sub_cancel_left]
        match k, hp with
        | 0, _ => rfl
        | 1, _ => rfl
        | 2, _ => rfl)
      go_wp2
      go_roundw
      case rel => exact ⟨k + 1, hp, by go_num, by trivial⟩
      case measure => simp [RowKit.intOf]; omega
    · go_wp2_with fail
      refine HC.out.mono ?_
      rintro e w1 ⟨rfl, b1⟩
      go_wp2
      go_ret
      exact ⟨rfl, b1⟩

set_option maxHeartbeats 4000000 in
theorem bover_c (l : List Int) (v : Value) (w : World) (B : Nat) (h : BRow w B v l) (hn : l.length ≤ 1000000) (hB : B ≤ w.heap.size) :
    Calls Tryd.prog 17 #[v] w fun e w' => e = .returned (.tuple #[]) ∧ w.grownBy w' v.ownBlock := by
  obtain ⟨i0, hi, hz0, hz1, hz2⟩ := info_parts byteInfo
  have HI := Lib.hid hi
  have HZ0 := Lib.hid hz0
  have HZ1 := Lib.hid hz1
  have HZ2 := Lib.hid hz2
  clear hi hz0 hz1 hz2
  obtain ⟨ad, cap, rfl, _⟩ := h.nl.form
  have H := Lib.hid h
  clear h
  go_enter Tryd.func17, Tryd.ntmps17
  go_wp2
  go_loopw [2] (fun v2 wr => ∃ (k : Nat) (m : List Int), k ≤ l.length ∧ v2 = .int .i64 (k : Int) ∧ m.length = l.length ∧ Hid (BRow wr B (.slice ad l.length cap) m) ∧ Hid (w.grownBy wr (Value.slice ad l.length cap).ownBlock)) (fun v2 _ => l.length - (RowKit.intOf v2).toNat)
  case atStart => exact ⟨0, l, by omega, rfl, rfl, H, Lib.hid (grown_refl _ _)⟩
  case round =>
    obtain ⟨k, m, hk, rfl, hm, HM, HG⟩ := hrel
    have HML := Lib.hid hm
    have hsz := HG.out.size
    clear hm H
    by_cases hp : k < l.length
    · obtain ⟨g, cap2, he, hg, hlt⟩ := HM.out.form (by have := HML.out; omega)
      simp only [Value.slice.injEq] at he
      obtain ⟨rfl, e4, e5⟩ := he
      clear e4 e5
      have hc := HM.out.at2 HML.out k _ (List.getElem?_eq_getElem (by have := HML.out; omega))
      have hf := HM.out.soft2 HML.out k
      have HM2 := Lib.hid (HM.out.set2 HML.out k 238)
      have HG2 : Hid (w.grownBy (wr.setCell ⟨g, k, none⟩ (.int .u8 238)) (Value.slice (some ⟨g, 0, none⟩) l.length cap).ownBlock) := Lib.hid (grown_trans HG.out (by
        have h1 : BRow wr B (.slice (some ⟨g, 0, none⟩) m.length cap) m := by rw [HML.out]; exact HM.out
        exact (World.ownsRow.stored h1 k _).2))
      generalize m[k]'(by have := HML.out; omega) = y at hc
      go_wp2
      go_roundw
      case rel => exact ⟨k + 1, m.set k 238, hp, by go_num, by rw [List.length_set]; exact HML.out, HM2, HG2⟩
      case measure => simp [RowKit.intOf]; omega
    · have HO : Hid (wr.ownsRow B 5 1 (.slice ad l.length cap) l.length (bys m)) := Lib.hid (by have h1 := HM.out; unfold BRow at h1; rw [HML.out] at h1; exact h1)
      go_wp2_with (at_builtin; refine wpList_append_own _ rfl _ _ 33 rfl B 5 i0 (.int .u8 0) 1 1 Tryd.underlying33 HI.out HZ0.out HZ1.out HZ2.out rfl (by decide) _ _ _ rfl (World.ownsRow.alloc HO.out _) ⟨wr.heap.size, 0, none⟩ 1 1 [.int .u8 238] rfl rfl (cell_one_new _ _ _) (fun x hx => by simp at hx; subst hx; rfl) (by unfold maxLen; omega) (by omega) (by simp; omega) ?_; intro v' w3 hown3 hgrow3 hnil3)
      go_end0
      exact ⟨rfl, grown_trans HG.out (grown_trans (World.grownBy_alloc _ _ _) hgrow3)⟩
end Go.Proofs.YtcnpckdchjjeoaaDoor
