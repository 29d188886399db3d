/-
  Lack, of the program and of the chapter; SameSpans, OverSpans, by contract.
-/
import Derived.Test.YtmdojflpnikhnaaVecLend
namespace Go.Proofs.Ytmdojflpnikhnaa
open Go.RowKit Go.Lib

def cs3 : List (Int × Int × Int) → List Value
  | [] => []
  | p :: t => .int .i64 p.1 :: .int .i64 p.2.1 :: .int .i64 p.2.2 :: cs3 t
theorem cs3_len : ∀ l : List (Int × Int × Int), (cs3 l).length = l.length * 3
  | [] => rfl
  | p :: t => by simp [cs3, cs3_len t]; omega
theorem cs3_app : ∀ (l l' : List (Int × Int × Int)), cs3 (l ++ l') = cs3 l ++ cs3 l'
  | [], _ => rfl
  | p :: t, l' => by simp [cs3, cs3_app t l']
theorem cs3_at : ∀ (l : List (Int × Int × Int)) (k : Nat) (hk : k < l.length), (cs3 l)[k * 3]? = some (.int .i64 l[k].1) ∧ (cs3 l)[k * 3 + 1]? = some (.int .i64 l[k].2.1) ∧ (cs3 l)[k * 3 + 2]? = some (.int .i64 l[k].2.2)
  | [], _, hk => by simp at hk
  | p :: t, 0, _ => by simp [cs3]
  | p :: t, k + 1, hk => by
    have h := cs3_at t k (by simpa using hk)
    rw [show (k + 1) * 3 = k * 3 + 1 + 1 + 1 from by omega]
    simp only [cs3, List.getElem?_cons_succ, List.getElem_cons_succ]
    exact h

def SRow (w : World) (B : Nat) (v : Value) (l : List (Int × Int × Int)) : Prop := w.ownsRow B 44 3 v l.length (cs3 l)
theorem SRow.below {w w' : World} {B : Nat} {v : Value} {l : List (Int × Int × Int)} (h : SRow w B v l) (hb : Below w.heap.size w w') : SRow w' B v l := own_below h hb
theorem SRow.mono {w : World} {B B' : Nat} {v : Value} {l : List (Int × Int × Int)} (h : SRow w B v l) (hb : B' ≤ B) : SRow w B' v l := own_mono h hb
theorem SRow.nil (w : World) (B : Nat) : SRow w B (.slice none 0 0) [] := World.ownsRow_nil _ _ _ _
theorem SRow.far {w w' : World} {B : Nat} {v : Value} {l : List (Int × Int × Int)} {r : Option Nat} (h : SRow w B v l) (hg : w.grownBy w' r) (hne : ∀ g, r = some g → ∀ g', v.ownBlock = some g' → g ≠ g') : SRow w' B v l := by
  refine World.ownsRow.kept h hg ?_
  cases hv : v.ownBlock with
  | none => exact .inl rfl
  | some g' => exact .inr fun e => hne g' e.symm g' hv rfl
/-- The slice v of spans reads as l. -/
def SRd (w : World) (v : Value) (l : List (Int × Int × Int)) : Prop :=
  ∃ ad cap, v = .slice ad l.length cap ∧ (0 < l.length → ∃ g, ad = some ⟨g, 0, none⟩ ∧ ∀ k (hk : k < l.length), w.cell? ⟨g, k * 3, none⟩ = some (.int .i64 l[k].1) ∧ w.cell? ⟨g, k * 3 + 1, none⟩ = some (.int .i64 l[k].2.1) ∧ w.cell? ⟨g, k * 3 + 2, none⟩ = some (.int .i64 l[k].2.2))
theorem SRow.rd {w : World} {B : Nat} {v : Value} {l : List (Int × Int × Int)} (h : SRow w B v l) : SRd w v l := by
  rcases h.2 with ⟨rfl, h0⟩ | ⟨g, cap, cur, rfl, _⟩
  · exact ⟨none, 0, by rw [h0], fun h => by omega⟩
  · refine ⟨_, cap, rfl, fun _ => ⟨g, rfl, fun k hk => ?_⟩⟩
    have h1 := cs3_at l k hk
    exact ⟨(World.ownsRow.cellAt h (k * 3) (by omega)).trans h1.1, (World.ownsRow.cellAt h (k * 3 + 1) (by omega)).trans h1.2.1, (World.ownsRow.cellAt h (k * 3 + 2) (by omega)).trans h1.2.2⟩
theorem SRd.below {w w' : World} {v : Value} {l : List (Int × Int × Int)} (h : SRd w v l) (hb : Below w.heap.size w w') : SRd w' v l := by
  obtain ⟨ad, cap, h1, h2⟩ := h
  refine ⟨ad, cap, h1, fun h0 => ?_⟩
  obtain ⟨g, e, h3⟩ := h2 h0
  refine ⟨g, e, fun k hk => ?_⟩
  have kk : ∀ {a : Addr} {v : Value}, w.cell? a = some v → w'.cell? a = some v := fun {a v} hc => (hb.cell (World.block_lt_of_cell? w a hc)).trans hc
  obtain ⟨x, y, z⟩ := h3 k hk
  exact ⟨kk x, kk y, kk z⟩
def srowT (l : List (Int × Int × Int)) (w : World) (e : Ending) (w' : World) : Prop := ∃ v, e = .returned v ∧ SRow w' w.heap.size v l ∧ Below w.heap.size w w'

theorem spanInfo : (Try.prog.info? 44).map (fun i => (i.zero, i.size, i.bytes)) = some (some (.agg #[.int .i64 0, .int .i64 0, .int .i64 0]), 3, 24) := by kernel_rfl
theorem cell_three_new (w : World) (a b c : Value) (t : TypeId) : ∀ j u, [a, b, c][j]? = some u → (w.alloc (.cells #[a, b, c] t)).cell? ((⟨w.heap.size, 0, none⟩ : Addr).add j) = some u := by
  intro j u hj
  match j, hj with
  | 0, hj => simp at hj; subst hj; simp [Addr.add]
  | 1, hj => simp at hj; subst hj; simp [Addr.add]
  | 2, hj => simp at hj; subst hj; simp [Addr.add]
  | j + 3, hj => simp at hj

def lackF (i : Nat) : List Int → List Int → List Int → List (Int × Int × Int)
  | m :: ms, y :: ys, f :: fs => if mx y f < m then ((i : Int), wrap64 (mx y f + 1), wrap64 (m - mx y f)) :: lackF (i + 1) ms ys fs else lackF (i + 1) ms ys fs
  | _, _, _ => []
def lackL (a b c : List Int) : List (Int × Int × Int) := if a.length = b.length ∧ a.length = c.length then lackF 0 a b c else []
theorem lackF_drop (a b c : List Int) (k : Nat) (ha : k < a.length) (hb : k < b.length) (hc : k < c.length) :
    lackF k (a.drop k) (b.drop k) (c.drop k) = if mx b[k] c[k] < a[k] then ((k : Int), wrap64 (mx b[k] c[k] + 1), wrap64 (a[k] - mx b[k] c[k])) :: lackF (k + 1) (a.drop (k + 1)) (b.drop (k + 1)) (c.drop (k + 1)) else lackF (k + 1) (a.drop (k + 1)) (b.drop (k + 1)) (c.drop (k + 1)) := by
  rw [List.drop_eq_getElem_cons ha, List.drop_eq_getElem_cons hb, List.drop_eq_getElem_cons hc, lackF]
theorem lackF_end (i : Nat) (b c : List Int) : lackF i [] b c = [] := by unfold lackF; rfl

set_option maxHeartbeats 4000000 in
theorem lack_c_no (a b c : List Int) (va vb vc : Value) (w : World) (ha : Nl w va a) (hb : Nl w vb b) (hc : Nl w vc c) (hne : ¬ (a.length = b.length ∧ a.length = c.length)) :
    Calls Try.prog 13 #[va, vb, vc] w (srowT (lackL a b c) w) := by
  unfold lackL
  rw [if_neg hne]
  obtain ⟨ad1, cap1, rfl, _⟩ := ha.form
  obtain ⟨ad2, cap2, rfl, _⟩ := hb.form
  obtain ⟨ad3, cap3, rfl, _⟩ := hc.form
  clear ha hb hc
  by_cases h1 : a.length = b.length
  · have e1 : ((a.length : Int) != (b.length : Int)) = false := by simp [h1]
    have e2 : ((a.length : Int) != (c.length : Int)) = true := by simp; omega
    clear h1 hne
    go_enter Try.func13, Try.ntmps13
    go_wp2
    go_ret
    exact ⟨_, rfl, SRow.nil _ _, Below.refl _ _⟩
  · have e1 : ((a.length : Int) != (b.length : Int)) = true := by simp; omega
    clear h1 hne
    go_enter Try.func13, Try.ntmps13
    go_wp2
    go_ret
    exact ⟨_, rfl, SRow.nil _ _, Below.refl _ _⟩

set_option maxHeartbeats 8000000 in
theorem lack_c (a b c : List Int) (va vb vc : Value) (w : World) (ha : Nl w va a) (hb : Nl w vb b) (hc : Nl w vc c) (hn : a.length ≤ 1000) :
    Calls Try.prog 13 #[va, vb, vc] w (srowT (lackL a b c) w) := by
  by_cases hne : a.length = b.length ∧ a.length = c.length
  case neg => exact lack_c_no a b c va vb vc w ha hb hc hne
  case pos =>
  unfold lackL
  rw [if_pos hne]
  obtain ⟨hb', hc'⟩ := hne
  have e1 : ((a.length : Int) != (b.length : Int)) = false := by simp [hb']
  have e2 : ((a.length : Int) != (c.length : Int)) = false := by simp [hc']
  have HBL := Lib.hid hb'
  have HCL := Lib.hid hc'
  clear hb' hc'
  obtain ⟨ad1, cap1, rfl, k1⟩ := ha.form
  obtain ⟨ad2, cap2, rfl, k2⟩ := hb.form
  obtain ⟨ad3, cap3, rfl, k3⟩ := hc.form
  have HA := Lib.hid k1
  have HB := Lib.hid k2
  have HC := Lib.hid k3
  obtain ⟨i0, hi, hz0, hz1, hz2⟩ := info_parts spanInfo
  have HI := Lib.hid hi
  have HZ0 := Lib.hid hz0
  have HZ1 := Lib.hid hz1
  have HZ2 := Lib.hid hz2
  clear ha hb hc k1 k2 k3 hi hz0 hz1 hz2
  go_enter Try.func13, Try.ntmps13
  go_wp2
  go_loopw [7, 25] (fun vs vk wr => ∃ (k : Nat) (done : List (Int × Int × Int)), k ≤ a.length ∧ vk = .int .i64 (k : Int) ∧ done.length ≤ k ∧ Hid (done ++ lackF k (a.drop k) (b.drop k) (c.drop k) = lackF 0 a b c) ∧ Hid (SRow wr w.heap.size vs done) ∧ Below w.heap.size w wr) (fun _ vk _ => a.length - (intOf vk).toNat)
  case atStart => exact ⟨0, [], by omega, rfl, by simp, Lib.hid rfl, Lib.hid (SRow.nil _ _), Below.refl _ _⟩
  case round =>
    obtain ⟨k, done, hk, rfl, hd, hx, HS, hbw⟩ := hrel
    have hsw := hbw.size
    by_cases hp : k < a.length
    · have hpb : k < b.length := by have := HBL.out; omega
      have hpc : k < c.length := by have := HCL.out; omega
      obtain ⟨g1, o1, rfl, q1⟩ := HA.out (by omega)
      obtain ⟨g2, o2, rfl, q2⟩ := HB.out (by omega)
      obtain ⟨g3, o3, rfl, q3⟩ := HC.out (by omega)
      have c1 := (hbw.cell (World.block_lt_of_cell? w _ (q1 k hp))).trans (q1 k hp)
      have c2 := (hbw.cell (World.block_lt_of_cell? w _ (q2 k hpb))).trans (q2 k hpb)
      have c3 := (hbw.cell (World.block_lt_of_cell? w _ (q3 k hpc))).trans (q3 k hpc)
      have hl1 := World.block_lt_of_cell? wr _ c1
      have hl2 := World.block_lt_of_cell? wr _ c2
      have hl3 := World.block_lt_of_cell? wr _ c3
      simp only at hl1 hl2 hl3
      have hx' := hx.out
      rw [lackF_drop a b c k hp hpb hpc] at hx'
      clear q1 q2 q3 hx
      generalize a[k] = m at c1 hx'
      generalize b[k] = y at c2 hx'
      generalize c[k] = f at c3 hx'
      have hrun := max2_run y f
      generalize mx y f = n at hrun hx'
      obtain ⟨ads, caps, hvs, _⟩ := HS.out.rd
      subst hvs
      by_cases hlt : n < m
      · rw [if_pos hlt] at hx'
        have e3 : decide (n < m) = true := by simpa using hlt
        have HX : Hid ((done ++ [((k : Int), wrap64 (n + 1), wrap64 (m - n))]) ++ lackF (k + 1) (a.drop (k + 1)) (b.drop (k + 1)) (c.drop (k + 1)) = lackF 0 a b c) := Lib.hid (by rw [List.append_assoc]; exact hx')
        clear hx' hlt
        go_wp2
        go_region
        clear hrun
        go_wp2_with (at_builtin; refine wpList_append_own _ rfl _ _ 28 rfl w.heap.size 44 i0 (.agg #[.int .i64 0, .int .i64 0, .int .i64 0]) 3 24 Try.underlying28 HI.out HZ0.out HZ1.out HZ2.out rfl (by decide) _ _ _ rfl (World.ownsRow.alloc (by exact HS.out) _) ⟨wr.heap.size, 0, none⟩ 1 1 [.int .i64 (k : Int), .int .i64 (wrap64 (n + 1)), .int .i64 (wrap64 (m - n))] rfl rfl (by exact cell_three_new _ _ _ _ _) (fun x hx => by simp at hx; rcases hx with rfl | rfl | rfl <;> rfl) (by unfold maxLen; omega) (by omega) (by simp; omega) ?_; intro v' w3 hown3 hgrow3 hnil3)
        have HO3 : Hid (SRow w3 w.heap.size v' (done ++ [((k : Int), wrap64 (n + 1), wrap64 (m - n))])) := Lib.hid (by
          unfold SRow
          rw [cs3_app, List.length_append]
          exact hown3)
        have HB3 : Hid (Below w.heap.size w w3) := Lib.hid (by
          refine (hbw.drew.alloc (by exact hsw) _).trans (below_of_grown hgrow3 (by simp; omega) ?_)
          intro g hg
          exact (World.ownsRow.lt HS.out g hg).1)
        clear hown3 hgrow3 hnil3
        go_roundw
        case rel => exact ⟨k + 1, _, hp, by go_num, by simp; omega, HX, HO3, HB3.out⟩
        case measure => simp [intOf]; omega
      · rw [if_neg hlt] at hx'
        have e3 : decide (n < m) = false := by simpa using hlt
        have HX := Lib.hid hx'
        clear hx' hlt
        go_wp2
        go_region
        go_wp2
        go_roundw
        case rel => exact ⟨k + 1, done, hp, by go_num, by omega, HX, HS, hbw.drew⟩
        case measure => simp [intOf]; omega
    · have hx' := hx.out
      rw [List.drop_eq_nil_of_le (by omega : a.length ≤ k), lackF_end, List.append_nil] at hx'
      have HX := Lib.hid hx'
      clear hx hx'
      go_wp2
      go_ret
      exact ⟨_, rfl, by rw [← HX.out]; exact HS.out, hbw⟩

set_option maxHeartbeats 4000000 in
theorem reflack_c_no (a b c : List Int) (va vb vc : Value) (w : World) (ha : Nl w va a) (hb : Nl w vb b) (hc : Nl w vc c) (hne : ¬ (a.length = b.length ∧ a.length = c.length)) :
    Calls Try.prog 22 #[va, vb, vc] w (srowT (lackL a b c) w) := by
  unfold lackL
  rw [if_neg hne]
  obtain ⟨ad1, cap1, rfl, _⟩ := ha.form
  obtain ⟨ad2, cap2, rfl, _⟩ := hb.form
  obtain ⟨ad3, cap3, rfl, _⟩ := hc.form
  clear ha hb hc
  by_cases h1 : a.length = b.length
  · have e1 : ((a.length : Int) != (b.length : Int)) = false := by simp [h1]
    have e2 : ((a.length : Int) != (c.length : Int)) = true := by simp; omega
    clear h1 hne
    go_enter Try.func22, Try.ntmps22
    go_wp2
    go_ret
    exact ⟨_, rfl, SRow.nil _ _, Below.refl _ _⟩
  · have e1 : ((a.length : Int) != (b.length : Int)) = true := by simp; omega
    clear h1 hne
    go_enter Try.func22, Try.ntmps22
    go_wp2
    go_ret
    exact ⟨_, rfl, SRow.nil _ _, Below.refl _ _⟩

set_option maxHeartbeats 8000000 in
theorem reflack_c (a b c : List Int) (va vb vc : Value) (w : World) (ha : Nl w va a) (hb : Nl w vb b) (hc : Nl w vc c) (hn : a.length ≤ 1000) :
    Calls Try.prog 22 #[va, vb, vc] w (srowT (lackL a b c) w) := by
  by_cases hne : a.length = b.length ∧ a.length = c.length
  case neg => exact reflack_c_no a b c va vb vc w ha hb hc hne
  case pos =>
  unfold lackL
  rw [if_pos hne]
  obtain ⟨hb', hc'⟩ := hne
  have e1 : ((a.length : Int) != (b.length : Int)) = false := by simp [hb']
  have e2 : ((a.length : Int) != (c.length : Int)) = false := by simp [hc']
  have HBL := Lib.hid hb'
  have HCL := Lib.hid hc'
  clear hb' hc'
  obtain ⟨ad1, cap1, rfl, k1⟩ := ha.form
  obtain ⟨ad2, cap2, rfl, k2⟩ := hb.form
  obtain ⟨ad3, cap3, rfl, k3⟩ := hc.form
  have HA := Lib.hid k1
  have HB := Lib.hid k2
  have HC := Lib.hid k3
  obtain ⟨i0, hi, hz0, hz1, hz2⟩ := info_parts spanInfo
  have HI := Lib.hid hi
  have HZ0 := Lib.hid hz0
  have HZ1 := Lib.hid hz1
  have HZ2 := Lib.hid hz2
  clear ha hb hc k1 k2 k3 hi hz0 hz1 hz2
  go_enter Try.func22, Try.ntmps22
  go_wp2
  go_loopw [7, 8] (fun vs vk wr => ∃ (k : Nat) (done : List (Int × Int × Int)), k ≤ a.length ∧ vk = .int .i64 (k : Int) ∧ done.length ≤ k ∧ Hid (done ++ lackF k (a.drop k) (b.drop k) (c.drop k) = lackF 0 a b c) ∧ Hid (SRow wr w.heap.size vs done) ∧ Below w.heap.size w wr) (fun _ vk _ => a.length - (intOf vk).toNat)
  case atStart => exact ⟨0, [], by omega, rfl, by simp, Lib.hid rfl, Lib.hid (SRow.nil _ _), Below.refl _ _⟩
  case round =>
    obtain ⟨k, done, hk, rfl, hd, hx, HS, hbw⟩ := hrel
    have hsw := hbw.size
    by_cases hp : k < a.length
    · have hpb : k < b.length := by have := HBL.out; omega
      have hpc : k < c.length := by have := HCL.out; omega
      obtain ⟨g1, o1, rfl, q1⟩ := HA.out (by omega)
      obtain ⟨g2, o2, rfl, q2⟩ := HB.out (by omega)
      obtain ⟨g3, o3, rfl, q3⟩ := HC.out (by omega)
      have c1 := (hbw.cell (World.block_lt_of_cell? w _ (q1 k hp))).trans (q1 k hp)
      have c2 := (hbw.cell (World.block_lt_of_cell? w _ (q2 k hpb))).trans (q2 k hpb)
      have c3 := (hbw.cell (World.block_lt_of_cell? w _ (q3 k hpc))).trans (q3 k hpc)
      have hl1 := World.block_lt_of_cell? wr _ c1
      have hl2 := World.block_lt_of_cell? wr _ c2
      have hl3 := World.block_lt_of_cell? wr _ c3
      simp only at hl1 hl2 hl3
      have hx' := hx.out
      rw [lackF_drop a b c k hp hpb hpc] at hx'
      clear q1 q2 q3 hx
      generalize a[k] = m at c1 hx'
      generalize b[k] = y at c2 hx'
      generalize c[k] = f at c3 hx'
      have hrun := max2_run y f
      generalize mx y f = n at hrun hx'
      obtain ⟨ads, caps, hvs, _⟩ := HS.out.rd
      subst hvs
      by_cases hlt : n < m
      · rw [if_pos hlt] at hx'
        have e3 : decide (n < m) = true := by simpa using hlt
        have HX : Hid ((done ++ [((k : Int), wrap64 (n + 1), wrap64 (m - n))]) ++ lackF (k + 1) (a.drop (k + 1)) (b.drop (k + 1)) (c.drop (k + 1)) = lackF 0 a b c) := Lib.hid (by rw [List.append_assoc]; exact hx')
        clear hx' hlt
        go_wp2
        go_region
        clear hrun
        go_wp2_with (at_builtin; refine wpList_append_own _ rfl _ _ 28 rfl w.heap.size 44 i0 (.agg #[.int .i64 0, .int .i64 0, .int .i64 0]) 3 24 Try.underlying28 HI.out HZ0.out HZ1.out HZ2.out rfl (by decide) _ _ _ rfl (World.ownsRow.alloc (by exact HS.out) _) ⟨wr.heap.size, 0, none⟩ 1 1 [.int .i64 (k : Int), .int .i64 (wrap64 (n + 1)), .int .i64 (wrap64 (m - n))] rfl rfl (by exact cell_three_new _ _ _ _ _) (fun x hx => by simp at hx; rcases hx with rfl | rfl | rfl <;> rfl) (by unfold maxLen; omega) (by omega) (by simp; omega) ?_; intro v' w3 hown3 hgrow3 hnil3)
        have HO3 : Hid (SRow w3 w.heap.size v' (done ++ [((k : Int), wrap64 (n + 1), wrap64 (m - n))])) := Lib.hid (by
          unfold SRow
          rw [cs3_app, List.length_append]
          exact hown3)
        have HB3 : Hid (Below w.heap.size w w3) := Lib.hid (by
          refine (hbw.drew.alloc (by exact hsw) _).trans (below_of_grown hgrow3 (by simp; omega) ?_)
          intro g hg
          exact (World.ownsRow.lt HS.out g hg).1)
        clear hown3 hgrow3 hnil3
        go_roundw
        case rel => exact ⟨k + 1, _, hp, by go_num, by simp; omega, HX, HO3, HB3.out⟩
        case measure => simp [intOf]; omega
      · rw [if_neg hlt] at hx'
        have e3 : decide (n < m) = false := by simpa using hlt
        have HX := Lib.hid hx'
        clear hx' hlt
        go_wp2
        go_region
        go_wp2
        go_roundw
        case rel => exact ⟨k + 1, done, hp, by go_num, by omega, HX, HS, hbw.drew⟩
        case measure => simp [intOf]; omega
    · have hx' := hx.out
      rw [List.drop_eq_nil_of_le (by omega : a.length ≤ k), lackF_end, List.append_nil] at hx'
      have HX := Lib.hid hx'
      clear hx hx'
      go_wp2
      go_ret
      exact ⟨_, rfl, by rw [← HX.out]; exact HS.out, hbw⟩

set_option maxHeartbeats 4000000 in
theorem spans_c (l : List (Int × Int × Int)) (v1 v2 : Value) (w : World) (h1 : SRd w v1 l) (h2 : SRd w v2 l) (hn : l.length ≤ 1000000) :
    Calls Try.prog 21 #[v1, v2] w fun e w' => e = .returned (.bool true) ∧ Below w.heap.size w w' := by
  obtain ⟨ad1, cap1, rfl, k1⟩ := h1
  obtain ⟨ad2, cap2, rfl, k2⟩ := h2
  have H1 := Lib.hid k1
  have H2 := Lib.hid k2
  clear k1 k2
  go_enter Try.func21, Try.ntmps21
  go_wp2
  go_loopw [5] (fun v5 wr => ∃ k q : Nat, k ≤ l.length ∧ v5 = .int .i64 (k : Int) ∧ wr = w.drewN q) (fun v5 _ => l.length - (intOf v5).toNat)
  case atStart => exact ⟨0, 0, by omega, rfl, rfl⟩
  case round =>
    obtain ⟨k, q, hk, rfl, rfl⟩ := hrel
    by_cases hp : k < l.length
    · obtain ⟨g1, rfl, c1⟩ := H1.out (by omega)
      obtain ⟨g2, rfl, c2⟩ := H2.out (by omega)
      obtain ⟨c11, c12, c13⟩ := c1 k hp
      obtain ⟨c21, c22, c23⟩ := c2 k hp
      clear c1 c2 H1 H2
      generalize l[k] = u at c11 c12 c13 c21 c22 c23
      obtain ⟨u1, u2, u3⟩ := u
      simp only at c11 c12 c13 c21 c22 c23
      go_wp2
      go_quiet (fail)
      go_wp2
      go_roundw
      case rel => exact ⟨k + 1, q + nq, hp, by go_num, rfl⟩
      case measure => simp [intOf]; omega
    · go_wp2
      go_ret
      exact ⟨rfl, below_drewN (Below.refl _ _) q⟩

set_option maxHeartbeats 4000000 in
theorem overs_c (l : List (Int × Int × Int)) (v : Value) (w : World) (B : Nat) (h : SRow w B v l) (hn : l.length ≤ 1000000) (hB : B ≤ w.heap.size) :
    Calls Try.prog 25 #[v] w fun e w' => e = .returned (.tuple #[]) ∧ w.grownBy w' v.ownBlock := by
  obtain ⟨i0, hi, hz0, hz1, hz2⟩ := info_parts spanInfo
  have HI := Lib.hid hi
  have HZ0 := Lib.hid hz0
  have HZ1 := Lib.hid hz1
  have HZ2 := Lib.hid hz2
  clear hi hz0 hz1 hz2
  obtain ⟨ad, cap, rfl, _⟩ := h.rd
  have H := Lib.hid h
  clear h
  go_enter Try.func25, Try.ntmps25
  go_wp2
  go_loopw [2] (fun v2 wr => ∃ (k : Nat) (xs : List Value), k ≤ l.length ∧ v2 = .int .i64 (k : Int) ∧ Hid (wr.ownsRow B 44 3 (.slice ad l.length cap) l.length xs) ∧ Hid (w.grownBy wr (Value.slice ad l.length cap).ownBlock)) (fun v2 _ => l.length - (intOf v2).toNat)
  case atStart => exact ⟨0, _, by omega, rfl, H, Lib.hid (grown_refl _ _)⟩
  case round =>
    obtain ⟨k, xs, hk, rfl, HM, HG⟩ := hrel
    have hsz := HG.out.size
    clear H
    by_cases hp : k < l.length
    · obtain ⟨g, cap2, he, hg, hlt⟩ := World.ownsRow.form HM.out (by omega)
      simp only [Value.slice.injEq] at he
      obtain ⟨rfl, e4, e5⟩ := he
      clear e4 e5
      have hf1 := World.ownsRow.frozenAt HM.out (k * 3)
      have hf2 := World.ownsRow.frozenAt HM.out (k * 3 + 1)
      have hf3 := World.ownsRow.frozenAt HM.out (k * 3 + 2)
      have hl := HM.out.1
      have hc1 := World.ownsRow.cellAt HM.out (k * 3) (by omega)
      have hc2 := World.ownsRow.cellAt HM.out (k * 3 + 1) (by omega)
      have hc3 := World.ownsRow.cellAt HM.out (k * 3 + 2) (by omega)
      rw [List.getElem?_eq_getElem (by omega)] at hc1 hc2 hc3
      generalize xs[k * 3] = y1 at hc1
      generalize xs[k * 3 + 1] = y2 at hc2
      generalize xs[k * 3 + 2] = y3 at hc3
      obtain ⟨ho1, hg1⟩ := World.ownsRow.stored HM.out (k * 3) (.int .i64 (-9))
      obtain ⟨ho2, hg2⟩ := World.ownsRow.stored ho1 (k * 3 + 1) (.int .i64 0)
      obtain ⟨ho3, hg3⟩ := World.ownsRow.stored ho2 (k * 3 + 2) (.int .i64 0)
      have HO := Lib.hid ho3
      have HG2 := Lib.hid (grown_trans HG.out (grown_trans hg1 (grown_trans hg2 hg3)))
      clear ho1 ho2 ho3 hg1 hg2 hg3 hl
      go_wp2
      go_roundw
      case rel => exact ⟨k + 1, _, hp, by go_num, HO, HG2⟩
      case measure => simp [intOf]; omega
    · go_wp2_with (at_builtin; refine wpList_append_own _ rfl _ _ 28 rfl B 44 i0 (.agg #[.int .i64 0, .int .i64 0, .int .i64 0]) 3 24 Try.underlying28 HI.out HZ0.out HZ1.out HZ2.out rfl (by decide) _ _ _ rfl (World.ownsRow.alloc HM.out _) ⟨wr.heap.size, 0, none⟩ 1 1 [.int .i64 (-9), .int .i64 0, .int .i64 0] rfl rfl (cell_three_new _ _ _ _ _) (fun x hx => by simp at hx; rcases hx with rfl | rfl <;> rfl) (by unfold maxLen; omega) (by omega) (by simp; omega) ?_; intro v' w3 hown3 hgrow3 hnil3)
      go_end0
      exact ⟨rfl, grown_trans HG.out (grown_trans (World.grownBy_alloc _ _ _) hgrow3)⟩

end Go.Proofs.Ytmdojflpnikhnaa
