/-
  RecordRows, as a call: it answers true.
-/
import Derived.Test.YtbhhbedpmjamfaaDoorRecGreat
import Derived.Test.YtbhhbedpmjamfaaDoorRecBackLaw
namespace Go.Proofs.YtbhhbedpmjamfaaDoor
open Go.RowKit Go.Lib

def flatL : List Rc → List Int
  | [] => []
  | r :: t => layL r ++ flatL t
theorem flatL_append : ∀ (a b : List Rc), flatL (a ++ b) = flatL a ++ flatL b
  | [], _ => rfl
  | r :: t, b => by rw [List.cons_append, flatL, flatL, flatL_append t b, List.append_assoc]
theorem flatL_ok : ∀ l : List Rc, OkB (flatL l)
  | [] => fun x hx => by simp [flatL] at hx
  | r :: t => (layL_ok r).append (flatL_ok t)
theorem flatL_len : ∀ (l : List Rc), (∀ r ∈ l, r.t.size ≤ 300) → (flatL l).length ≤ l.length * 312
  | [], _ => Nat.zero_le _
  | r :: t, h => by
    have h1 := flatL_len t (fun x hx => h x (List.mem_cons_of_mem _ hx))
    have h2 := h r (List.mem_cons_self ..)
    rw [flatL, List.length_append, layL_len, List.length_cons]
    omega
theorem flatL_take (l : List Rc) (k : Nat) (hk : k < l.length) : flatL (l.take (k + 1)) = flatL (l.take k) ++ layL l[k] := by
  rw [List.take_succ_eq_append_getElem hk, flatL_append]
  simp [flatL]
theorem flatL_split (l : List Rc) (k : Nat) (hk : k < l.length) : flatL l = flatL (l.take k) ++ (layL l[k] ++ flatL (l.drop (k + 1))) := by
  conv => lhs; rw [← List.take_append_drop k l]
  rw [flatL_append, List.drop_eq_getElem_cons hk, flatL]

set_option maxHeartbeats 4000000 in
theorem rows_great (l : List Rc) (v : Value) (w : World) (hT : Tabs w) (h : Rl w v l) (hl : l.length ≤ maxLen) (hg : greatB l 20 = true) :
    Calls Tryd.prog 9 #[v] w fun e w' => e = .returned (.bool true) ∧ Below w.heap.size w w' := by
  have HG := Lib.hid (great_c l v 20 w h (by decide) hl)
  rw [hg] at HG
  have HT := Lib.hid hT
  obtain ⟨ad, cap, rfl, _⟩ := h.form
  clear h hT
  go_enter Tryd.func9, Tryd.ntmps9
  go_wp2_with fail
  refine HG.out.mono ?_
  rintro e w1 ⟨rfl, b1⟩
  go_wp2_with fail
  refine (awake_c w1 (HT.out.below b1)).mono ?_
  rintro e w2 ⟨rfl, b2⟩
  go_wp2
  go_ret
  exact ⟨rfl, bn b1 b2⟩

set_option maxHeartbeats 8000000 in
set_option maxRecDepth 100000 in
theorem rows_few (l : List Rc) (v : Value) (w : World) (hT : Tabs w) (h : Rl w v l) (hg : greatB l 20 = false) :
    Calls Tryd.prog 9 #[v] w fun e w' => e = .returned (.bool true) ∧ Below w.heap.size w w' := by
  obtain ⟨hl, hs⟩ := greatB_no hg
  have HG := Lib.hid (great_c l v 20 w h (by decide) (by unfold maxLen; omega))
  rw [hg] at HG
  have HT := Lib.hid hT
  have HS := Lib.hid hs
  obtain ⟨ad, cap, rfl, hc, hR⟩ := h.form
  have HR := Lib.hid hR
  clear h hT hR hs hg
  go_enter Tryd.func9, Tryd.ntmps9
  go_wp2_with fail
  refine HG.out.mono ?_
  rintro e w1 ⟨rfl, b1⟩
  have B1 := Lib.hid b1
  clear b1 HG
  go_wp2
  go_loopw [3, 4] (fun v3 v4 wr => ∃ (k : Nat) (acc : List Int), k ≤ l.length ∧ v4 = .int .i64 (k : Int) ∧ Hid (acc = flatL (l.take k)) ∧ Hid (∀ r ∈ l.take k, mayR r = true) ∧ Hid (BRow wr w1.heap.size v3 acc) ∧ Hid (Below w1.heap.size w1 wr)) (fun _ v4 _ => l.length - (RowKit.intOf v4).toNat)
  case atStart => exact ⟨0, [], by omega, rfl, Lib.hid rfl, Lib.hid (fun r hr => by simp at hr), Lib.hid (BRow.nil _ _), Lib.hid (Below.refl _ _)⟩
  case round =>
    obtain ⟨k, acc, hk, rfl, ha, hM, hrow, hB⟩ := hrel
    by_cases hp : k < l.length
    · have hp2 : decide (k < l.length) = true := by simpa using hp
      obtain ⟨b, o, rfl, hRR⟩ := HR.out (by omega)
      obtain ⟨c0, c1, c2, c3, c4⟩ := (hRR.below (bn B1.out hB.out)) k hp
      have hs := HS.out l[k] (List.getElem_mem hp)
      have htk := flatL_take l k hp
      have hmem : ∀ r ∈ l.take (k + 1), r ∈ l.take k ∨ r = l[k] := fun r hr => by
        rw [List.take_succ_eq_append_getElem hp] at hr
        rcases List.mem_append.1 hr with hr | hr
        · exact .inl hr
        · exact .inr (by simpa using hr)
      generalize l[k] = R at c0 c1 c2 c3 c4 hs htk hmem
      have hbl : b < wr.heap.size := World.block_lt_of_cell? wr _ c0
      have BB := Lib.hid (bn B1.out hB.out)
      have HTK := Lib.hid htk
      have HMEM := Lib.hid hmem
      clear hRR htk hmem
      cases hm : mayR R
      · have HLA := Lib.hid (lay_no R wr (by omega) (HT.out.below BB.out) hm)
        have HMA := Lib.hid (fun W (hw : Below w.heap.size w W) => may_c R W (by omega) (HT.out.below hw))
        rw [hm] at HMA
        clear hm
        go_wp2_with fail
        refine HLA.out.mono ?_
        rintro e w2 ⟨ad2, cap2, rfl, b2⟩
        have f : ∀ {p : Addr} {v : Value}, wr.cell? p = some v → w2.cell? p = some v := fun {p v} hc => (b2.cell (World.block_lt_of_cell? wr p hc)).trans hc
        have d0 := f c0
        have d1 := f c1
        have d2 := f c2
        have d3 := f c3
        have d4 := f c4
        have hbl2 : b < w2.heap.size := World.block_lt_of_cell? w2 _ d0
        have B2 := Lib.hid (bn BB.out b2)
        clear f c0 c1 c2 c3 c4 b2 hbl
        go_wp2_with fail
        refine (HMA.out _ B2.out).mono ?_
        rintro e w3 ⟨rfl, b3⟩
        have B3 := Lib.hid (bn B2.out b3)
        clear b3
        go_wp2_with fail
        refine (awake_c w3 (HT.out.below B3.out)).mono ?_
        rintro e w4 ⟨rfl, b4⟩
        go_wp2
        go_ret
        exact ⟨rfl, bn B3.out b4⟩
      · have HLA := Lib.hid (lay_yes R wr (by omega) (HT.out.below BB.out) hm)
        have HMM := Lib.hid hm
        have HSZ := Lib.hid (flatL_len (l.take k) (fun x hx => HS.out x (List.mem_of_mem_take hx)))
        have hac : acc.length ≤ 20 * 312 := by
          rw [ha.out]
          have h1 := HSZ.out
          rw [List.length_take] at h1
          have : min k l.length * 312 ≤ 20 * 312 := Nat.mul_le_mul_right _ (by omega)
          omega
        clear hm
        go_wp2_with fail
        refine HLA.out.mono ?_
        rintro e w2 ⟨ad2, cap2, n2, rfl, hn2, r2, b2⟩
        obtain ⟨q3, w3, ha3, k3, b3⟩ := bapp_run acc (layL R) _ _ w2 w1.heap.size (hrow.out.below b2) r2.nl (by rw [layL_len]; omega) (Nat.le_trans hB.out.size b2.size)
        have A3 := Lib.hid ha3
        have B3 : Hid (Below w1.heap.size w1 w3) := Lib.hid ((bn hB.out b2).trans b3)
        have K3 : Hid (BRow w3 w1.heap.size q3 (acc ++ layL R)) := Lib.hid k3
        have HA3 : Hid (acc ++ layL R = flatL (l.take (k + 1))) := Lib.hid (by rw [HTK.out, ha.out])
        have HM3 : Hid (∀ r ∈ l.take (k + 1), mayR r = true) := Lib.hid (fun r hr => by
          rcases HMEM.out r hr with h | rfl
          · exact hM.out r h
          · exact HMM.out)
        clear ha3 k3 b3 b2 r2 c0 c1 c2 c3 c4 hbl hp2
        go_wp2_with (at_builtin; refine wpList_append_run rfl _ _ 39 rfl _ _ A3.out ?_)
        go_roundw
        case rel => exact ⟨k + 1, acc ++ layL R, hp, by go_num, HA3, HM3, K3, B3⟩
        case measure => simp [RowKit.intOf]; omega
    · have hkk : k = l.length := by omega
      subst hkk
      have ha' := ha.out
      have hM' := hM.out
      rw [List.take_length] at ha' hM'
      subst ha'
      obtain ⟨ad3, cap3, rfl, hc3, _⟩ := hrow.out.blc
      obtain ⟨n3, hn3⟩ : ∃ n3, n3 = (flatL l).length := ⟨_, rfl⟩
      rw [← hn3] at hrow hc3 ⊢
      have HN3 := Lib.hid hn3
      have hn3b : n3 ≤ 6240 := by
        rw [hn3]
        have h1 := flatL_len l HS.out
        have : l.length * 312 ≤ 20 * 312 := Nat.mul_le_mul_right _ hl
        omega
      have HMM := Lib.hid hM'
      have BB := Lib.hid (bn B1.out hB.out)
      clear hn3 ha hM hM' hB
      obtain ⟨w0, rfl⟩ : ∃ w0, w0 = wr := ⟨_, rfl⟩
      go_wp2
      go_loopw [7, 8] (fun v7 v8 w2 => ∃ (k A : Nat), k ≤ l.length ∧ v8 = .int .i64 (k : Int) ∧ v7 = .int .i64 (A : Int) ∧ Hid (A = (flatL (l.take k)).length) ∧ Hid (Below w0.heap.size w0 w2)) (fun _ v8 _ => l.length - (RowKit.intOf v8).toNat)
      case atStart => exact ⟨0, 0, by omega, rfl, rfl, Lib.hid rfl, Lib.hid (Below.refl _ _)⟩
      case round =>
        obtain ⟨k, A, hk, rfl, rfl, hA, hB2⟩ := hrel
        by_cases hp : k < l.length
        · have hp2 : decide (k < l.length) = true := by simpa using hp
          obtain ⟨b, o, rfl, hRR⟩ := HR.out (by omega)
          have hsp := flatL_split l k hp
          have htk := flatL_take l k hp
          have hmr := HMM.out l[k] (List.getElem_mem hp)
          have hs := HS.out l[k] (List.getElem_mem hp)
          have hcells := (hRR.below (bn BB.out hB2.out)) k hp
          have HR2 : Hid (Calls Tryd.prog 32 #[.slice ad3 n3 cap3, .int .i64 (A : Int)] wr fun e w' => ∃ X : Nat, e = .returned (.tuple #[.agg #[.int .i64 l[k].o, .int .i64 l[k].s, .int .i64 l[k].w, .int .i64 l[k].c, .string l[k].t], .int .i64 (X : Int), .bool true]) ∧ Hid (X = (flatL (l.take (k + 1))).length) ∧ A < X ∧ X ≤ n3 ∧ Below wr.heap.size wr w') := Lib.hid (by
            have hb := (hrow.out.below hB2.out).blc
            have hok := flatL_ok l
            rw [hsp] at hb hok
            have h := read_lay l[k] (flatL (l.take k)) (flatL (l.drop (k + 1))) _ wr hb hok (by rw [← hsp, ← HN3.out]; omega) hmr (HT.out.below (bn BB.out hB2.out))
            rw [← hA.out] at h
            have e2 : (flatL (l.take (k + 1))).length = A + 12 + l[k].t.size := by rw [htk, List.length_append, layL_len, hA.out]; omega
            have e3 : n3 = A + 12 + l[k].t.size + (flatL (l.drop (k + 1))).length := by rw [HN3.out, hsp, List.length_append, List.length_append, layL_len, hA.out]; omega
            refine h.mono fun e w' ⟨h1, h2⟩ => ⟨A + 12 + l[k].t.size, ?_, Lib.hid e2.symm, by omega, by omega, h2⟩
            rw [h1]
            simp)
          generalize l[k] = R at hcells HR2
          clear hRR hsp htk hmr hs
          obtain ⟨c0, c1, c2, c3, c4⟩ := hcells
          have hbl : b < wr.heap.size := World.block_lt_of_cell? wr _ c0
          go_wp2_with fail
          refine HR2.out.mono ?_
          rintro e w3 ⟨X, rfl, hX, hAX, hXn, b3⟩
          have f : ∀ {p : Addr} {v : Value}, wr.cell? p = some v → w3.cell? p = some v := fun {p v} hc => (b3.cell (World.block_lt_of_cell? wr p hc)).trans hc
          have d0 := f c0
          have d1 := f c1
          have d2 := f c2
          have d3 := f c3
          have d4 := f c4
          have hbl3 : b < w3.heap.size := World.block_lt_of_cell? w3 _ d0
          have t1 : decide (X ≤ A) = false := by simp; omega
          have t2 : decide (n3 < X) = false := by simp; omega
          have t3 : decide ((X : Int) ≤ (A : Int)) = false := by simp; omega
          have t4 : decide ((n3 : Int) < (X : Int)) = false := by simp; omega
          have q := eq_rec R R
          rw [same_self] at q
          have B3 := Lib.hid (bn hB2.out b3)
          clear f c0 c1 c2 c3 c4 b3 hbl HR2
          go_wp2_with fail
          go_quiet (fail)
          go_wp2
          go_roundw
          case rel => exact ⟨k + 1, X, hp, by go_num, rfl, hX, Lib.hid (below_drewN (bn B3.out (alloc_below _ _)) _)⟩
          case measure => simp [RowKit.intOf]; omega
        · have hkk : k = l.length := by omega
          subst hkk
          have hA' := hA.out
          rw [List.take_length, ← HN3.out] at hA'
          subst hA'
          have HR2 : Hid (Calls Tryd.prog 32 #[.slice ad3 A cap3, .int .i64 (A : Int)] wr fun e w' => e = .returned (.tuple #[.agg #[.int .i64 0, .int .i64 0, .int .i64 0, .int .i64 0, .string ⟨#[]⟩], .int .i64 0, .bool false]) ∧ Below wr.heap.size wr w') := Lib.hid (by
            have h := read_short (flatL l) ad3 cap3 (A : Int) wr (by omega) (by rw [← HN3.out]; omega) (by rw [← HN3.out]; omega) (by omega)
            rw [← HN3.out] at h
            exact h)
          have B2 := Lib.hid (bn BB.out hB2.out)
          clear hA hB2 hrow
          go_wp2_with fail
          refine HR2.out.mono ?_
          rintro e w3 ⟨rfl, b3⟩
          have B3 := Lib.hid (bn B2.out b3)
          clear b3
          go_wp2_with fail
          refine (awake_c _ (HT.out.below (bn B3.out (alloc_below _ _)))).mono ?_
          rintro e w4 ⟨rfl, b4⟩
          go_wp2
          go_ret
          exact ⟨rfl, bn (bn B3.out (alloc_below _ _)) b4⟩

end Go.Proofs.YtbhhbedpmjamfaaDoor
