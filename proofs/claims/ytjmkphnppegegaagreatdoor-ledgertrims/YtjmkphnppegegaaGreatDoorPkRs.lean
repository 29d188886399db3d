/-
  Read, by contract, of any bytes, at any place.
-/
import Derived.Test.YtjmkphnppegegaaGreatDoorPkRr
import Derived.Test.YtjmkphnppegegaaGreatDoorPkA
namespace Go.Proofs.YtjmkphnppegegaaGreatDoor
open Go.RowKit Go.Lib
set_option maxRecDepth 100000
/-- The slice v holds the bytes l. -/
def BlC (w : World) (v : Value) (l : List Int) : Prop :=
  ∃ ad cap, v = .slice ad l.length cap ∧ l.length ≤ cap ∧ (0 < l.length → ∃ b o, ad = some ⟨b, o, none⟩ ∧ Byts w b o l)
theorem BlC.below {w w' : World} {v : Value} {l : List Int} (h : BlC w v l) (hb : Below w.heap.size w w') : BlC w' v l := by
  obtain ⟨ad, cap, h1, h2, h3⟩ := h
  exact ⟨ad, cap, h1, h2, fun h0 => by obtain ⟨b, o, e, hs⟩ := h3 h0; exact ⟨b, o, e, hs.below hb⟩⟩
theorem BRow.blc {w : World} {B : Nat} {v : Value} {l : List Int} (h : BRow w B v l) : BlC w v l := by
  rcases h.2 with ⟨rfl, h0⟩ | ⟨g, cap, cur, rfl, _, _, hn, _⟩
  · have : l = [] := List.eq_nil_of_length_eq_zero h0
    subst this
    exact ⟨none, 0, rfl, Nat.le_refl _, fun h => by simp at h⟩
  · refine ⟨_, cap, rfl, hn, fun h0 => ?_⟩
    obtain ⟨ad, cap', e, h3⟩ := h.nl.form
    obtain ⟨b, o, e2, h4⟩ := h3 h0
    cases e
    exact ⟨b, o, e2, h4⟩

theorem atOk_neg {l : List Int} {at_ : Int} (h : at_ < 0) : atOk l at_ = false := by
  unfold atOk
  rw [decide_eq_false (by omega), Bool.false_and]
theorem atOk_short {l : List Int} {at_ : Int} (_ : 0 ≤ at_) (h : (l.length : Int) - at_ < 12) : atOk l at_ = false := by
  unfold atOk rdOk
  cases hd : decide (at_ ≤ (l.length : Int))
  · simp
  · rw [decide_eq_true_eq] at hd
    rw [List.length_drop, decide_eq_false (show ¬ 12 ≤ l.length - at_.toNat by omega)]
    simp
theorem atOk_long {l : List Int} {a : Nat} (h : a + 12 ≤ l.length) : atOk l (a : Int) = (decide (hdN (l.drop a) ≤ ((l.length - (a + 12) : Nat) : Int)) && mayR (rdR (l.drop a))) := by
  unfold atOk rdOk
  rw [Int.toNat_natCast, List.length_drop, decide_eq_true (show (0 : Int) ≤ (a : Int) by omega), decide_eq_true (show (a : Int) ≤ (l.length : Int) by omega), decide_eq_true (show 12 ≤ l.length - a by omega), Bool.true_and, Bool.true_and, Bool.true_and]
  rw [show ((l.length - a : Nat) : Int) - 12 = ((l.length - (a + 12) : Nat) : Int) from by omega]

theorem read_c (l : List Int) (v : Value) (at_ : Int) (w : World) (h : BlC w v l) (ho : OkB l) (hl : l.length ≤ 1000000) (hm : at_ ≤ 9223372036854775807) (hT : Tabs w) :
    Calls Tryz.prog 115 #[v, .int .i64 at_] w (readT l at_ w) := by
  obtain ⟨ad, cap, rfl, hcl, hb⟩ := h
  unfold readT
  by_cases h0 : at_ < 0
  · rw [atOk_neg h0]
    exact read_neg _ at_ w h0
  · obtain ⟨a, rfl⟩ := Int.eq_ofNat_of_zero_le (show 0 ≤ at_ by omega)
    by_cases h1 : (l.length : Int) - (a : Int) < 12
    · rw [atOk_short (by omega) h1]
      exact read_short l ad cap _ w (by omega) hl h1 hm
    · have h12 : a + 12 ≤ l.length := by omega
      obtain ⟨b, o, rfl, hby⟩ := hb (by omega)
      clear hb
      rw [atOk_long h12, Int.toNat_natCast]
      have hT12 := take_take12 (l.drop a)
      have HRH : Hid (∀ W, Below w.heap.size w W → Calls Tryz.prog 142 #[.slice (some ⟨b, o + a, none⟩) 12 (cap - a)] W fun e w' => e = .returned (.agg #[.int .i64 (hdO (l.drop a)), .int .i64 (hdS (l.drop a)), .int .i64 (hdW (l.drop a)), .int .i64 (hdC (l.drop a)), .int .i64 (hdN (l.drop a))]) ∧ Below W.heap.size W w') := Lib.hid (fun W hw => by
        have h := readHead_c ((l.drop a).take 12) b (o + a) (cap - a) W ((hby.below hw).drop a |>.take 12) ((ho.drop a).take 12) (by simp; omega) (by omega)
        rw [hT12.1, hT12.2.1, hT12.2.2.1, hT12.2.2.2.1, hT12.2.2.2.2] at h
        exact h)
      have hN := hdN_bound (l.drop a) (ho.drop a)
      by_cases hn : hdN (l.drop a) ≤ ((l.length - (a + 12) : Nat) : Int)
      · rw [decide_eq_true hn, Bool.true_and]
        have hd : (l.drop a).drop 12 = l.drop (a + 12) := by rw [List.drop_drop]
        have HM : Hid (∀ W, Below w.heap.size w W → Calls Tryz.prog 58 #[.agg #[.int .i64 (rdR (l.drop a)).o, .int .i64 (rdR (l.drop a)).s, .int .i64 (rdR (l.drop a)).w, .int .i64 (rdR (l.drop a)).c, .string (rdR (l.drop a)).t]] W fun e w' => e = .returned (.bool (mayR (rdR (l.drop a)))) ∧ Below W.heap.size W w') := Lib.hid (fun W hw => rcmay_c (rdR (l.drop a)) W (by show (strOfNums _).size ≤ _; rw [strOfNums_size, List.length_take]; omega) (hT.below hw))
        by_cases hc : cap = a + 12
        · have e1 : l.length = a + 12 := by omega
          rw [e1] at hn ⊢
          subst hc
          have e0 : hdN (l.drop a) = 0 := by simp at hn; omega
          have HCV : Hid (∀ W, Below w.heap.size w W → (convert 78 9 (.slice (some ⟨b, o, none⟩) 0 0)).run Tryz.prog W = .ok (.string (rdR (l.drop a)).t) W) := Lib.hid (fun W _ => by
            have h := run_convert_bytes_arg (P := Tryz.prog) W 78 5 Tryz.underlying78 Tryz.underlying5 b o 0 0 [] rfl (fun i hi => by omega) 9 Tryz.underlying9
            rw [h]
            unfold rdR
            rw [e0]
            rfl)
          rw [show a + 12 - a = 12 from by omega, e0] at HRH
          rw [e0, Int.add_zero]
          cases hM : mayR (rdR (l.drop a))
          · rw [hM] at HM
            exact read_no_e b o a _ _ _ _ _ w (by omega) HRH HCV HM
          · rw [hM] at HM
            exact read_yes_e b o a _ _ _ _ _ w (by omega) HRH HCV HM
        · obtain ⟨n, hn0⟩ := Int.eq_ofNat_of_zero_le hN.1
          have hn1 : n ≤ l.length - (a + 12) := by rw [hn0] at hn; exact Int.ofNat_le.1 hn
          have HCV : Hid (∀ W, Below w.heap.size w W → (convert 78 9 (.slice (some ⟨b, o + (a + 12), none⟩) n (cap - (a + 12)))).run Tryz.prog W = .ok (.string (rdR (l.drop a)).t) W) := Lib.hid (fun W hW => by
            have h := run_convert_bytes_arg (P := Tryz.prog) W 78 5 Tryz.underlying78 Tryz.underlying5 b (o + (a + 12)) n (cap - (a + 12)) ((l.drop (a + 12)).take n) (by simp; omega) (fun i hi => by
              have h1 := ((hby.drop (a + 12)).below hW) i (by rw [List.length_drop]; omega)
              rw [h1, List.getD_eq_getElem?_getD, List.getElem?_eq_getElem (show i < ((l.drop (a + 12)).take n).length by simp; omega), List.getElem_take]; rfl) 9 Tryz.underlying9
            rw [h]
            unfold rdR
            rw [hn0, hd, Int.toNat_natCast])
          rw [hn0] at HRH
          rw [hn0]
          cases hM : mayR (rdR (l.drop a))
          · rw [hM] at HM
            exact read_no_m l.length b o cap a n _ _ _ _ _ w hl hcl h12 hc hn1 HRH HCV HM
          · rw [hM] at HM
            exact read_yes_m l.length b o cap a n _ _ _ _ _ w hl hcl h12 hc hn1 HRH HCV HM
      · rw [decide_eq_false hn, Bool.false_and]
        by_cases hc : cap = a + 12
        · have e1 : l.length = a + 12 := by omega
          rw [e1] at hn ⊢
          subst hc
          rw [show a + 12 - a = 12 from by omega] at HRH
          exact read_over_e b o a _ _ _ _ w (by omega) _ HRH (by simp at hn; simpa using hn)
        · exact read_over_m l.length b o cap a _ _ _ _ w hl hcl h12 hc _ HRH (by omega)
end Go.Proofs.YtjmkphnppegegaaGreatDoor
/-
  Chapter 4's own Read, by contract.
-/
namespace Go.Proofs.YtjmkphnppegegaaGreatDoor
open Go.RowKit Go.Lib
set_option maxRecDepth 100000

end Go.Proofs.YtjmkphnppegegaaGreatDoor
/-
  PLAIN LEAN: what was laid is read again.
-/
namespace Go.Proofs.YtjmkphnppegegaaGreatDoor
open Go.RowKit Go.Lib
set_option maxRecDepth 100000
theorem txt_ok (t : ByteArray) : OkB (txt t) := fun x hx => by
  obtain ⟨b, _, rfl⟩ := List.mem_map.1 hx
  have := b.toNat_lt
  omega
theorem headL_ok (o s w c n : Int) : OkB (headL o s w c n) := ((((numB_ok _ _).append (numB_ok _ _)).append (numB_ok _ _)).append (numB_ok _ _)).append (numB_ok _ _)
theorem layL_ok (r : Rc) : OkB (layL r) := (headL_ok _ _ _ _ _).append (txt_ok _)
theorem str_txt (t : ByteArray) : strOfNums (txt t) = t := by
  have e : ((txt t).map fun n => UInt8.ofNat n.toNat) = t.data.toList := by
    unfold txt
    rw [List.map_map]
    conv => rhs; rw [← List.map_id t.data.toList]
    apply List.map_congr_left
    intro b _
    simp
  unfold strOfNums
  rw [e]

theorem hd_head (o s w c n : Int) (t : List Int) : (headL o s w c n ++ t).take 1 = numB o 1 ∧ ((headL o s w c n ++ t).drop 1).take 2 = numB s 2 ∧ ((headL o s w c n ++ t).drop 3).take 6 = numB w 6 ∧ ((headL o s w c n ++ t).drop 9).take 2 = numB c 2 ∧ ((headL o s w c n ++ t).drop 11).take 1 = numB n 1 ∧ (headL o s w c n ++ t).drop 12 = t := by
  simp [headL, numB]

theorem inB_iff {n m : Int} (h : inB n m = true) : 0 ≤ n ∧ n ≤ m := by
  unfold inB at h
  simpa using h
theorem mayR_bounds {r : Rc} (h : mayR r = true) : (0 ≤ r.o ∧ r.o < 8) ∧ (1 ≤ r.s ∧ r.s ≤ 1023) ∧ (0 ≤ r.w ∧ r.w ≤ 1099511627776) ∧ (0 ≤ r.c ∧ r.c ≤ 65535) ∧ r.t.size ≤ 120 := by
  have hz := mayR_size h
  unfold mayR keyB smayB at h
  simp only [Bool.and_eq_true, decide_eq_true_eq] at h
  have h1 := inB_iff h.2.1.1
  have h2 := inB_iff h.2.1.2
  exact ⟨⟨h.1.1, h.1.2.1⟩, ⟨h.1.2.2.1, h.1.2.2.2⟩, h1, h2, hz⟩

/-- What was laid is read again, whatever stands behind it. -/
theorem lay_read (r : Rc) (t : List Int) (h : mayR r = true) : rdR (layL r ++ t) = r ∧ hdN (layL r ++ t) = (r.t.size : Int) ∧ rdOk (layL r ++ t) = true := by
  obtain ⟨h1, h2, h3, h4, h5⟩ := mayR_bounds h
  have e : layL r ++ t = headL r.o r.s r.w r.c (r.t.size : Int) ++ (txt r.t ++ t) := by unfold layL; rw [List.append_assoc]
  obtain ⟨k1, k2, k3, k4, k5, k6⟩ := hd_head r.o r.s r.w r.c (r.t.size : Int) (txt r.t ++ t)
  have eN : hdN (layL r ++ t) = (r.t.size : Int) := by
    rw [e]; unfold hdN; rw [k5]; exact un_num _ _ (by omega) (by omega)
  have eR : rdR (layL r ++ t) = r := by
    unfold rdR
    rw [eN]
    rw [e]
    unfold hdO hdS hdW hdC
    rw [k1, k2, k3, k4, k6, un_num r.o 1 (by omega) (by omega), un_num r.s 2 (by omega) (by omega), un_num r.w 6 (by omega) (by omega), un_num r.c 2 (by omega) (by omega), Int.toNat_natCast, List.take_append_of_le_length (by rw [txt_len]; exact Nat.le_refl _), List.take_of_length_le (by rw [txt_len]; exact Nat.le_refl _), str_txt]
  refine ⟨eR, eN, ?_⟩
  unfold rdOk
  rw [eR, eN, h, List.length_append, layL_len]
  simp
  omega
theorem lay_at (r : Rc) (a t : List Int) (h : mayR r = true) : atOk (a ++ (layL r ++ t)) (a.length : Int) = true ∧ rdR ((a ++ (layL r ++ t)).drop (a.length : Int).toNat) = r ∧ hdN ((a ++ (layL r ++ t)).drop (a.length : Int).toNat) = (r.t.size : Int) := by
  have e : (a ++ (layL r ++ t)).drop (a.length : Int).toNat = layL r ++ t := by rw [Int.toNat_natCast, List.drop_left]
  obtain ⟨h1, h2, h3⟩ := lay_read r t h
  unfold atOk
  rw [e, h1, h2, h3]
  simp
  omega
theorem rclay_cut (r : Rc) (a : List Int) (k : Nat) (h : mayR r = true) (hk : k < (layL r).length) : atOk (a ++ (layL r).take k) (a.length : Int) = false := by
  have e : (a ++ (layL r).take k).drop (a.length : Int).toNat = (layL r).take k := by rw [Int.toNat_natCast, List.drop_left]
  unfold atOk rdOk
  rw [e]
  by_cases h12 : 12 ≤ k
  · have hN : hdN ((layL r).take k) = (r.t.size : Int) := by
      have h1 := (lay_read r [] h).2.1
      rw [List.append_nil] at h1
      rw [← h1]
      have := (take_take12 (layL r)).2.2.2.2
      have h2 := (take_take12 ((layL r).take k)).2.2.2.2
      rw [List.take_take, Nat.min_eq_left h12] at h2
      rw [← h2, this]
    rw [layL_len] at hk
    rw [hN, List.length_take, layL_len, decide_eq_false (show ¬ ((r.t.size : Int) ≤ ((min k (12 + r.t.size) : Nat) : Int) - 12) by omega)]
    simp
  · rw [List.length_take, decide_eq_false (show ¬ 12 ≤ min k (layL r).length by omega)]
    simp
theorem sameR_iff (a b : Rc) : sameR a b = true ↔ a = b := by
  unfold sameR
  constructor
  · intro h
    simp only [Bool.and_eq_true, beq_iff_eq] at h
    obtain ⟨⟨h1, h2⟩, ⟨h3, h4⟩, h5⟩ := h
    have h6 : a.t = b.t := by
      rw [Lib.toList_data, Lib.toList_data] at h5
      have h7 : a.t.data = b.t.data := Array.ext' h5
      cases ha : a.t with | mk da => cases hb : b.t with | mk db => rw [ha, hb] at h7; simp at h7; rw [h7]
    cases a; cases b; simp_all
  · rintro rfl
    simp
theorem rclay_inj (a b : Rc) (ha : mayR a = true) (hb : mayR b = true) : sameB (layL a) (layL b) = sameR a b := by
  cases h : sameR a b
  · cases h2 : sameB (layL a) (layL b)
    · rfl
    · rw [sameB_iff] at h2
      have h3 := (lay_read a [] ha).1
      have h4 := (lay_read b [] hb).1
      rw [h2, h4] at h3
      rw [(sameR_iff a b).2 h3.symm] at h
      cases h
  · rw [sameR_iff] at h
    subst h
    exact (sameB_iff _ _).2 rfl
end Go.Proofs.YtjmkphnppegegaaGreatDoor
