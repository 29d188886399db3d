/-
  readHead, by contract.
-/
import Derived.Test.YtchkadifjbmmpaaDoorWRecTake
namespace Go.Proofs.YtchkadifjbmmpaaDoor.R
open Go.RowKit Go.Lib
set_option maxRecDepth 100000

def hdO (h : List Int) : Int := unB 0 (h.take 1)
def hdS (h : List Int) : Int := unB 0 ((h.drop 1).take 2)
def hdW (h : List Int) : Int := unB 0 ((h.drop 3).take 6)
def hdC (h : List Int) : Int := unB 0 ((h.drop 9).take 2)
def hdN (h : List Int) : Int := unB 0 ((h.drop 11).take 1)

theorem Byts.drop {w : World} {b o : Nat} {l : List Int} (h : Byts w b o l) (k : Nat) : Byts w b (o + k) (l.drop k) := fun j hj => by
  rw [List.length_drop] at hj
  have h1 := h (k + j) (by omega)
  rw [List.getElem_drop, Nat.add_assoc]
  exact h1
theorem Byts.take {w : World} {b o : Nat} {l : List Int} (h : Byts w b o l) (k : Nat) : Byts w b o (l.take k) := fun j hj => by
  rw [List.length_take] at hj
  have h1 := h j (by omega)
  rw [List.getElem_take]
  exact h1

/-- take, wherever it stands in a list of twelve. -/
theorem take_at (h : List Int) (b o cap k m : Nat) (w : World) (hb : Byts w b o h) (ho : OkB h) (hl : h.length = 12) (hcl : 12 ≤ cap) (hkm : k + m < 12) (hm6 : m ≤ 6) (h0 : 0 < m) :
    Calls Tryd.prog 81 #[.slice (some ⟨b, o + k, none⟩) (12 - k : Nat) (cap - k), .int .i64 (m : Int)] w (takeT (unB 0 ((h.drop k).take m)) (.slice (some ⟨b, o + (k + m), none⟩) (12 - (k + m) : Nat) (cap - (k + m))) w) := by
  have h1 := take_mid (h.drop k) b (o + k) (cap - k) m w (hb.drop k) (ho.drop k) (by rw [List.length_drop]; omega) hm6 h0 (by rw [List.length_drop]; omega) (by rw [List.length_drop]; omega) (by omega)
  rw [List.length_drop, hl] at h1
  rw [show 12 - (k + m) = 12 - k - m from by omega, show cap - (k + m) = cap - k - m from by omega, show o + (k + m) = o + k + m from by omega]
  exact h1
theorem take_last (h : List Int) (b o cap : Nat) (w : World) (hb : Byts w b o h) (ho : OkB h) (hl : h.length = 12) (hcl : 12 ≤ cap) :
    Calls Tryd.prog 81 #[.slice (some ⟨b, o + 11, none⟩) 1 (cap - 11), .int .i64 1] w fun e w' => ∃ v, takeT (hdN h) v w e w' := by
  by_cases hc : cap = 12
  · have h1 := take_end (h.drop 11) b (o + 11) w (hb.drop 11) (ho.drop 11) (by rw [List.length_drop]; omega) (by rw [List.length_drop]; omega)
    rw [List.length_drop, hl] at h1
    subst hc
    exact h1.mono fun e w' hh => ⟨_, hh⟩
  · have h1 := take_mid (h.drop 11) b (o + 11) (cap - 11) 1 w (hb.drop 11) (ho.drop 11) (by rw [List.length_drop]; omega) (by decide) (by decide) (by rw [List.length_drop]; omega) (by rw [List.length_drop]; omega) (by omega)
    rw [List.length_drop, hl] at h1
    exact h1.mono fun e w' hh => ⟨_, hh⟩

set_option maxHeartbeats 8000000 in
theorem readHead_c (h : List Int) (b o cap : Nat) (w : World) (hb : Byts w b o h) (ho : OkB h) (hl : h.length = 12) (hcl : 12 ≤ cap) :
    Calls Tryd.prog 74 #[.slice (some ⟨b, o, none⟩) 12 cap] w fun e w' => e = .returned (.agg #[.int .i64 (hdO h), .int .i64 (hdS h), .int .i64 (hdW h), .int .i64 (hdC h), .int .i64 (hdN h)]) ∧ Below w.heap.size w w' := by
  have T1 : Hid (∀ W, Below w.heap.size w W → Calls Tryd.prog 81 #[.slice (some ⟨b, o, none⟩) 12 cap, .int .i64 1] W (takeT (hdO h) (.slice (some ⟨b, o + 1, none⟩) 11 (cap - 1)) W)) := Lib.hid (fun W hw => take_at h b o cap 0 1 W (hb.below hw) ho hl hcl (by decide) (by decide) (by decide))
  have T2 : Hid (∀ W, Below w.heap.size w W → Calls Tryd.prog 81 #[.slice (some ⟨b, o + 1, none⟩) 11 (cap - 1), .int .i64 2] W (takeT (hdS h) (.slice (some ⟨b, o + 3, none⟩) 9 (cap - 3)) W)) := Lib.hid (fun W hw => take_at h b o cap 1 2 W (hb.below hw) ho hl hcl (by decide) (by decide) (by decide))
  have T3 : Hid (∀ W, Below w.heap.size w W → Calls Tryd.prog 81 #[.slice (some ⟨b, o + 3, none⟩) 9 (cap - 3), .int .i64 6] W (takeT (hdW h) (.slice (some ⟨b, o + 9, none⟩) 3 (cap - 9)) W)) := Lib.hid (fun W hw => take_at h b o cap 3 6 W (hb.below hw) ho hl hcl (by decide) (by decide) (by decide))
  have T4 : Hid (∀ W, Below w.heap.size w W → Calls Tryd.prog 81 #[.slice (some ⟨b, o + 9, none⟩) 3 (cap - 9), .int .i64 2] W (takeT (hdC h) (.slice (some ⟨b, o + 11, none⟩) 1 (cap - 11)) W)) := Lib.hid (fun W hw => take_at h b o cap 9 2 W (hb.below hw) ho hl hcl (by decide) (by decide) (by decide))
  have T5 : Hid (∀ W, Below w.heap.size w W → Calls Tryd.prog 81 #[.slice (some ⟨b, o + 11, none⟩) 1 (cap - 11), .int .i64 1] W (fun e w' => ∃ v, takeT (hdN h) v W e w')) := Lib.hid (fun W hw => take_last h b o cap W (hb.below hw) ho hl hcl)
  clear hb ho hl hcl
  generalize hdO h = O at T1 ⊢
  generalize hdS h = S at T2 ⊢
  generalize hdW h = W1 at T3 ⊢
  generalize hdC h = C at T4 ⊢
  generalize hdN h = N at T5 ⊢
  have HR := Lib.hid ((Bx.new 116 w #[.int .i64 0, .int .i64 0, .int .i64 0, .int .i64 0, .int .i64 0]).alloc (.cells #[.int .i64 0, .int .i64 0, .int .i64 0, .int .i64 0, .int .i64 0] 116))
  have HH : Hid (Bx 116 ((w.alloc (.cells #[.int .i64 0, .int .i64 0, .int .i64 0, .int .i64 0, .int .i64 0] 116)).alloc (.cells #[.int .i64 0, .int .i64 0, .int .i64 0, .int .i64 0, .int .i64 0] 116)) (w.heap.size + 1) #[.int .i64 0, .int .i64 0, .int .i64 0, .int .i64 0, .int .i64 0]) := Lib.hid (by have h := Bx.new 116 (w.alloc (.cells #[.int .i64 0, .int .i64 0, .int .i64 0, .int .i64 0, .int .i64 0] 116)) #[.int .i64 0, .int .i64 0, .int .i64 0, .int .i64 0, .int .i64 0]; simpa using h)
  go_enter Tryd.func74, Tryd.ntmps74
  go_wp2_with fail
  refine (T1.out _ (below_two _ _ _)).mono ?_
  rintro e w1 ⟨rfl, b1⟩
  have B1 : Hid (Below w.heap.size w w1) := Lib.hid (bn (below_two _ _ _) b1)
  have HR1 : Hid (Bx 116 w1 w.heap.size #[.int .i64 0, .int .i64 0, .int .i64 0, .int .i64 0, .int .i64 0]) := Lib.hid (HR.out.below b1)
  have hh1 : Bx 116 w1 (w.heap.size + 1) #[.int .i64 0, .int .i64 0, .int .i64 0, .int .i64 0, .int .i64 0] := HH.out.below b1
  have HH1 : Hid (Bx 116 (w1.setCell ⟨w.heap.size + 1, 0, none⟩ (.int .i64 O)) (w.heap.size + 1) #[.int .i64 O, .int .i64 0, .int .i64 0, .int .i64 0, .int .i64 0]) := Lib.hid (hh1.set 0 _)
  have hl1 := hh1.lt
  have hc1 := hh1.cell 0
  have hf1 := hh1.soft 0
  have BB1 : Hid (Below w.heap.size w (w1.setCell ⟨w.heap.size + 1, 0, none⟩ (.int .i64 O))) := Lib.hid (B1.out.setCell (by show w.heap.size ≤ w.heap.size + 1; omega) _)
  clear hh1 b1 B1
  simp only [List.getElem?_toArray, List.getElem?_cons_zero] at hc1
  go_wp2_with fail
  refine (T2.out _ BB1.out).mono ?_
  rintro e w2 ⟨rfl, b2⟩
  have B2 : Hid (Below w.heap.size w w2) := Lib.hid (bn BB1.out b2)
  clear hc1 hf1 hl1
  have HR2 : Hid (Bx 116 w2 w.heap.size #[.int .i64 0, .int .i64 0, .int .i64 0, .int .i64 0, .int .i64 0]) := Lib.hid ((HR1.out.setFar (by show w.heap.size ≠ w.heap.size + 1; omega) _).below b2)
  have hh2 : Bx 116 w2 (w.heap.size + 1) #[.int .i64 O, .int .i64 0, .int .i64 0, .int .i64 0, .int .i64 0] := HH1.out.below b2
  have HH2 : Hid (Bx 116 (w2.setCell ⟨w.heap.size + 1, 1, none⟩ (.int .i64 S)) (w.heap.size + 1) #[.int .i64 O, .int .i64 S, .int .i64 0, .int .i64 0, .int .i64 0]) := Lib.hid (hh2.set 1 _)
  have hl2 := hh2.lt
  have hc2 := hh2.cell 1
  have hf2 := hh2.soft 1
  have BB2 : Hid (Below w.heap.size w (w2.setCell ⟨w.heap.size + 1, 1, none⟩ (.int .i64 S))) := Lib.hid (B2.out.setCell (by show w.heap.size ≤ w.heap.size + 1; omega) _)
  clear hh2 b2 B2
  simp only [List.getElem?_toArray, List.getElem?_cons_zero, List.getElem?_cons_succ] at hc2
  go_wp2_with fail
  refine (T3.out _ BB2.out).mono ?_
  rintro e w3 ⟨rfl, b3⟩
  have B3 : Hid (Below w.heap.size w w3) := Lib.hid (bn BB2.out b3)
  clear hc2 hf2 hl2
  have HR3 : Hid (Bx 116 w3 w.heap.size #[.int .i64 0, .int .i64 0, .int .i64 0, .int .i64 0, .int .i64 0]) := Lib.hid ((HR2.out.setFar (by show w.heap.size ≠ w.heap.size + 1; omega) _).below b3)
  have hh3 : Bx 116 w3 (w.heap.size + 1) #[.int .i64 O, .int .i64 S, .int .i64 0, .int .i64 0, .int .i64 0] := HH2.out.below b3
  have HH3 : Hid (Bx 116 (w3.setCell ⟨w.heap.size + 1, 2, none⟩ (.int .i64 W1)) (w.heap.size + 1) #[.int .i64 O, .int .i64 S, .int .i64 W1, .int .i64 0, .int .i64 0]) := Lib.hid (hh3.set 2 _)
  have hl3 := hh3.lt
  have hc3 := hh3.cell 2
  have hf3 := hh3.soft 2
  have BB3 : Hid (Below w.heap.size w (w3.setCell ⟨w.heap.size + 1, 2, none⟩ (.int .i64 W1))) := Lib.hid (B3.out.setCell (by show w.heap.size ≤ w.heap.size + 1; omega) _)
  clear hh3 b3 B3
  simp only [List.getElem?_toArray, List.getElem?_cons_zero, List.getElem?_cons_succ] at hc3
  go_wp2_with fail
  refine (T4.out _ BB3.out).mono ?_
  rintro e w4 ⟨rfl, b4⟩
  have B4 : Hid (Below w.heap.size w w4) := Lib.hid (bn BB3.out b4)
  clear hc3 hf3 hl3
  have HR4 : Hid (Bx 116 w4 w.heap.size #[.int .i64 0, .int .i64 0, .int .i64 0, .int .i64 0, .int .i64 0]) := Lib.hid ((HR3.out.setFar (by show w.heap.size ≠ w.heap.size + 1; omega) _).below b4)
  have hh4 : Bx 116 w4 (w.heap.size + 1) #[.int .i64 O, .int .i64 S, .int .i64 W1, .int .i64 0, .int .i64 0] := HH3.out.below b4
  have HH4 : Hid (Bx 116 (w4.setCell ⟨w.heap.size + 1, 3, none⟩ (.int .i64 C)) (w.heap.size + 1) #[.int .i64 O, .int .i64 S, .int .i64 W1, .int .i64 C, .int .i64 0]) := Lib.hid (hh4.set 3 _)
  have hl4 := hh4.lt
  have hc4 := hh4.cell 3
  have hf4 := hh4.soft 3
  have BB4 : Hid (Below w.heap.size w (w4.setCell ⟨w.heap.size + 1, 3, none⟩ (.int .i64 C))) := Lib.hid (B4.out.setCell (by show w.heap.size ≤ w.heap.size + 1; omega) _)
  clear hh4 b4 B4
  simp only [List.getElem?_toArray, List.getElem?_cons_zero, List.getElem?_cons_succ] at hc4
  go_wp2_with fail
  refine (T5.out _ BB4.out).mono ?_
  rintro e w5 ⟨v5, rfl, b5⟩
  have B5 : Hid (Below w.heap.size w w5) := Lib.hid (bn BB4.out b5)
  clear hc4 hf4 hl4
  have HR5 : Hid (Bx 116 w5 w.heap.size #[.int .i64 0, .int .i64 0, .int .i64 0, .int .i64 0, .int .i64 0]) := Lib.hid ((HR4.out.setFar (by show w.heap.size ≠ w.heap.size + 1; omega) _).below b5)
  have hh5 : Bx 116 w5 (w.heap.size + 1) #[.int .i64 O, .int .i64 S, .int .i64 W1, .int .i64 C, .int .i64 0] := HH4.out.below b5
  have HH5 : Hid (Bx 116 (w5.setCell ⟨w.heap.size + 1, 4, none⟩ (.int .i64 N)) (w.heap.size + 1) #[.int .i64 O, .int .i64 S, .int .i64 W1, .int .i64 C, .int .i64 N]) := Lib.hid (hh5.set 4 _)
  have hl5 := hh5.lt
  have hc5 := hh5.cell 4
  have hf5 := hh5.soft 4
  have BB5 : Hid (Below w.heap.size w (w5.setCell ⟨w.heap.size + 1, 4, none⟩ (.int .i64 N))) := Lib.hid (B5.out.setCell (by show w.heap.size ≤ w.heap.size + 1; omega) _)
  have p0 := hh5.cell 0
  have p1 := hh5.cell 1
  have p2 := hh5.cell 2
  have p3 := hh5.cell 3
  have r0 := HR5.out.cell 0
  have r1 := HR5.out.cell 1
  have r2 := HR5.out.cell 2
  have r3 := HR5.out.cell 3
  have r4 := HR5.out.cell 4
  have s0 := HR5.out.soft 0
  have s1 := HR5.out.soft 1
  have s2 := HR5.out.soft 2
  have s3 := HR5.out.soft 3
  have s4 := HR5.out.soft 4
  have hlr := HR5.out.lt
  clear hh5 b5 B5
  simp only [List.getElem?_toArray, List.getElem?_cons_zero, List.getElem?_cons_succ] at hc5 p0 p1 p2 p3 r0 r1 r2 r3 r4
  go_wp2
  refine bodyPost_ret (v := .agg #[.int .i64 O, .int .i64 S, .int .i64 W1, .int .i64 C, .int .i64 N]) (by simp [results, Tryd.results74, go_sem, r0, r1, r2, r3, r4]) rfl ⟨rfl, ?_⟩
  exact ((((BB5.out.setCell (Nat.le_refl _) _).setCell (Nat.le_refl _) _).setCell (Nat.le_refl _) _).setCell (Nat.le_refl _) _).setCell (Nat.le_refl _) _
end Go.Proofs.YtchkadifjbmmpaaDoor.R
