/-
  loose, settle, Used of a drive, by contract.
-/
import Derived.Test.YtmhmdnlkkpjdjaaDrvAt
namespace Go.Proofs.Ytmhmdnlkkpjdjaa
open Go.RowKit Go.Lib

theorem FlAt.form {w : World} {own : Nat → Prop} {x : Fl} (h : FlAt w own x) : ∃ ad cap, x.v = .slice ad x.a.length cap ∧ x.a.length ≤ cap := by
  obtain ⟨ad, cap, e, hc⟩ := h.row.bc.2
  exact ⟨ad, cap, e, hc⟩
theorem used_mem {L : List Fl} {x : Fl} (h : x ∈ L) : x.a.length ≤ used L := by
  obtain ⟨pre, post, rfl⟩ := List.append_of_mem h
  rw [used_mid]
  omega
theorem DrvAt.most {w : World} {p bm : Nat} {L : List Fl} {m ex : Nat} {own : Nat → Prop} (h : DrvAt w p bm L m ex own) {x : Fl} (hx : x ∈ L) : x.a.length ≤ 1048576 := by
  have := used_mem hx
  have := h.us
  have := h.mx
  omega

set_option maxHeartbeats 2000000 in
theorem loose_c (x : Fl) (w : World) (own : Nat → Prop) (h : FlAt w own x) (hm : x.a.length ≤ 1048576) :
    Calls Try.prog 25 #[.pointer (some ⟨x.b, 0, none⟩)] w fun e w' => e = .returned (.int .i64 ((x.a.length - x.f : Nat) : Int)) ∧ Below w.heap.size w w' := by
  obtain ⟨ad, cap, hv, _⟩ := h.form
  have hle := h.le
  have c0 := h.bx.cell 0
  have c1 := h.bx.cell 1
  rw [hv] at c0
  simp only [List.getElem?_toArray, List.getElem?_cons_zero, List.getElem?_cons_succ] at c0 c1
  have hlt := h.lt
  clear hv h
  have e : ((x.a.length - x.f : Nat) : Int) = (x.a.length : Int) - (x.f : Int) := by omega
  rw [e]
  clear e
  generalize x.a.length = n at *
  generalize x.f = f at *
  generalize x.b = b at *
  go_enter Try.func25, Try.ntmps25
  go_wp2
  go_quiet (fail)
  go_wp2
  go_ret
  exact ⟨by go_num, below_drewN (Below.refl _ _) _⟩

set_option maxHeartbeats 2000000 in
theorem used_c (p bm : Nat) (L : List Fl) (m ex : Nat) (own : Nat → Prop) (w : World) (h : DrvAt w p bm L m ex own) :
    Calls Try.prog 15 #[.pointer (some ⟨p, 0, none⟩)] w fun e w' => e = .returned (.int .i64 ((used L + ex : Nat) : Int)) ∧ w = w' := by
  have c2 := h.hd.cell 2
  simp only [List.getElem?_toArray, List.getElem?_cons_zero, List.getElem?_cons_succ] at c2
  have hlt := h.hd.lt
  clear h
  generalize ((used L + ex : Nat) : Int) = u at *
  go_enter Try.func15, Try.ntmps15
  go_wp2
  go_ret
  exact ⟨rfl, rfl⟩

theorem BRow.cut {w : World} {ad : Option Addr} {cap : Nat} {l : List Int} (h : BRow w 0 (.slice ad l.length cap) l) (k : Nat) (hk : k ≤ l.length) : BRow w 0 (.slice ad k cap) (l.take k) := by
  have hl : (l.take k).length = k := by simp; omega
  unfold BRow at h ⊢
  rw [hl]
  rcases h.2 with ⟨e, h0⟩ | ⟨g, c, cur, e, h3, h4, h5, h6, h7, h8⟩
  · simp only [Value.slice.injEq] at e
    obtain ⟨rfl, _, rfl⟩ := e
    obtain rfl : k = 0 := by omega
    exact ⟨by simp [bys_len], .inl ⟨rfl, rfl⟩⟩
  · simp only [Value.slice.injEq] at e
    obtain ⟨rfl, _, rfl⟩ := e
    refine ⟨by rw [bys_len, hl, Nat.mul_one], .inr ⟨g, cap, cur, rfl, h3, h4, by omega, h6, h7, ?_⟩⟩
    rw [Nat.mul_one] at h8 ⊢
    have e2 : bys (l.take k) = (bys l).take k := by simp [bys, List.map_take]
    rw [e2, ← h8, List.take_take]
    congr 1
    omega
theorem sliced_zero (ad : Option Addr) (k cap : Nat) : sliced ad 0 k cap 1 = .slice ad k cap := by
  unfold sliced
  cases ad
  · simp
  · rename_i a
    have : a.add 0 = a := by cases a; simp [Addr.add]
    simp [this]

theorem DrvAt.drew {w : World} {p bm : Nat} {L : List Fl} {m ex : Nat} {own : Nat → Prop} (h : DrvAt w p bm L m ex own) : DrvAt w.drew p bm L m ex own := h.keep (Nat.le_refl _) (fun _ _ => rfl)
theorem DrvAt.drewN {w : World} {p bm : Nat} {L : List Fl} {m ex : Nat} {own : Nat → Prop} (h : DrvAt w p bm L m ex own) (n : Nat) : DrvAt (w.drewN n) p bm L m ex own := h.keep (Nat.le_refl _) (fun _ _ => rfl)
theorem Turn.drew {S : Nat → Prop} {a w : World} (h : Turn S a w) : Turn S a w.drew := ⟨h.os, h.tape, h.output, h.size, h.block⟩
theorem DrvAt.settled {w : World} {p bm : Nat} {pre post : List Fl} {x : Fl} {m ex : Nat} {own : Nat → Prop} {ad : Option Addr} {cap : Nat} (h : DrvAt w p bm (pre ++ x :: post) m ex own) (hv : x.v = .slice ad x.a.length cap) (k : Nat) (hk : k ≤ x.a.length)
    (U : Int) (hU : U = ((used (pre ++ post) + k + ex : Nat) : Int)) :
    DrvAt (((w.setCell ⟨p, 2, none⟩ (.int .i64 U)).setCell ⟨x.b, 0, none⟩ (.slice ad k cap)).setCell ⟨x.b, 1, none⟩ (.int .i64 (k : Int))) p bm (pre ++ { x with v := .slice ad k cap, a := x.a.take k, f := k } :: post) m ex own := by
  have hx := h.fl x (by simp)
  have hbp := hx.bp h.hd
  have hpb : p ≠ x.b := fun e => hbp e.symm
  have hob : ∀ g, (Value.slice ad k cap).ownBlock = some g → x.v.ownBlock = some g := fun g hg => by rw [hv]; cases ad <;> exact hg
  have hl : (x.a.take k).length = k := by simp; omega
  have hu : used (pre ++ { x with v := .slice ad k cap, a := x.a.take k, f := k } :: post) + ex = used (pre ++ post) + k + ex := by rw [used_mid]; simp only [hl]
  have hum := used_mid pre post x
  have hkeep : ∀ i, i ≠ p → i ≠ x.b → (((w.setCell ⟨p, 2, none⟩ (.int .i64 U)).setCell ⟨x.b, 0, none⟩ (.slice ad k cap)).setCell ⟨x.b, 1, none⟩ (.int .i64 (k : Int))).heap[i]? = w.heap[i]? := fun i h1 h2 => by
    rw [Below.heap_setCell _ _ _ _ h2, Below.heap_setCell _ _ _ _ h2, Below.heap_setCell _ _ _ _ h1]
  have hs : w.heap.size = (((w.setCell ⟨p, 2, none⟩ (.int .i64 U)).setCell ⟨x.b, 0, none⟩ (.slice ad k cap)).setCell ⟨x.b, 1, none⟩ (.int .i64 (k : Int))).heap.size := by simp [World.setCell]
  refine h.turn rfl rfl (fun _ k => k) (fun i hi => by rw [← hs]; exact h.up i hi) ?_ ?_ (fun i _ h1 h2 _ => hkeep i h1 h2) ?_ ?_
  · rw [hu, ← hU]
    exact ((h.hd.set 2 (.int .i64 U)).setFar (p := ⟨x.b, 0, none⟩) hpb _).setFar (p := ⟨x.b, 1, none⟩) hpb _
  · refine ⟨hx.ob, ?_, ?_, ?_, ?_⟩
    · exact ((hx.bx.setFar (p := ⟨p, 2, none⟩) hbp _).set 0 _).set 1 _
    · have hr := hx.row
      rw [hv] at hr
      refine ownsRow_of_block (hr.cut k hk) (fun g hg => hkeep g ?_ ?_)
      · exact hx.rp h.hd (hob g hg)
      · exact hx.rb hx (hob g hg)
    · intro g hg
      exact hx.ov g (hob g hg)
    · show k ≤ (x.a.take k).length
      omega
  · intro g hg
    exact .inl (hob g hg)
  · rw [hu]
    have := h.us
    omega

set_option maxHeartbeats 4000000 in
theorem settle_c (p bm : Nat) (pre post : List Fl) (x : Fl) (m ex : Nat) (own : Nat → Prop) (w : World) (h : DrvAt w p bm (pre ++ x :: post) m ex own) (k : Nat) (hk : k ≤ x.a.length) :
    Calls Try.prog 24 #[.pointer (some ⟨p, 0, none⟩), .pointer (some ⟨x.b, 0, none⟩), .int .i64 (k : Int)] w fun e w' => e = .returned (.tuple #[]) ∧ ∃ v', DrvAt w' p bm (pre ++ { x with v := v', a := x.a.take k, f := k } :: post) m ex own ∧ Turn (fun i => i = p ∨ i = x.b) w w' := by
  have hx := h.fl x (by simp)
  obtain ⟨ad, cap, hv, hcap⟩ := hx.form
  have hmo := h.most (x := x) (by simp)
  have hus := h.us
  have hmx := h.mx
  have hum := used_mid pre post x
  have c0 := hx.bx.cell 0
  have c1 := hx.bx.cell 1
  have d2 := h.hd.cell 2
  rw [hv] at c0
  simp only [List.getElem?_toArray, List.getElem?_cons_zero, List.getElem?_cons_succ] at c0 c1 d2
  have f0 := hx.bx.soft 0
  have f1 := hx.bx.soft 1
  have g2 := h.hd.soft 2
  have hlt := hx.lt
  have hltp := h.hd.lt
  have hbp := hx.bp h.hd
  have hpb : p ≠ x.b := fun e => hbp e.symm
  have R1 : Hid (∀ W, (Instr.sliceAt 22 (.slice ad x.a.length cap) none (some (.int .i64 (k : Int))) none).run Try.prog W = .ok (.slice ad k cap) W) := Lib.hid (fun W => by
    rw [slice_any_run ad x.a.length cap none (some (.int .i64 (k : Int))) 0 k W (by
      have e1 : ¬ cap < k := by omega
      simp [Instr.sliceBounds, go_sem, e1]), sliced_zero])
  have HD := Lib.hid h
  have HX := Lib.hid hx
  have HV := Lib.hid hv
  clear h hx hv
  have huu : used (pre ++ x :: post) + ex = used (pre ++ post) + ex + x.a.length := by omega
  rw [huu] at d2
  have HUU := Lib.hid huu
  clear huu hum
  have d2' : w.cell? ⟨p, 2, none⟩ = some (.int .i64 (((used (pre ++ post) + ex : Nat) : Int) + (x.a.length : Int))) := by rw [d2]; simp
  clear d2
  have hbound : used (pre ++ post) + ex + x.a.length ≤ 1048576 := by have := HUU.out; omega
  generalize hB : used (pre ++ post) + ex = B at d2' hbound
  have HB := Lib.hid hB
  clear hB hus hmx
  obtain ⟨xn, b, xv, xa, xf⟩ := x
  simp only at *
  generalize hn : xa.length = n at *
  have HN := Lib.hid hn
  clear hn
  go_enter Try.func24, Try.ntmps24
  go_wp2
  go_region
  go_wp2_with (refine wpList_slice_run rfl 22 _ _ _ rfl _ (R1.out _) ?_)
  go_end0
  refine ⟨rfl, .slice ad k cap, ?_, (((Turn.refl _ w).set (p := ⟨p, 2, none⟩) (.inl rfl) _).set (p := ⟨b, 0, none⟩) (.inr rfl) _).set (p := ⟨b, 1, none⟩) (.inr rfl) _ |>.drew⟩
  refine (HD.out.settled (ad := ad) (cap := cap) (by rw [HN.out]; exact HV.out) k (by rw [HN.out]; exact hk) _ ?_).drew
  have := HB.out
  omega
end Go.Proofs.Ytmhmdnlkkpjdjaa
