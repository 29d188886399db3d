/-
  Rename of a drive, by contract.
-/
import Derived.Test.YtmhmdnlkkpjdjaaDrvDrop
import Derived.Test.YtmhmdnlkkpjdjaaDrvApp
namespace Go.Proofs.Ytmhmdnlkkpjdjaa
open Go.RowKit Go.Lib

set_option maxHeartbeats 2000000 in
theorem renName_c (p : Nat) (s t : ByteArray) (w : World) (hl : t.size ≤ maxLen) (hn : nameB t.data.toList = false) :
    Calls Try.prog 18 #[.pointer (some ⟨p, 0, none⟩), .string s, .string t] w fun e w' => e = .returned (.int .i64 2) ∧ w = w' := by
  have HN := Lib.hid (name_c t w hl)
  rw [hn] at HN
  clear hn hl
  go_enter Try.func18, Try.ntmps18
  go_wp2_with fail
  refine HN.out.mono ?_
  rintro e w1 ⟨rfl, rfl⟩
  go_wp2
  go_ret
  exact ⟨rfl, rfl⟩

set_option maxHeartbeats 2000000 in
theorem renNo_c (p bm : Nat) (L : List Fl) (m ex : Nat) (own : Nat → Prop) (w : World) (h : DrvAt w p bm L m ex own) (s t : ByteArray) (hs : ∀ y ∈ L, y.n ≠ s.data.toList) (hls : s.size ≤ maxLen) (hl : t.size ≤ maxLen) (hn : nameB t.data.toList = true) :
    Calls Try.prog 18 #[.pointer (some ⟨p, 0, none⟩), .string s, .string t] w fun e w' => e = .returned (.int .i64 13) ∧ w = w' := by
  have HN := Lib.hid (name_c t w hl)
  rw [hn] at HN
  have c0 := h.cell0
  have hlt := h.hd.lt
  have hf := DrvAt.miss h.mp hs hls
  clear hn hl h hs hls
  go_enter Try.func18, Try.ntmps18
  go_wp2_with fail
  refine HN.out.mono ?_
  rintro e w1 ⟨rfl, rfl⟩
  go_wp2
  go_ret
  exact ⟨rfl, rfl⟩

/-- What is left when a file is taken out: it lies beside the drive. -/
def Beside (w : World) (L : List Fl) (x : Fl) (own : Nat → Prop) : Prop := FlAt w own x ∧ ∀ y ∈ L, Apart y x

set_option maxHeartbeats 4000000 in
/-- drop, whether or not the file is there, beside one that was taken out. -/
theorem dropAny_c (p bm : Nat) (L : List Fl) (m ex : Nat) (own : Nat → Prop) (w : World) (h : DrvAt w p bm L m ex own) (s : ByteArray) (hl : s.size ≤ maxLen) (x : Fl) (hx : Beside w L x own) :
    Calls Try.prog 27 #[.pointer (some ⟨p, 0, none⟩), .string s] w fun e w' => ∃ (b : Bool) (L' : List Fl), e = .returned (.bool b) ∧ DrvAt w' p bm L' m ex own ∧ L'.map pl = delP s.data.toList (L.map pl) ∧ (∀ y ∈ L', y.n ≠ s.data.toList) ∧ L'.length ≤ L.length ∧ Beside w' L' x own ∧ Turn own w w' := by
  cases hlk : lookP s.data.toList (L.map pl) with
  | none =>
    have hno := look_none hlk
    refine (dropNo_c p bm L m ex own w h s hno hl).mono ?_
    rintro e w' ⟨rfl, rfl⟩
    refine ⟨false, L, rfl, h, ?_, hno, Nat.le_refl _, hx, Turn.refl _ _⟩
    unfold delP
    rw [List.filter_eq_self.2]
    intro y hy
    obtain ⟨z, hz, rfl⟩ := List.mem_map.1 hy
    simpa [pl] using hno z hz
  | some q =>
    obtain ⟨a, f⟩ := q
    obtain ⟨pre, z, post, rfl, hz, _, _⟩ := look_some hlk
    refine (dropAt_c p bm pre post z m ex own w h s hz.symm hl).mono ?_
    rintro e w' ⟨rfl, h1, h2⟩
    refine ⟨true, pre ++ post, rfl, h1, by rw [← hz, delP_pl h.so], ?_, by simp, ⟨?_, ?_⟩, h2.wide (fun i _ hi => hi.elim (fun e => e ▸ h.op) (fun e => e ▸ h.om))⟩
    · intro y hy
      rw [← hz]
      rcases List.mem_append.1 hy with k | k
      · exact h.so.ne.1 y k
      · exact h.so.ne.2 y k
    · refine hx.1.keep (fun _ k => k) (h2.block _ hx.1.lt ?_) (fun g hg => h2.block _ (hx.1.rlt hg) ?_)
      · rintro (e | e)
        · exact hx.1.bp h.hd e
        · exact map_ne h.mp hx.1.bx e
      · rintro (e | e)
        · exact hx.1.rp h.hd hg e
        · obtain ⟨cur, hc⟩ := hx.1.row.tag hg
          exact map_ne h.mp hc e
    · intro y hy
      exact hx.2 y (by rcases List.mem_append.1 hy with k | k <;> simp [k])

set_option maxHeartbeats 4000000 in
theorem renAt_c (p bm : Nat) (pre post : List Fl) (x : Fl) (m ex : Nat) (own : Nat → Prop) (w : World) (h : DrvAt w p bm (pre ++ x :: post) m ex own) (s t : ByteArray) (hs : s.data.toList = x.n) (hls : s.size ≤ maxLen) (hl : t.size ≤ maxLen) (hn : nameB t.data.toList = true) (hL : (pre ++ x :: post).length < maxLen) :
    Calls Try.prog 18 #[.pointer (some ⟨p, 0, none⟩), .string s, .string t] w fun e w' => e = .returned (.int .i64 0) ∧ ∃ L', DrvAt w' p bm L' m ex own ∧ L'.map pl = insP (t.data.toList, x.a, x.f) (delP t.data.toList ((pre ++ post).map pl)) ∧ Turn own w w' := by
  have HN := Lib.hid (name_c t w hl)
  rw [hn] at HN
  have c0 := h.cell0
  have hlt := h.hd.lt
  have hf := DrvAt.find h.mp h.so hs hls
  obtain ⟨w1, hdr, hm1, ht1⟩ := DrvAt.drops h.mp h.so hs hls 0
  have hg1 := ht1.grown
  have hpm := h.pm
  have hx := h.fl x (by simp)
  have hd1 : Bx 51 w1 p _ := h.hd.far hg1 (by simpa using hpm)
  have hum := used_mid pre post x
  have h1 : DrvAt w1 p bm (pre ++ post) m (ex + x.a.length) own := by
    refine h.cut hg1.size ?_ hm1 (fun i hi h1 h2 => hg1.block i (h.up i hi) (by simpa using h2)) (by have := h.us; omega)
    have e : used (pre ++ x :: post) + ex = used (pre ++ post) + (ex + x.a.length) := by omega
    rw [e] at hd1
    exact hd1
  have hb1 : Beside w1 (pre ++ post) x own := by
    refine ⟨hx.keep (fun _ k => k) (hg1.block _ hx.lt ?_) (fun g hg => hg1.block _ (hx.rlt hg) ?_), apart_mid h.ap⟩
    · have := map_ne h.mp hx.bx
      simpa using this
    · obtain ⟨cur, hc⟩ := hx.row.tag hg
      have := map_ne h.mp hc
      simpa using this
  have HT1 : Hid (Turn own w w1) := Lib.hid (Turn.ofGrown hg1 (fun g hg => by cases hg; exact h.om))
  have HC := Lib.hid (dropAny_c p bm (pre ++ post) m (ex + x.a.length) own w1 h1 t hl x hb1)
  have HDR := Lib.hid hdr
  have HLL : Hid ((pre ++ post).length < maxLen) := Lib.hid (by simp at hL ⊢; omega)
  have HL := Lib.hid hl
  clear hn hl h hs hls hdr hm1 ht1 hg1 hd1 h1 hb1 hx hum hL
  go_enter Try.func18, Try.ntmps18
  go_wp2_with fail
  refine HN.out.mono ?_
  rintro e w9 ⟨rfl, rfl⟩
  go_wp2_with (at_delete; refine wpList_delete_run rfl _ _ 49 9 rfl _ HDR.out ?_)
  refine HC.out.mono ?_
  rintro e w2 ⟨b, L', rfl, hD, hP, hno, hlen, hB, hT⟩
  have c02 := hD.cell0
  have hlt2 := hD.hd.lt
  obtain ⟨w3, hput, hm3, ht3⟩ := DrvAt.puts (x := { x with n := t.data.toList }) hD.mp hno (s := t) rfl HL.out (Nat.lt_of_le_of_lt hlen HLL.out)
  have hg3 := ht3.grown
  have HPUT := Lib.hid hput
  have HR : Hid (DrvAt w3 p bm (ins { x with n := t.data.toList } L') m ex own) := Lib.hid (by
    refine hD.add hno (fun _ k => k) (fun i hi => Nat.lt_of_lt_of_le (hD.up i hi) hg3.size) hm3 ?_ (fun i hi h1 => hg3.block i (hD.up i hi) (by simpa using h1)) hB.2 (by simp; omega)
    have hk : FlAt w3 own x := by
      refine hB.1.keep (fun _ k => k) (hg3.block _ hB.1.lt ?_) (fun g hg => hg3.block _ (hB.1.rlt hg) ?_)
      · have := map_ne hD.mp hB.1.bx
        simpa using this
      · obtain ⟨cur, hc⟩ := hB.1.row.tag hg
        have := map_ne hD.mp hc
        simpa using this
    exact ⟨hk.ob, hk.bx, hk.row, hk.ov, hk.le⟩)
  have HT3 : Hid (Turn own w w3) := Lib.hid ((HT1.out.trans hT).trans (Turn.ofGrown hg3 (fun g hg => by cases hg; exact hD.om)))
  have HP := Lib.hid hP
  clear hput hm3 ht3 hg3 hD hP hno hlen hB hT HT1 HC HDR
  go_wp2_with (at_mapUpdate; refine wpList_mapUpdate_run rfl _ _ _ 49 rfl _ HPUT.out ?_)
  go_ret
  refine ⟨rfl, _, HR.out, ?_, HT3.out⟩
  rw [ins_pl, HP.out]
  rfl
end Go.Proofs.Ytmhmdnlkkpjdjaa
