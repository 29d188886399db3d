/-
  A drive as its callers see it: files, and what else is remembered beside it; each call, by contract.
-/
import Derived.Test.YtmhmdnlkkpjdjaaDrvNew
import Derived.Test.YtmhmdnlkkpjdjaaDrvCut
import Derived.Test.YtmhmdnlkkpjdjaaDrvRen
import Derived.Test.YtmhmdnlkkpjdjaaDrvCrash
namespace Go.Proofs.Ytmhmdnlkkpjdjaa
open Go.RowKit Go.Lib

/-- Bytes that are not of the drive. -/
def Gst (w : World) (own : Nat → Prop) (v : Value) (l : List Int) : Prop := Bc w v l ∧ (0 < l.length → ∀ g, v.ownBlock = some g → ¬ own g)
theorem Gst.step {w w' : World} {own own' : Nat → Prop} {v : Value} {l : List Int} (h : Gst w own v l) (hs : Step w own w' own') : Gst w' own' v l := by
  obtain ⟨⟨h1, h2⟩, h3⟩ := h
  refine ⟨⟨?_, h2⟩, fun h0 g hg ho => ?_⟩
  · rcases h1 with h1 | ⟨ad, cap, e, hb⟩
    · exact .inl h1
    · refine .inr ⟨ad, cap, e, fun h0 => ?_⟩
      obtain ⟨b, o, rfl, hc⟩ := hb h0
      subst e
      exact ⟨b, o, rfl, fun k hk => (World.cell?_of_block (hs.turn.block b (World.block_lt_of_cell? w _ (hc k hk)) (h3 h0 b rfl))).trans (hc k hk)⟩
  · rcases h1 with ⟨_, rfl⟩ | ⟨ad, cap, rfl, hb⟩
    · simp at h0
    · obtain ⟨b, o, rfl, hc⟩ := hb h0
      cases hg
      have hlt := World.block_lt_of_cell? w _ (hc 0 h0)
      rcases hs.new _ ho with k | k
      · exact h3 h0 _ rfl k
      · have : b < w.heap.size := hlt
        have : w.heap.size ≤ b := k
        omega
theorem Sl.step {w w' : World} {own own' : Nat → Prop} {v : Value} {ss : List (List UInt8)} (h : Sl w own v ss) (hs : Step w own w' own') : Sl w' own' v ss := by
  obtain ⟨ad, cap, h1, h2⟩ := h
  refine ⟨ad, cap, h1, fun h0 => ?_⟩
  obtain ⟨b, o, e, hc, hn⟩ := h2 h0
  have hlt := World.block_lt_of_cell? w _ (hc 0 h0)
  refine ⟨b, o, e, fun k hk => (World.cell?_of_block (hs.turn.block b hlt hn)).trans (hc k hk), fun ho => ?_⟩
  rcases hs.new _ ho with k | k
  · exact hn k
  · have : b < w.heap.size := hlt
    omega
theorem Step.ofTurn {w w' : World} {own : Nat → Prop} (h : Turn own w w') : Step w own w' own := ⟨h, fun _ k => k, fun _ k => .inl k⟩
theorem Step.ofBelow {w w' : World} {own : Nat → Prop} (h : Below w.heap.size w w') : Step w own w' own := .ofTurn (.ofBelow h)

/-- Since w0 there is a drive, with these files; beside it these bytes, and these texts. -/
def Ses (w0 w : World) (p : Nat) (P : List Pf) (m : Nat) (G : List (Value × List Int)) (T : List (Value × List (List UInt8))) : Prop :=
  ∃ bm L own, DrvAt w p bm L m 0 own ∧ L.map pl = P ∧ (∀ i, own i → w0.heap.size ≤ i) ∧ Below w0.heap.size w0 w ∧ (∀ x ∈ G, Gst w own x.1 x.2) ∧ (∀ x ∈ T, Sl w own x.1 x.2)
theorem Ses.bl {w0 w : World} {p : Nat} {P : List Pf} {m : Nat} {G : List (Value × List Int)} {T : List (Value × List (List UInt8))} (h : Ses w0 w p P m G T) : Below w0.heap.size w0 w := by
  obtain ⟨_, _, _, _, _, _, hb, _⟩ := h
  exact hb
theorem Ses.g {w0 w : World} {p : Nat} {P : List Pf} {m : Nat} {G : List (Value × List Int)} {T : List (Value × List (List UInt8))} (h : Ses w0 w p P m G T) {v : Value} {l : List Int} (hm : (v, l) ∈ G) : Bc w v l := by
  obtain ⟨_, _, _, _, _, _, _, hg, _⟩ := h
  exact (hg _ hm).1
theorem Ses.t {w0 w : World} {p : Nat} {P : List Pf} {m : Nat} {G : List (Value × List Int)} {T : List (Value × List (List UInt8))} (h : Ses w0 w p P m G T) {v : Value} {ss : List (List UInt8)} (hm : (v, ss) ∈ T) : ∃ own, Sl w own v ss := by
  obtain ⟨_, _, own, _, _, _, _, _, ht⟩ := h
  exact ⟨own, ht _ hm⟩
theorem Ses.us {w0 w : World} {p : Nat} {P : List Pf} {m : Nat} {G : List (Value × List Int)} {T : List (Value × List (List UInt8))} (h : Ses w0 w p P m G T) : usedP P ≤ m ∧ m ≤ 1048576 := by
  obtain ⟨_, L, _, hd, rfl, _⟩ := h
  exact ⟨by have := hd.us; unfold used at this; omega, hd.mx⟩
theorem Ses.le {w0 w : World} {p : Nat} {P : List Pf} {m : Nat} {G : List (Value × List Int)} {T : List (Value × List (List UInt8))} (h : Ses w0 w p P m G T) {s : List UInt8} {a : List Int} {f : Nat} (hs : lookP s P = some (a, f)) : f ≤ a.length ∧ a.length ≤ 1048576 := by
  obtain ⟨_, L, _, hd, rfl, _⟩ := h
  obtain ⟨pre, x, post, rfl, _, rfl, rfl⟩ := look_some hs
  exact ⟨(hd.fl x (by simp)).le, hd.most (by simp)⟩
/-- A call that leaves the drive. -/
theorem Ses.below {w0 w w' : World} {p : Nat} {P : List Pf} {m : Nat} {G : List (Value × List Int)} {T : List (Value × List (List UInt8))} (h : Ses w0 w p P m G T) (hb : Below w.heap.size w w') : Ses w0 w' p P m G T := by
  obtain ⟨bm, L, own, hd, hp, hl, hbl, hg, ht⟩ := h
  exact ⟨bm, L, own, hd.below hb, hp, hl, bn hbl hb, fun x hx => (hg x hx).step (.ofBelow hb), fun x hx => (ht x hx).step (.ofBelow hb)⟩
/-- .. and makes bytes. -/
theorem Ses.plus {w0 w w' : World} {p : Nat} {P : List Pf} {m : Nat} {G : List (Value × List Int)} {T : List (Value × List (List UInt8))} (h : Ses w0 w p P m G T) (hb : Below w.heap.size w w') {v : Value} {l : List Int} (hv : BRow w' w.heap.size v l) : Ses w0 w' p P m ((v, l) :: G) T := by
  obtain ⟨bm, L, own, hd, hp, hl, hbl, hg, ht⟩ := h
  refine ⟨bm, L, own, hd.below hb, hp, hl, bn hbl hb, fun x hx => ?_, fun x hx => (ht x hx).step (.ofBelow hb)⟩
  rcases List.mem_cons.1 hx with rfl | hx
  · refine ⟨hv.bc, fun _ g hgv ho => ?_⟩
    have := (World.ownsRow.lt hv g hgv).1
    have := hd.up g ho
    omega
  · exact (hg x hx).step (.ofBelow hb)
theorem Ses.drewN {w0 w : World} {p : Nat} {P : List Pf} {m : Nat} {G : List (Value × List Int)} {T : List (Value × List (List UInt8))} (h : Ses w0 w p P m G T) (n : Nat) : Ses w0 (w.drewN n) p P m G T := h.below (below_drewN (Below.refl _ _) n)
theorem Ses.alloc {w0 w : World} {p : Nat} {P : List Pf} {m : Nat} {G : List (Value × List Int)} {T : List (Value × List (List UInt8))} (h : Ses w0 w p P m G T) (o : Obj) : Ses w0 (w.alloc o) p P m G T := h.below (alloc_below w o)
/-- A text just laid, as a list of one. -/
theorem Ses.text {w0 w : World} {p : Nat} {P : List Pf} {m : Nat} {G : List (Value × List Int)} {T : List (Value × List (List UInt8))} (h : Ses w0 w p P m G T) (s : ByteArray) (Ty : TypeId) : Ses w0 (w.alloc (.cells #[.string s] Ty)) p P m G ((.slice (some ⟨w.heap.size, 0, none⟩) 1 1, [s.data.toList]) :: T) := by
  have hb := alloc_below w (.cells #[.string s] Ty)
  obtain ⟨bm, L, own, hd, hp, hl, hbl, hg, ht⟩ := h
  refine ⟨bm, L, own, hd.below hb, hp, hl, bn hbl hb, fun x hx => (hg x hx).step (.ofBelow hb), fun x hx => ?_⟩
  rcases List.mem_cons.1 hx with rfl | hx
  · refine ⟨_, 1, rfl, fun _ => ⟨w.heap.size, 0, rfl, fun k hk => ?_, fun ho => ?_⟩⟩
    · match k, hk with
      | 0, _ =>
        have := (Bx.new Ty w #[.string s]).cell 0
        rw [Nat.zero_add]
        refine this.trans ?_
        simp [encStr]
    · have := hd.up _ ho
      omega
  · exact (ht x hx).step (.ofBelow hb)
theorem Ses.step {w0 w w' : World} {p : Nat} {m bm : Nat} {G : List (Value × List Int)} {T : List (Value × List (List UInt8))} {own own' : Nat → Prop} {L' : List Fl} {P' : List Pf}
    (hl : ∀ i, own i → w0.heap.size ≤ i) (hbl : Below w0.heap.size w0 w) (hg : ∀ x ∈ G, Gst w own x.1 x.2) (ht : ∀ x ∈ T, Sl w own x.1 x.2) (hd : DrvAt w' p bm L' m 0 own') (hp : L'.map pl = P') (hs : Step w own w' own') : Ses w0 w' p P' m G T :=
  ⟨bm, L', own', hd, hp, fun i hi => by
    rcases hs.new i hi with k | k
    · exact hl i k
    · exact Nat.le_trans hbl.size k, hbl.trans (hs.turn.below hbl.size hl), fun x hx => (hg x hx).step hs, fun x hx => (ht x hx).step hs⟩

def appP (s : List UInt8) (l : List Int) (P : List Pf) : List Pf :=
  match lookP s P with
  | none => insP (s, l, 0) P
  | some (a, f) => updP s (a ++ l, f) P
section
variable {w0 w : World} {p : Nat} {P : List Pf} {m : Nat} {G : List (Value × List Int)} {T : List (Value × List (List UInt8))}

theorem sNew (w0 w : World) (m : Nat) (hm : m ≤ 1048576) (hb : Below w0.heap.size w0 w) : Calls Try.prog 9 #[.int .i64 (m : Int)] w fun e w' => ∃ p, e = .returned (.pointer (some ⟨p, 0, none⟩)) ∧ Ses w0 w' p [] m [] [] := by
  refine (new_c m w hm).mono ?_
  rintro e w' ⟨p, bm, own, rfl, hd, hl, hbl⟩
  exact ⟨p, rfl, bm, [], own, hd, rfl, fun i hi => Nat.le_trans hb.size (hl i hi), bn hb hbl, fun x hx => (by cases hx), fun x hx => (by cases hx)⟩

theorem sAppend (h : Ses w0 w p P m G T) (s : ByteArray) (hl : s.size ≤ maxLen) (hn : nameB s.data.toList = true) (v : Value) (l : List Int) (hv : Bl w v l) (hf : usedP P + l.length ≤ m) (hL : P.length < maxLen) :
    Calls Try.prog 10 #[.pointer (some ⟨p, 0, none⟩), .string s, v] w fun e w' => e = .returned (.int .i64 0) ∧ Ses w0 w' p (appP s.data.toList l P) m G T := by
  obtain ⟨bm, L, own, hd, rfl, hlo, hbl, hg, ht⟩ := h
  unfold appP
  cases hlk : lookP s.data.toList (L.map pl) with
  | none =>
    refine (appNew_c p bm L m 0 own w hd s (look_none hlk) hl hn v l hv (by unfold used; omega) (by simpa using hL)).mono ?_
    rintro e w' ⟨rfl, b, V, own', hd', hs⟩
    exact ⟨rfl, Ses.step hlo hbl hg ht hd' (by rw [ins_pl]; rfl) hs⟩
  | some q =>
    obtain ⟨a, f⟩ := q
    obtain ⟨pre, x, post, rfl, hz, rfl, rfl⟩ := look_some hlk
    refine (appOld_c p bm pre post x m 0 own w hd s hz.symm hl hn v l hv (by unfold used; omega)).mono ?_
    rintro e w' ⟨rfl, V, own', hd', hs⟩
    refine ⟨rfl, Ses.step hlo hbl hg ht hd' ?_ hs⟩
    rw [← hz]
    exact (updP_pl (x' := { x with v := V, a := x.a ++ l }) hd.so rfl).symm

theorem sFull (h : Ses w0 w p P m G T) (s : ByteArray) (hl : s.size ≤ maxLen) (hn : nameB s.data.toList = true) (v : Value) (l : List Int) (hv : Bl w v l) (hf : m < usedP P + l.length) :
    Calls Try.prog 10 #[.pointer (some ⟨p, 0, none⟩), .string s, v] w fun e w' => e = .returned (.int .i64 8) ∧ Ses w0 w' p P m G T := by
  have h' := h
  obtain ⟨bm, L, own, hd, rfl, _⟩ := h'
  refine (appFull_c p bm L m 0 own w hd s hl hn v l hv (by unfold used; omega)).mono ?_
  rintro e w' ⟨rfl, hb⟩
  exact ⟨rfl, h.below hb⟩

theorem sSync (h : Ses w0 w p P m G T) (ss : List (List UInt8)) (v : Value) (hv : (v, ss) ∈ T) (hl : ss.length ≤ 1000000) (hz : ∀ s ∈ ss, s.length ≤ maxLen) (hy : ∀ s ∈ ss, (lookP s P).isSome = true) :
    Calls Try.prog 11 #[.pointer (some ⟨p, 0, none⟩), v] w fun e w' => e = .returned (.int .i64 0) ∧ Ses w0 w' p (syncs ss P) m G T := by
  obtain ⟨bm, L, own, hd, rfl, hlo, hbl, hg, ht⟩ := h
  refine (sync_c p bm L m 0 own w hd ss v (ht _ hv) hl hz hy).mono ?_
  rintro e w' ⟨rfl, L', hd', hp', _, hs⟩
  exact ⟨rfl, Ses.step hlo hbl hg ht hd' hp' (.ofTurn hs)⟩

theorem sLoose (h : Ses w0 w p P m G T) (s : ByteArray) (hl : s.size ≤ maxLen) (a : List Int) (f : Nat) (hs : lookP s.data.toList P = some (a, f)) :
    Calls Try.prog 12 #[.pointer (some ⟨p, 0, none⟩), .string s] w fun e w' => e = .returned (.int .i64 ((a.length - f : Nat) : Int)) ∧ Ses w0 w' p P m G T := by
  have h' := h
  obtain ⟨bm, L, own, hd, rfl, _⟩ := h'
  obtain ⟨pre, x, post, rfl, hz, rfl, rfl⟩ := look_some hs
  refine (looseAt_c p bm pre post x m 0 own w hd s hz.symm hl).mono ?_
  rintro e w' ⟨rfl, hb⟩
  exact ⟨rfl, h.below hb⟩

theorem sRead (h : Ses w0 w p P m G T) (s : ByteArray) (hl : s.size ≤ maxLen) (a : List Int) (f : Nat) (hs : lookP s.data.toList P = some (a, f)) :
    Calls Try.prog 14 #[.pointer (some ⟨p, 0, none⟩), .string s] w fun e w' => ∃ A C, e = .returned (.tuple #[.slice A a.length C, .int .i64 0]) ∧ Ses w0 w' p P m ((.slice A a.length C, a) :: G) T := by
  have h' := h
  obtain ⟨bm, L, own, hd, rfl, _⟩ := h'
  obtain ⟨pre, x, post, rfl, hz, rfl, rfl⟩ := look_some hs
  refine (readAt_c p bm pre post x m 0 own w hd s hz.symm hl).mono ?_
  rintro e w' ⟨A, C, rfl, hr, hb⟩
  exact ⟨A, C, rfl, h.plus hb hr⟩

theorem sReadNo (h : Ses w0 w p P m G T) (s : ByteArray) (hl : s.size ≤ maxLen) (hs : lookP s.data.toList P = none) :
    Calls Try.prog 14 #[.pointer (some ⟨p, 0, none⟩), .string s] w fun e w' => e = .returned (.tuple #[.slice none 0 0, .int .i64 13]) ∧ w = w' := by
  obtain ⟨bm, L, own, hd, rfl, _⟩ := h
  exact readNo_c p bm L m 0 own w hd s (look_none hs) hl

theorem sUsed (h : Ses w0 w p P m G T) : Calls Try.prog 15 #[.pointer (some ⟨p, 0, none⟩)] w fun e w' => e = .returned (.int .i64 ((usedP P : Nat) : Int)) ∧ w = w' := by
  obtain ⟨bm, L, own, hd, rfl, _⟩ := h
  exact used_c p bm L m 0 own w hd

theorem sCrash (h : Ses w0 w p P m G T) (stay : Int) (hst : stay ≤ 9223372036854775807) (hL : P.length ≤ 1000000) :
    Calls Try.prog 13 #[.pointer (some ⟨p, 0, none⟩), .int .i64 stay] w fun e w' => e = .returned (.tuple #[]) ∧ Ses w0 w' p (crashP stay.toNat P) m G T := by
  obtain ⟨bm, L, own, hd, rfl, hlo, hbl, hg, ht⟩ := h
  have hz : ∀ x ∈ L, x.n.length ≤ maxLen := fun x hx => strKeys_le hd.mp Try.underlying9 x.n (by rw [Dof_keys]; exact List.mem_map.2 ⟨x, hx, rfl⟩)
  refine (crash_c p bm L m 0 own w hd stay hst (by simpa using hL) hz).mono ?_
  rintro e w' ⟨rfl, L', hd', hp', hs⟩
  exact ⟨rfl, Ses.step hlo hbl hg ht hd' hp' (.ofTurn hs)⟩

theorem sCut (h : Ses w0 w p P m G T) (s : ByteArray) (hl : s.size ≤ maxLen) (a : List Int) (f : Nat) (hs : lookP s.data.toList P = some (a, f)) (k : Nat) (hk : k ≤ a.length) :
    Calls Try.prog 17 #[.pointer (some ⟨p, 0, none⟩), .string s, .int .i64 (k : Int)] w fun e w' => e = .returned (.int .i64 0) ∧ Ses w0 w' p (updP s.data.toList (a.take k, k) P) m G T := by
  obtain ⟨bm, L, own, hd, rfl, hlo, hbl, hg, ht⟩ := h
  obtain ⟨pre, x, post, rfl, hz, rfl, rfl⟩ := look_some hs
  refine (cutAt_c p bm pre post x m 0 own w hd s hz.symm hl k hk).mono ?_
  rintro e w' ⟨rfl, V, hd', hs'⟩
  refine ⟨rfl, Ses.step hlo hbl hg ht hd' ?_ (.ofTurn (hs'.wide (fun i _ hi => hi.elim (fun e => e ▸ hd.op) (fun e => e ▸ (hd.fl x (by simp)).ob))))⟩
  rw [← hz]
  exact (updP_pl (x' := { x with v := V, a := x.a.take k, f := k }) hd.so rfl).symm

theorem sCutNo (h : Ses w0 w p P m G T) (s : ByteArray) (hl : s.size ≤ maxLen) (hs : lookP s.data.toList P = none) (k : Int) :
    Calls Try.prog 17 #[.pointer (some ⟨p, 0, none⟩), .string s, .int .i64 k] w fun e w' => e = .returned (.int .i64 13) ∧ w = w' := by
  obtain ⟨bm, L, own, hd, rfl, _⟩ := h
  exact cutNo_c p bm L m 0 own w hd s (look_none hs) hl k

theorem sRemove (h : Ses w0 w p P m G T) (s : ByteArray) (hl : s.size ≤ maxLen) (a : List Int) (f : Nat) (hs : lookP s.data.toList P = some (a, f)) :
    Calls Try.prog 19 #[.pointer (some ⟨p, 0, none⟩), .string s] w fun e w' => e = .returned (.int .i64 0) ∧ Ses w0 w' p (delP s.data.toList P) m G T := by
  obtain ⟨bm, L, own, hd, rfl, hlo, hbl, hg, ht⟩ := h
  obtain ⟨pre, x, post, rfl, hz, rfl, rfl⟩ := look_some hs
  refine (removeAt_c p bm pre post x m 0 own w hd s hz.symm hl).mono ?_
  rintro e w' ⟨rfl, hd', hs'⟩
  refine ⟨rfl, Ses.step hlo hbl hg ht hd' ?_ (.ofTurn (hs'.wide (fun i _ hi => hi.elim (fun e => e ▸ hd.op) (fun e => e ▸ hd.om))))⟩
  rw [← hz]
  exact (delP_pl hd.so).symm

theorem sRename (h : Ses w0 w p P m G T) (s t : ByteArray) (hls : s.size ≤ maxLen) (hl : t.size ≤ maxLen) (hn : nameB t.data.toList = true) (hL : P.length < maxLen) (a : List Int) (f : Nat) (hs : lookP s.data.toList P = some (a, f)) :
    Calls Try.prog 18 #[.pointer (some ⟨p, 0, none⟩), .string s, .string t] w fun e w' => e = .returned (.int .i64 0) ∧ Ses w0 w' p (insP (t.data.toList, a, f) (delP t.data.toList (delP s.data.toList P))) m G T := by
  obtain ⟨bm, L, own, hd, rfl, hlo, hbl, hg, ht⟩ := h
  obtain ⟨pre, x, post, rfl, hz, rfl, rfl⟩ := look_some hs
  refine (renAt_c p bm pre post x m 0 own w hd s t hz.symm hls hl hn (by simpa using hL)).mono ?_
  rintro e w' ⟨rfl, L', hd', hp', hs'⟩
  refine ⟨rfl, Ses.step hlo hbl hg ht hd' ?_ (.ofTurn hs')⟩
  rw [← hz, delP_pl hd.so]
  exact hp'

theorem sRenNo (h : Ses w0 w p P m G T) (s t : ByteArray) (hls : s.size ≤ maxLen) (hl : t.size ≤ maxLen) (hn : nameB t.data.toList = true) (hs : lookP s.data.toList P = none) :
    Calls Try.prog 18 #[.pointer (some ⟨p, 0, none⟩), .string s, .string t] w fun e w' => e = .returned (.int .i64 13) ∧ w = w' := by
  obtain ⟨bm, L, own, hd, rfl, _⟩ := h
  exact renNo_c p bm L m 0 own w hd s t (look_none hs) hls hl hn

theorem sNames (h : Ses w0 w p P m G T) (hL : P.length ≤ 1000000) :
    Calls Try.prog 20 #[.pointer (some ⟨p, 0, none⟩)] w fun e w' => ∃ v, e = .returned v ∧ Ses w0 w' p P m G ((v, P.map (·.1)) :: T) := by
  have h' := h
  obtain ⟨bm, L, own, hd, rfl, hlo, hbl, hg, ht⟩ := h'
  refine (names_c p bm L m 0 own w hd (by simpa using hL)).mono ?_
  rintro e w' ⟨v, rfl, hr, hb⟩
  refine ⟨v, rfl, bm, L, own, hd.below hb, rfl, hlo, bn hbl hb, fun x hx => (hg x hx).step (.ofBelow hb), fun x hx => ?_⟩
  rcases List.mem_cons.1 hx with rfl | hx
  · have e : (L.map pl).map (·.1) = L.map (·.n) := by rw [List.map_map]; rfl
    show Sl w' own v ((L.map pl).map (·.1))
    rw [e]
    exact Sl.ofRow hr (fun g hg ho => by have := hd.up g ho; omega)
  · exact (ht x hx).step (.ofBelow hb)
end
end Go.Proofs.Ytmhmdnlkkpjdjaa
