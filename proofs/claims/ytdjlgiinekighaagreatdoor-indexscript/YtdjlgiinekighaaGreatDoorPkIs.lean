/-
  strings.HasPrefix, by contract.
-/
import Derived.Test.YtdjlgiinekighaaGreatDoorPkIo
import Derived.Test.YtdjlgiinekighaaGreatDoorPkIr
namespace Go.Proofs.YtdjlgiinekighaaGreatDoor
open Go.RowKit Go.Lib Go.Sort Go.Shelf Go.Maps Go.Proofs.YtdjlgiinekighaaGreatDoor.P Go.Proofs
set_option maxRecDepth 100000
set_option linter.unusedSimpArgs false

def hasB (t p : Bs) : Bool := decide (p <+: t)
theorem bs_list (l : Bs) : (ByteArray.mk l.toArray).toList = l := by simp [go_sem]
theorem cut_pre (t p : Bs) : (((ByteArray.mk t.toArray).extract 0 p.length).toList == p) = hasB t p := by
  have e : (ByteArray.mk t.toArray).extract 0 p.length = ⟨(t.take p.length).toArray⟩ := Go.WideShapes.bytes_inj (by rw [Lib.extract_data]; simp)
  rw [e, bs_list]
  unfold hasB
  by_cases h : p <+: t
  · have := List.prefix_iff_eq_take.1 h
    rw [← this]
    simp [h]
  · have h2 : t.take p.length ≠ p := fun e => h (List.prefix_iff_eq_take.2 e.symm)
    simp [h, h2]
set_option maxHeartbeats 2000000 in
theorem has0_c (t p : Bs) (w : World) : Calls Tryz.prog 60 #[.string ⟨t.toArray⟩, .string ⟨p.toArray⟩] w fun e w' => e = .returned (.bool (hasB t p)) ∧ Below w.heap.size w w' := by
  by_cases hl : p.length ≤ t.length
  · have hl2 : (p.length : Int) ≤ (t.length : Int) := by omega
    go_enter Tryz.func60, Tryz.ntmps60
    go_wp2
    go_ret
    rw [cut_pre t p]
    exact ⟨rfl, Below.refl _ _⟩
  · have hl2 : ¬ (p.length : Int) ≤ (t.length : Int) := by omega
    have hd : hasB t p = false := by
      unfold hasB
      rw [decide_eq_false_iff_not]
      exact fun h => hl h.length_le
    rw [hd]
    go_enter Tryz.func60, Tryz.ntmps60
    go_wp2
    go_ret
    exact ⟨rfl, Below.refl _ _⟩
theorem has_c (t p : Bs) (w : World) : Calls Tryz.prog 36 #[.string ⟨t.toArray⟩, .string ⟨p.toArray⟩] w fun e w' => e = .returned (.bool (hasB t p)) ∧ Below w.heap.size w w' := by
  have CH := Lib.hid (has0_c t p w)
  go_enter Tryz.func36, Tryz.ntmps36
  go_wp2_with (go_at_call 60; refine CH.out.mono ?_; rintro e w1 ⟨rfl, b1⟩)
  go_ret
  exact ⟨rfl, b1⟩
end Go.Proofs.YtdjlgiinekighaaGreatDoor
/-
  Prefix of package index: the map that it gathers in, one step of it.
-/
namespace Go.Proofs.YtdjlgiinekighaaGreatDoor
open Go.RowKit Go.Lib Go.Sort Go.Shelf Go.Maps Go.Proofs.YtdjlgiinekighaaGreatDoor.P Go.Proofs
set_option maxRecDepth 100000
set_option linter.unusedSimpArgs false

def TellsK (es : List Pv) (G : Ky → List Int) : Prop := (∀ e ∈ es, e.ns = G (kyo e) ∧ e.ns ≠ []) ∧ ∀ k, G k ≠ [] → k ∈ es.map kyo
def addG (G : Ky → List Int) (k : Ky) (ns : List Int) : Ky → List Int := fun k' => if k' = k then G k ++ ns else G k'
theorem iapps_run (l ns : List Int) (v u : Value) (w : World) (ty : TypeId) (B : Nat) (h : Row w B v l) (hu : Nl w u ns) (hne : ns ≠ []) (hn : l.length + ns.length ≤ 100000000000) (hB : B ≤ w.heap.size) :
    ∃ A C w1, (Builtin.append_ #[64, 64] ty #[v, u]).run Tryz.prog w = .ok (.slice A (l.length + ns.length) C) w1 ∧ Row w1 B (.slice A (l.length + ns.length) C) (l ++ ns) ∧ w.grownBy w1 v.ownBlock ∧ ((Value.slice A (l.length + ns.length) C).ownBlock = v.ownBlock ∨ (Value.slice A (l.length + ns.length) C).ownBlock = some w.heap.size) := by
  obtain ⟨i0, hi, hz0, hz1, hz2⟩ := info_parts intInfo
  obtain ⟨ad, cap, rfl, hc⟩ := hu.form
  obtain ⟨g, o, rfl, hcs⟩ := hc (List.length_pos_iff.2 hne)
  obtain ⟨v', w', h1, h2, h4, _, h5⟩ := run_append_own_at (P := Tryz.prog) w B 64 ty 3 i0 _ 1 8 Tryz.underlying64 hi hz0 hz1 hz2 rfl (by decide) v l.length (ints l) h ⟨g, o, none⟩ ns.length cap (ints ns) (by rw [ints_len]; omega)
    (fun j u hj => by
      have hj2 : j < ns.length := by
        have := (List.getElem?_eq_some_iff.1 hj).1
        rwa [ints_len] at this
      rw [Go.Proofs.YtdjlgiinekighaaGreatDoor.P.ints_at ns j hj2] at hj
      cases hj
      rw [Go.WideShapes.add_plain]
      exact hcs j hj2) (ints_one ns) (by unfold maxLen; omega) (by omega) hB
  have hr : Row w' B v' (l ++ ns) := by
    unfold Row
    rw [List.length_append, show ints (l ++ ns) = ints l ++ ints ns from by simp [ints]]
    exact h2
  obtain ⟨A, C, rfl, _⟩ := own_form hr
  rw [List.length_append] at h1 hr h5
  exact ⟨A, C, w', h1, hr, h4, h5⟩
structure Tog (w : World) (B mb : Nat) (es : List Pv) : Prop where
  lb : B ≤ mb
  pm : PM Tryz.prog w 31 mb (es.map kv)
  rw : ∀ e ∈ es, Row w B e.a e.ns
  ap : (es.map Pv.a).Pairwise apart
  ok : ∀ e ∈ es, okKy (kyo e)
theorem Tog.below {w w' : World} {B mb : Nat} {es : List Pv} (h : Tog w B mb es) (hb : Below w.heap.size w w') : Tog w' B mb es := ⟨h.lb, h.pm.below hb, fun e he => Row.below (h.rw e he) hb, h.ap, h.ok⟩
theorem Tog.ks {w : World} {B mb : Nat} {es : List Pv} (h : Tog w B mb es) : (es.map kyo).Nodup := by
  have := h.pm.nd
  rw [kv_fst] at this
  exact List.Pairwise.of_map kyv (fun a b h e => h (by rw [e])) this
theorem nl_block {w w' : World} {v : Value} {l : List Int} {B : Nat} (h : Nl w v l) (hv : ∀ ad n c, v = .slice (some ad) n c → ad.block < B) (hb : ∀ j, j < B → w'.heap[j]? = w.heap[j]?) : Nl w' v l := by
  rcases h with h | ⟨ad, cap, h1, h2⟩
  · exact .inl h
  · refine .inr ⟨ad, cap, h1, fun h0 => ?_⟩
    obtain ⟨b, o, e, hs⟩ := h2 h0
    have hlt := hv _ _ _ h1
    subst e
    exact ⟨b, o, rfl, fun k hk => (World.cell?_of_block (hb b hlt)).trans (hs k hk)⟩
theorem tellsK_new {es : List Pv} {G : Ky → List Int} {k : Ky} {ns : List Int} {v : Value} (h : TellsK es G) (hn : k ∉ es.map kyo) (hne : ns ≠ []) : TellsK (es ++ [⟨k.1, k.2, v, ns⟩]) (addG G k ns) := by
  have hG : G k = [] := Classical.byContradiction fun h2 => hn (h.2 k h2)
  refine ⟨fun e he => ?_, fun k' hk' => ?_⟩
  · rcases List.mem_append.1 he with he | he
    · have : kyo e ≠ k := fun e2 => hn (e2 ▸ List.mem_map_of_mem he)
      unfold addG
      rw [if_neg this]
      exact h.1 e he
    · simp only [List.mem_singleton] at he
      subst he
      have e1 : kyo ⟨k.1, k.2, v, ns⟩ = k := rfl
      unfold addG
      rw [e1, if_pos rfl, hG]
      exact ⟨by simp, hne⟩
  · rw [List.map_append, List.mem_append]
    unfold addG at hk'
    by_cases hc : k' = k
    · subst hc; exact .inr (by simp [kyo])
    · rw [if_neg hc] at hk'
      exact .inl (h.2 k' hk')
theorem tellsK_more {pe qe : List Pv} {e0 : Pv} {G : Ky → List Int} {ns : List Int} {v : Value} (h : TellsK (pe ++ e0 :: qe) G) (hk : ((pe ++ e0 :: qe).map kyo).Nodup) (hne : ns ≠ []) : TellsK (pe ++ ⟨e0.o, e0.s, v, e0.ns ++ ns⟩ :: qe) (addG G (kyo e0) ns) := by
  have e1 : kyo ⟨e0.o, e0.s, v, e0.ns ++ ns⟩ = kyo e0 := rfl
  refine ⟨fun e he => ?_, fun k' hk' => ?_⟩
  · rcases mem_mid.1 he with rfl | he
    · unfold addG
      rw [e1, if_pos rfl, ← (h.1 e0 (mem_mid.2 (.inl rfl))).1]
      exact ⟨rfl, by simp [hne]⟩
    · unfold addG
      rw [if_neg (keys_mid hk e he)]
      exact h.1 e (mem_mid.2 (.inr he))
  · have e2 : (pe ++ ⟨e0.o, e0.s, v, e0.ns ++ ns⟩ :: qe).map kyo = (pe ++ e0 :: qe).map kyo := by simp [kyo]
    rw [e2]
    unfold addG at hk'
    by_cases hc : k' = kyo e0
    · subst hc; simp
    · rw [if_neg hc] at hk'
      exact h.2 k' hk'
/-- 'together[k] = append(together[k], at..)'. -/
theorem Tog.step {w : World} {B mb : Nat} {es : List Pv} (h : Tog w B mb es) (hB : B ≤ w.heap.size) {G : Ky → List Int} (hg : TellsK es G) {k : Ky} (hk : okKy k) {u : Value} {ns : List Int} (hu : Nl w u ns) (hub : ∀ ad n c, u = .slice (some ad) n c → ad.block < B) (hne : ns ≠ []) (hlen : es.length ≤ 100000000000) (hG : (G k).length + ns.length ≤ 100000000000) :
    ∃ z st w7 A8 n8 C8 w8 w9 es', (Instr.mapEntry 77 (.map (some mb)) (kyv k)).run Tryz.prog w = .ok (.tuple #[z, goInt st]) w7 ∧ (Builtin.append_ #[64, 64] 64 #[z, u]).run Tryz.prog w7 = .ok (.slice A8 n8 C8) w8 ∧ (Instr.entryStore 77 (.map (some mb)) (goInt st) (.slice A8 n8 C8)).run Tryz.prog w8 = .ok () w9 ∧
      Tog w9 B mb es' ∧ TellsK es' (addG G k ns) ∧ es'.length ≤ es.length + 1 ∧ Below B w w9 ∧ (∀ j, j < w.heap.size → j ≠ mb → (∀ e ∈ es, e.a.ownBlock ≠ some j) → w9.heap[j]? = w.heap[j]?) := by
  obtain ⟨l, hl⟩ := kyv_lit k hk
  have hub7 : ∀ (w7 : World), w.mapTurned w7 mb → Nl w7 u ns := fun w7 ht => nl_block hu hub fun j hj => turned_block ht (by omega) (by have := h.lb; omega)
  have pack : ∀ (w9 : World) (es' : List Pv), Tog w9 B mb es' → w9.os = w.os → w9.tape = w.tape → w9.output = w.output → w.heap.size ≤ w9.heap.size → (∀ j, j < w.heap.size → j ≠ mb → (∀ e ∈ es, e.a.ownBlock ≠ some j) → w9.heap[j]? = w.heap[j]?) → Below B w w9 := fun w9 es' _ h1 h2 h3 h4 h5 => ⟨h1, h2, h3, h4, fun j hj => h5 j (by omega) (by have := h.lb; omega) (fun e he e2 => by have := (World.ownsRow.lt (h.rw e he) j e2).1; omega)⟩
  by_cases hin : k ∈ es.map kyo
  · obtain ⟨x, hx, rfl⟩ := List.mem_map.1 hin
    obtain ⟨pe, qe, rfl⟩ := List.append_of_mem hx
    have hxr := h.rw x hx
    have hxG := (hg.1 x hx).1
    have hpm : PM Tryz.prog w 31 mb (pe.map kv ++ (kyv (kyo x), x.a) :: qe.map kv) := by
      have := h.pm
      simpa [kv, kyo, kyv] using this
    obtain ⟨st, w7, hE, ht7, hst⟩ := hpm.entry_at keyLaw Tryz.underlying77 (z := .slice none 0 0) (fun w => by simp [Tryz.zeroValue64]) (by simp at hlen ⊢; unfold maxLen; omega) hl
    have hr7 : Row w7 B x.a x.ns := ownsRow_of_block hxr fun g hg => turned_block ht7 (World.ownsRow.lt hxr g hg).2 (row_ne_map h.pm hxr hg)
    have hsz7 : w7.heap.size = w.heap.size := turned_size ht7
    obtain ⟨A8, C8, w8, hap, hr8, hg8, ho8⟩ := iapps_run x.ns ns x.a u w7 64 B hr7 (hub7 w7 ht7) hne (by rw [hxG]; exact hG) (by omega)
    obtain ⟨w9, hst9, ht9, hpm9⟩ := hst w8 (.slice A8 (x.ns.length + ns.length) C8) (hg8.block mb (by have := h.pm.lt; omega) (fun e => row_ne_map h.pm hxr e.symm rfl))
    have hsz8 := hg8.size
    have hsz9 : w9.heap.size = w8.heap.size := turned_size ht9
    have hr9 : Row w9 B (.slice A8 (x.ns.length + ns.length) C8) (x.ns ++ ns) := ownsRow_of_block hr8 fun g hg => turned_block ht9 (World.ownsRow.lt hr8 g hg).2 (row_ne_turned ht9 hr8 hg)
    have hbl : ∀ j, j < w.heap.size → j ≠ mb → x.a.ownBlock ≠ some j → w9.heap[j]? = w.heap[j]? := fun j hj hjb hju => (turned_block ht9 (by omega) hjb).trans ((hg8.block j (by omega) (fun e => hju e.symm)).trans (turned_block ht7 (by omega) hjb))
    have hap0 := h.ap
    simp only [List.map_append, List.map_cons] at hap0
    obtain ⟨hap1, hap2⟩ := pw_del hap0
    have hoth : ∀ e ∈ pe ++ qe, apart e.a x.a := fun e he => hap2 e.a (by rw [← List.map_append]; exact List.mem_map_of_mem he)
    have hT : Tog w9 B mb (pe ++ ⟨x.o, x.s, .slice A8 (x.ns.length + ns.length) C8, x.ns ++ ns⟩ :: qe) := by
      refine ⟨h.lb, by simpa [kv, kyo, kyv] using hpm9, fun e he => ?_, ?_, fun e he => ?_⟩
      · rcases mem_mid.1 he with rfl | he
        · exact hr9
        · have hre := h.rw e (mem_mid.2 (.inr he))
          exact ownsRow_of_block hre fun g hg => hbl g (World.ownsRow.lt hre g hg).2 (row_ne_map h.pm hre hg) (hoth e he g hg)
      · simp only [List.map_append, List.map_cons]
        refine pw_mid hap0 fun y hy g hyg e2 => ?_
        rw [← List.map_append] at hy
        obtain ⟨e, he, rfl⟩ := List.mem_map.1 hy
        rcases ho8 with h8 | h8
        · exact hoth e he g hyg (h8.symm.trans e2)
        · rw [h8] at e2
          have := (World.ownsRow.lt (h.rw e (mem_mid.2 (.inr he))) g hyg).2
          have := Option.some.inj e2
          omega
      · rcases mem_mid.1 he with rfl | he
        · exact h.ok x hx
        · exact h.ok e (mem_mid.2 (.inr he))
    have hkeep : ∀ j, j < w.heap.size → j ≠ mb → (∀ e ∈ pe ++ x :: qe, e.a.ownBlock ≠ some j) → w9.heap[j]? = w.heap[j]? := fun j hj h1 h2 => hbl j hj h1 (h2 x hx)
    exact ⟨x.a, st, w7, A8, _, C8, w8, w9, _, hE, hap, hst9, hT, tellsK_more hg h.ks hne, by simp, pack w9 _ hT (ht9.grown.os.trans (hg8.os.trans ht7.grown.os)) (ht9.grown.tape.trans (hg8.tape.trans ht7.grown.tape)) (ht9.grown.output.trans (hg8.output.trans ht7.grown.output)) (by omega) hkeep, hkeep⟩
  · obtain ⟨st, w7, hE, ht7, hst⟩ := h.pm.entry_new keyLaw Tryz.underlying77 (z := .slice none 0 0) (fun w => by simp [Tryz.zeroValue64]) (by rw [List.length_map]; unfold maxLen; omega) hl (key_not hin)
    have hsz7 : w7.heap.size = w.heap.size := turned_size ht7
    obtain ⟨A8, C8, w8, hap, hr8, hg8, ho8⟩ := iapps_run [] ns (.slice none 0 0) u w7 64 B (Row.nil _ _) (hub7 w7 ht7) hne (by simp; omega) (by omega)
    simp only [List.length_nil, Nat.zero_add, List.nil_append] at hap hr8 ho8
    obtain ⟨w9, hst9, ht9, hpm9⟩ := hst w8 (.slice A8 ns.length C8) (hg8.block mb (by have := h.pm.lt; omega) (fun e => by cases e))
    have hsz8 := hg8.size
    have hsz9 : w9.heap.size = w8.heap.size := turned_size ht9
    have hr9 : Row w9 B (.slice A8 ns.length C8) ns := ownsRow_of_block hr8 fun g hg => turned_block ht9 (World.ownsRow.lt hr8 g hg).2 (row_ne_turned ht9 hr8 hg)
    have hbl : ∀ j, j < w.heap.size → j ≠ mb → w9.heap[j]? = w.heap[j]? := fun j hj hjb => (turned_block ht9 (by omega) hjb).trans ((hg8.block j (by omega) (fun e => by cases e)).trans (turned_block ht7 (by omega) hjb))
    have hT : Tog w9 B mb (es ++ [⟨k.1, k.2, .slice A8 ns.length C8, ns⟩]) := by
      refine ⟨h.lb, by simpa [kv, kyo, kyv] using hpm9, fun e he => ?_, ?_, fun e he => ?_⟩
      · rcases List.mem_append.1 he with he | he
        · have hre := h.rw e he
          exact ownsRow_of_block hre fun g hg => hbl g (World.ownsRow.lt hre g hg).2 (row_ne_map h.pm hre hg)
        · simp only [List.mem_singleton] at he
          subst he
          exact hr9
      · rw [List.map_append, List.pairwise_append]
        refine ⟨h.ap, by simp, fun a ha b hb g hag e2 => ?_⟩
        obtain ⟨e, he, rfl⟩ := List.mem_map.1 ha
        simp only [List.map_cons, List.map_nil, List.mem_singleton] at hb
        subst hb
        have h3 := (World.ownsRow.lt (h.rw e he) g hag).2
        rcases ho8 with h8 | h8
        · rw [h8] at e2; cases e2
        · rw [h8] at e2
          have := Option.some.inj e2
          omega
      · rcases List.mem_append.1 he with he | he
        · exact h.ok e he
        · simp only [List.mem_singleton] at he
          subst he
          exact hk
    have hkeep : ∀ j, j < w.heap.size → j ≠ mb → (∀ e ∈ es, e.a.ownBlock ≠ some j) → w9.heap[j]? = w.heap[j]? := fun j hj h1 _ => hbl j hj h1
    exact ⟨.slice none 0 0, st, w7, A8, _, C8, w8, w9, _, hE, hap, hst9, hT, tellsK_new hg hin hne, by simp, pack w9 _ hT (ht9.grown.os.trans (hg8.os.trans ht7.grown.os)) (ht9.grown.tape.trans (hg8.tape.trans ht7.grown.tape)) (ht9.grown.output.trans (hg8.output.trans ht7.grown.output)) (by omega) hkeep, hkeep⟩
end Go.Proofs.YtdjlgiinekighaaGreatDoor
/-
  Prefix of package index: plain facts.
-/
namespace Go.Proofs.YtdjlgiinekighaaGreatDoor
open Go.RowKit Go.Lib Go.Sort Go.Shelf Go.Maps Go.Proofs.YtdjlgiinekighaaGreatDoor.P Go.Proofs
set_option maxRecDepth 100000
set_option linter.unusedSimpArgs false

/-- Where what begins with p stands. -/
def preN : Nat → List Bs → Bs → List Int
  | _, [], _ => []
  | i, a :: r, p => if hasB a p = true then (i : Int) :: preN (i + 1) r p else preN (i + 1) r p
def preS : Sx → Ky → Bs → List Int
  | [], _, _ => []
  | x :: r, k, p => if x.1 = k then preN 0 x.2 p else preS r k p
def catG (F : Ky → Bs → List Int) (V : List Bs) (p : Bs) : Ky → List Int := fun k => V.flatMap fun t => if hasB t p = true then F k t else []
theorem preN_up : ∀ (ts : List Bs) (i : Nat) (p : Bs), (preN i ts p).Pairwise (· < ·) ∧ ∀ x ∈ preN i ts p, (i : Int) ≤ x ∧ x < ((i + ts.length : Nat) : Int)
  | [], i, t => ⟨List.Pairwise.nil, fun x hx => (by cases hx)⟩
  | a :: r, i, t => by
    obtain ⟨h1, h2⟩ := preN_up r (i + 1) t
    simp only [preN, List.length_cons]
    split
    · refine ⟨List.pairwise_cons.2 ⟨fun x hx => by have := (h2 x hx).1; omega, h1⟩, fun x hx => ?_⟩
      rcases List.mem_cons.1 hx with rfl | hx
      · omega
      · have := h2 x hx; omega
    · exact ⟨h1, fun x hx => by have := h2 x hx; omega⟩
theorem preS_up (S : Sx) (k : Ky) (t : Bs) : (preS S k t).Pairwise (· < ·) := by
  induction S with
  | nil => exact List.Pairwise.nil
  | cons x r ih =>
    unfold preS
    split
    · exact (preN_up _ _ _).1
    · exact ih
theorem preN_len (ts : List Bs) (i : Nat) (t : Bs) : (preN i ts t).length ≤ ts.length := by
  induction ts generalizing i with
  | nil => simp [preN]
  | cons b r ih =>
    have := ih (i + 1)
    simp only [preN, List.length_cons]
    split <;> simp <;> omega
theorem preS_len (S : Sx) (k : Ky) (t : Bs) (n : Nat) (h : ∀ x ∈ S, x.2.length ≤ n) : (preS S k t).length ≤ n := by
  induction S with
  | nil => simp [preS]
  | cons x r ih =>
    unfold preS
    split
    · exact Nat.le_trans (preN_len _ _ _) (h x (by simp))
    · exact ih fun y hy => h y (by simp [hy])
theorem flat_two {α β : Type} (V : List α) (f g : α → List β) : (V.flatMap fun t => f t ++ g t).Perm (V.flatMap f ++ V.flatMap g) := by
  induction V with
  | nil => exact List.Perm.refl _
  | cons a r ih =>
    simp only [List.flatMap_cons, List.append_assoc]
    refine List.Perm.append_left _ ?_
    refine (List.Perm.append_left _ ih).trans ?_
    rw [← List.append_assoc, ← List.append_assoc]
    exact List.Perm.append_right _ List.perm_append_comm
theorem flat_one {β : Type} (V : List Bs) (a : Bs) (l : List β) (hn : V.Nodup) (ha : a ∈ V) : (V.flatMap fun t => if a = t then l else []) = l := by
  induction V with
  | nil => cases ha
  | cons b r ih =>
    rw [List.nodup_cons] at hn
    rw [List.flatMap_cons]
    by_cases hb : a = b
    · subst hb
      rw [if_pos rfl]
      have : (r.flatMap fun t => if a = t then l else []) = [] := by
        rw [List.flatMap_eq_nil_iff]
        intro t ht
        refine if_neg (fun e => ?_)
        subst e
        exact hn.1 ht
      rw [this, List.append_nil]
    · rw [if_neg hb, List.nil_append]
      exact ih hn.2 ((List.mem_cons.1 ha).resolve_left hb)
theorem preN_perm (p : Bs) (V : List Bs) (hn : V.Nodup) : ∀ (ts : List Bs) (i : Nat), (∀ t ∈ ts, t ∈ V) → (V.flatMap fun t => if hasB t p = true then posN i ts t else []).Perm (preN i ts p)
  | [], i, _ => by
    have : (V.flatMap fun t => if hasB t p = true then posN i [] t else []) = [] := by
      rw [List.flatMap_eq_nil_iff]
      intro t _
      split <;> rfl
    rw [this]
    exact List.Perm.refl _
  | a :: r, i, h => by
    have ih := preN_perm p V hn r (i + 1) (fun t ht => h t (List.mem_cons_of_mem _ ht))
    have e : (V.flatMap fun t => if hasB t p = true then posN i (a :: r) t else []) = V.flatMap fun t => (if a = t then (if hasB a p = true then [(i : Int)] else []) else []) ++ (if hasB t p = true then posN (i + 1) r t else []) := by
      congr 1
      funext t
      by_cases h1 : a = t
      · subst h1
        by_cases h2 : hasB a p = true
        · simp [posN, h2]
        · simp [h2]
      · by_cases h2 : hasB t p = true
        · simp [posN, h1, h2]
        · simp [h1, h2]
    rw [e]
    refine (flat_two V _ _).trans ?_
    rw [flat_one V a _ hn (h a (List.mem_cons_self ..))]
    unfold preN
    by_cases h2 : hasB a p = true
    · rw [if_pos h2, if_pos h2]
      exact List.Perm.cons _ ih
    · rw [if_neg h2, if_neg h2]
      exact ih
theorem catG_perm (p : Bs) (V : List Bs) (hn : V.Nodup) : ∀ (S : Sx) (k : Ky), (∀ t, posS S k t ≠ [] → t ∈ V) → (catG (posS S) V p k).Perm (preS S k p)
  | [], k, _ => by
    have : catG (posS []) V p k = [] := by
      unfold catG
      rw [List.flatMap_eq_nil_iff]
      intro t _
      split <;> rfl
    rw [this]
    exact List.Perm.refl _
  | x :: r, k, h => by
    by_cases hx : x.1 = k
    · have e : catG (posS (x :: r)) V p k = V.flatMap fun t => if hasB t p = true then posN 0 x.2 t else [] := by
        unfold catG
        congr 1
        funext t
        simp [posS, hx]
      rw [e]
      unfold preS
      rw [if_pos hx]
      refine preN_perm p V hn x.2 0 fun t ht => h t ?_
      unfold posS
      rw [if_pos hx]
      exact posN_ne _ _ _ ht
    · have e : catG (posS (x :: r)) V p k = catG (posS r) V p k := by
        unfold catG
        congr 1
        funext t
        simp [posS, hx]
      rw [e]
      unfold preS
      rw [if_neg hx]
      refine catG_perm p V hn r k fun t ht => h t ?_
      unfold posS
      rwa [if_neg hx]
/-- The list of what begins with p. -/
def lstR (S : Sx) (p : Bs) : List Po := (srtK ((S.map Prod.fst).filter fun k => decide (preS S k p ≠ []))).map fun k => (⟨k, preS S k p⟩ : Po)
theorem preS_no : ∀ (S : Sx) (k : Ky) (t : Bs), k ∉ S.map Prod.fst → preS S k t = []
  | [], _, _, _ => rfl
  | x :: r, k, t, h => by
    simp only [List.map_cons, List.mem_cons, not_or] at h
    have h1 : ¬ x.1 = k := fun e => h.1 e.symm
    simp only [preS, if_neg h1, preS_no r k t h.2]
theorem srtI_eq {a b : List Int} (h : a.Perm b) (hb : b.Pairwise (· < ·)) : srtI a = b := by
  have tr : ∀ x y z : Int, decide (x ≤ y) = true → decide (y ≤ z) = true → decide (x ≤ z) = true := fun x y z h1 h2 => by simp only [decide_eq_true_eq] at *; omega
  have tot : ∀ x y : Int, (decide (x ≤ y) || decide (y ≤ x)) = true := fun x y => by simp only [Bool.or_eq_true, decide_eq_true_eq]; omega
  refine List.Perm.eq_of_pairwise (le := fun x y => decide (x ≤ y) = true) (fun x y _ _ h1 h2 => by simp only [decide_eq_true_eq] at *; omega) (List.pairwise_mergeSort tr tot a) (hb.imp fun {x y} hxy => by simp only [decide_eq_true_eq]; omega) ((List.mergeSort_perm a _).trans h)
theorem lstP_pre {es : List Pv} {S : Sx} {p : Bs} {V : List Bs} (h : TellsK es (catG (posS S) V p)) (hk : (es.map kyo).Nodup) (hS : (S.map Prod.fst).Nodup) (hn : V.Nodup) (hV : ∀ k t, posS S k t ≠ [] → t ∈ V) : lstP es = lstR S p := by
  unfold lstP lstR
  have hpm : ∀ k, (catG (posS S) V p k).Perm (preS S k p) := fun k => catG_perm p V hn S k (hV k)
  have hp : (es.map kyo).Perm ((S.map Prod.fst).filter fun k => decide (preS S k p ≠ [])) := by
    refine (List.perm_ext_iff_of_nodup hk (hS.filter _)).2 fun k => ?_
    rw [List.mem_filter, decide_eq_true_eq]
    constructor
    · intro hm
      obtain ⟨e, he, rfl⟩ := List.mem_map.1 hm
      obtain ⟨h1, h2⟩ := h.1 e he
      have h3 : preS S (kyo e) p ≠ [] := fun e0 => by
        have := hpm (kyo e)
        rw [e0] at this
        exact h2 (h1.trans this.eq_nil)
      exact ⟨Classical.byContradiction fun hno => h3 (preS_no S _ _ hno), h3⟩
    · rintro ⟨_, h2⟩
      exact h.2 k fun e0 => by
        have := hpm k
        rw [e0] at this
        exact h2 this.symm.eq_nil
  rw [srtK_perm_eq hp (hS.filter _)]
  refine List.map_congr_left fun k hkm => ?_
  have hkm2 := hp.mem_iff.2 ((srtK_perm _).mem_iff.1 hkm)
  obtain ⟨e, he, rfl⟩ := List.mem_map.1 hkm2
  have h1 := nsAt_mem hk he
  have h2 := (h.1 e he).1
  have h3 : nsAt es (kyo e) = catG (posS S) V p (kyo e) := h1.trans h2
  rw [h3, srtI_eq (hpm _) (preS_up _ _ _)]
theorem catG_len {S : Sx} {V : List Bs} {p : Bs} {k : Ky} {n : Nat} (h : ∀ t, (posS S k t).length ≤ n) : (catG (posS S) V p k).length ≤ V.length * n := by
  unfold catG
  induction V with
  | nil => simp
  | cons a r ih =>
    rw [List.flatMap_cons, List.length_append, List.length_cons, Nat.succ_mul]
    have : (if hasB a p = true then posS S k a else []).length ≤ n := by
      split
      · exact h a
      · simp
    omega
end Go.Proofs.YtdjlgiinekighaaGreatDoor
/-
  Prefix of package index, by contract.
-/
namespace Go.Proofs.YtdjlgiinekighaaGreatDoor
open Go.RowKit Go.Lib Go.Sort Go.Shelf Go.Maps Go.Proofs.YtdjlgiinekighaaGreatDoor.P Go.Proofs
set_option maxRecDepth 100000
set_option linter.unusedSimpArgs false

theorem powm {w : World} {B B' : Nat} {v : Value} {l : List Pv} (h : POwn w B v l) (hB : B' ≤ B) : POwn w B' v l := ⟨World.ownsRow.mono h.row hB, fun x hx => Row.mono (h.rows x hx) hB, h.pw⟩
theorem Tog.keep {w w' : World} {B mb : Nat} {es : List Pv} (h : Tog w B mb es) (hb : ∀ j, j < w.heap.size → (j = mb ∨ ∃ e ∈ es, e.a.ownBlock = some j) → w'.heap[j]? = w.heap[j]?) : Tog w' B mb es :=
  ⟨h.lb, h.pm.of_block (hb _ h.pm.lt (.inl rfl)), fun e he => ownsRow_of_block (h.rw e he) fun g hg => hb g (World.ownsRow.lt (h.rw e he) g hg).2 (.inr ⟨e, he, hg⟩), h.ap, h.ok⟩
theorem Tog.walk {w : World} {B mb : Nat} {es : List Pv} (h : Tog w B mb es) {kt : TypeId} {b r : Nat} {m rest : List (Value × Value)} (hr : PR Tryz.prog w kt b r m rest) : r ≠ mb ∧ ∀ e ∈ es, e.a.ownBlock ≠ some r := by
  obtain ⟨⟨D, left, cnt, ⟨es0, clock0, since, seen, c0, k1, k2, k3, k4, ho, k6⟩, hR⟩, hs⟩ := hr
  constructor
  · rintro rfl
    obtain ⟨D, ⟨es', clock, h1, _⟩, _⟩ := h.pm
    rw [ho] at h1
    cases h1
  · intro e he hg
    rcases (h.rw e he).2 with ⟨e1, _⟩ | ⟨g, cap, cur, e1, _, h1, _⟩
    · rw [e1] at hg; cases hg
    · rw [e1] at hg
      simp only [Value.ownBlock, Option.some.injEq] at hg
      subst hg
      rw [ho] at h1
      cases h1
/-- How far a word is gone through. -/
def midG (S : Sx) (V : List Bs) (p : Bs) (U : List Ky) (t : Bs) : Ky → List Int := fun k => catG (posS S) V p k ++ (if k ∈ U then posS S k t else [])
theorem midG_zero (S : Sx) (V : List Bs) (p : Bs) (t : Bs) : midG S V p [] t = catG (posS S) V p := by
  funext k
  simp [midG]
theorem midG_next (S : Sx) (V : List Bs) (p : Bs) (U : List Ky) (t : Bs) (k : Ky) (h : k ∉ U) : addG (midG S V p U t) k (posS S k t) = midG S V p (U ++ [k]) t := by
  funext k'
  unfold addG midG
  by_cases hc : k' = k
  · subst hc
    simp [h]
  · simp [hc]
theorem midG_all (S : Sx) (V : List Bs) (p : Bs) (U : List Ky) (t : Bs) (hp : hasB t p = true) (h : ∀ k, k ∉ U → posS S k t = []) : midG S V p U t = catG (posS S) (V ++ [t]) p := by
  funext k
  unfold midG catG
  rw [List.flatMap_append, List.flatMap_cons, List.flatMap_nil, List.append_nil, if_pos hp]
  by_cases hk : k ∈ U
  · rw [if_pos hk]
  · rw [if_neg hk, h k hk]
theorem catG_skip (S : Sx) (V : List Bs) (p t : Bs) (hp : hasB t p = false) : catG (posS S) (V ++ [t]) p = catG (posS S) V p := by
  funext k
  unfold catG
  rw [List.flatMap_append, List.flatMap_cons, List.flatMap_nil, List.append_nil, if_neg (by rw [hp]; decide), List.append_nil]
theorem few_keys {S : Sx} {es : List Pv} (hS : (S.map Prod.fst).Nodup) (hk : (es.map kyo).Nodup) (h : ∀ k ∈ es.map kyo, k ∈ S.map Prod.fst) : es.length ≤ S.length := by
  have hp : (es.map kyo).Perm ((S.map Prod.fst).filter fun k => decide (k ∈ es.map kyo)) := (List.perm_ext_iff_of_nodup hk (hS.filter _)).2 fun k => by
    rw [List.mem_filter, decide_eq_true_eq]
    exact ⟨fun hm => ⟨h k hm, hm⟩, fun hm => hm.2⟩
  have h1 := hp.length_eq
  have h2 := List.length_filter_le (fun k => decide (k ∈ es.map kyo)) (S.map Prod.fst)
  rw [← h1, List.length_map, List.length_map] at h2
  exact h2
def PreIn (w : World) (bl b r2 : Nat) (q t : Bs) (S : Sx) (V : List Bs) (L : List Wn) (xes : List Pv) (rest : List (Value × Value)) (N0 : Nat) (wq : World) : Prop :=
  ∃ (left2 : List (Value × Value)) (U : List Ky) (es2 : List Pv), Hid (PR Tryz.prog wq 31 b r2 (xes.map kv) left2) ∧ Hid ((U.map kyv ++ left2.map Prod.fst).Perm ((xes.map kv).map Prod.fst)) ∧ Hid (TellsK es2 (midG S V q U t)) ∧ Hid (Tog wq w.heap.size w.heap.size es2) ∧ Hid (Below w.heap.size w wq) ∧ Hid (PR Tryz.prog wq 9 bl (w.heap.size + 1) (L.map wnv) rest) ∧ Hid (wq.rangeLeft bl (w.heap.size + 1) < N0)
set_option maxHeartbeats 16000000 in
theorem prefix_c (p n : Nat) (S : Sx) (own : Nat → Prop) (q : Bs) (w : World) (h : Ix w p S n own) (hn : n ≤ 100000) (hSw : ∀ x ∈ S, x.2.length ≤ 100000) :
    Calls Tryz.prog 16 #[.pointer (some ⟨p, 0, none⟩), .string ⟨q.toArray⟩] w fun e w' => ∃ v qs, e = .returned v ∧ POwn w' w.heap.size v qs ∧ ps qs = lstR S q ∧ Below w.heap.size w w' := by
  have mixed : Tryz.prog.follows .mixedOrders = true := by kernel_rfl
  have hnd := h.nd
  obtain ⟨bt, bl, T, L, hx, rfl, hte, hfu, hfe⟩ := h
  obtain ⟨w1, hw1⟩ : ∃ w1, w1 = w.alloc (.map #[] 0) := ⟨_, rfl⟩
  have hb1 : Below w.heap.size w w1 := by rw [hw1]; exact alloc_below _ _
  have hm1 : PM Tryz.prog w1 31 w.heap.size [] := by rw [hw1]; exact PM.new _ w _
  have hs1 : w1.heap.size = w.heap.size + 1 := by rw [hw1]; simp
  have HTG : Hid (Tog w1 w.heap.size w.heap.size []) := Lib.hid ⟨Nat.le_refl _, hm1, fun e he => (by cases he), List.Pairwise.nil, fun e he => (by cases he)⟩
  have p1 := hx.hd.cell 1
  simp only [List.getElem?_toArray, List.getElem?_cons_succ, List.getElem?_cons_zero] at p1
  have hpl := hx.hd.lt
  have hmk := mkmap_run w
  have HLM := Lib.hid ((hx.below hb1).lm)
  have HX := Lib.hid hx
  have HTE := Lib.hid hte
  have HFE := Lib.hid hfe
  have HND := Lib.hid hnd
  have HB1 := Lib.hid hb1
  have HSW := Lib.hid hSw
  have HS1 := Lib.hid hs1
  clear hx hte hfe hfu hnd hb1 hm1 hs1 hSw
  have HPL : Hid (∀ k t, (posS (T.map txs) k t).length ≤ n) := Lib.hid (fun k t => by
    by_cases h0 : posS (T.map txs) k t = []
    · rw [h0]; simp
    · obtain ⟨y, hy, e, z, hz, ez⟩ := HTE.out.al k t h0
      have h1 := (HTE.out.ns y hy z hz).1
      rw [ez, e] at h1
      rw [← h1]
      exact HFE.out.s y hy z hz)
  go_enter Tryz.func16, Tryz.ntmps16
  go_wp2_with (first
    | (at_range; refine wpList_range_pm rfl _ 70 rfl 9 77 strKeyed Tryz.underlying70 bl (L.map wnv) rfl (by rw [← hw1]; exact HLM.out) ?_; intro w0 hrg0 hg0 hs0))
  go_frame
  have hs0' : (w.alloc (.map #[] 0)).heap.size = w.heap.size + 1 := by simp
  rw [hs0'] at hrg0 ⊢
  have hb0 : Below w1.heap.size w1 w0 := by
    rw [hw1]
    exact ⟨hg0.os, hg0.tape, hg0.output, hg0.size, fun i hi => hg0.block i hi (fun e => by cases e)⟩
  have HTG0 := Lib.hid (HTG.out.below hb0)
  have HB0 := Lib.hid (bn HB1.out hb0)
  have HRG0 := Lib.hid hrg0
  clear hs0' hb0 hrg0 hg0 hs0 HTG HB1 HLM hw1 p1 hpl HS1 hmk
  go_loopw [7] (fun _ wr => ∃ (left : List (Value × Value)) (V : List Bs) (es : List Pv), Hid (PR Tryz.prog wr 9 bl (w.heap.size + 1) (L.map wnv) left) ∧ Hid ((V.map bsv ++ left.map Prod.fst).Perm ((L.map wnv).map Prod.fst)) ∧ Hid (TellsK es (catG (posS (T.map txs)) V q)) ∧ Hid (Tog wr w.heap.size w.heap.size es) ∧ Hid (Below w.heap.size w wr)) (fun _ wr => wr.rangeLeft bl (w.heap.size + 1))
  case atStart => exact ⟨_, [], [], HRG0, Lib.hid (List.Perm.refl _), Lib.hid ⟨fun e he => (by cases he), fun k hk => absurd rfl hk⟩, HTG0, HB0⟩
  case round =>
    obtain ⟨left, V, es, HRG, HPM, HTK, HTG, HB⟩ := hrel
    clear HRG0 HTG0 HB0
    have HVL : Hid (V.Nodup ∧ (∀ t ∈ V, t ∈ L.map Wn.t) ∧ V.length ≤ n) := Lib.hid (by
      have h1 : (V.map bsv ++ left.map Prod.fst).Nodup := HPM.out.nodup_iff.2 (by rw [wnv_fst]; exact (List.Pairwise.map bsv (fun a b h e => h (bsv_inj e)) HX.out.ws))
      refine ⟨List.Pairwise.of_map bsv (fun a b h e => h (by rw [e])) (List.nodup_append.1 h1).1, fun t ht => ?_, ?_⟩
      · have : bsv t ∈ (L.map wnv).map Prod.fst := HPM.out.mem_iff.1 (List.mem_append.2 (.inl (List.mem_map_of_mem ht)))
        rw [wnv_fst] at this
        obtain ⟨t', ht', e⟩ := List.mem_map.1 this
        exact bsv_inj e ▸ ht'
      · have := HPM.out.length_eq
        simp only [List.length_append, List.length_map] at this
        have := HFE.out.l
        omega)
    go_wp2_with (first
      | (at_next; refine wpList_next_pm rfl _ rfl 9 strKeyed bl (w.heap.size + 1) (L.map wnv) left rfl HRG.out ?_ ?_))
    · intro hl0
      subst hl0
      have hV : ∀ k t, posS (T.map txs) k t ≠ [] → t ∈ V := fun k t h0 => by
        obtain ⟨y, hy, e, _⟩ := HTE.out.al k t h0
        have : bsv t ∈ V.map bsv ++ ([] : List (Value × Value)).map Prod.fst := HPM.out.mem_iff.2 (by rw [wnv_fst]; exact List.mem_map_of_mem (List.mem_map.2 ⟨y, hy, e⟩))
        simp only [List.map_nil, List.append_nil] at this
        obtain ⟨t', ht', e⟩ := List.mem_map.1 this
        exact bsv_inj e ▸ ht'
      have hpm := HPM.out
      have hls := lstP_pre HTK.out HTG.out.ks HND.out HVL.out.1 hV
      have hcl : ∀ k, (catG (posS (T.map txs)) V q k).length ≤ 100000 := fun k => by
        rw [(catG_perm q V HVL.out.1 (T.map txs) k (hV k)).length_eq]
        exact preS_len _ _ _ _ HSW.out
      have hel : es.length ≤ 100000 := by
        have h1 := few_keys HND.out HTG.out.ks (fun k hk => by
          obtain ⟨e, he, rfl⟩ := List.mem_map.1 hk
          obtain ⟨h1, h2⟩ := HTK.out.1 e he
          rw [h1] at h2
          refine Classical.byContradiction fun hno => h2 ?_
          unfold catG
          rw [List.flatMap_eq_nil_iff]
          intro t _
          split
          · exact posS_no _ _ _ hno
          · rfl)
        have := HFE.out.t
        rw [List.length_map] at h1
        omega
      have CL := Lib.hid (list_c (some w.heap.size) es wr (.inr ⟨_, rfl, HTG.out.pm⟩) (fun x hx => (HTG.out.rw x hx).nl) (fun x hx => by rw [(HTK.out.1 x hx).1]; exact hcl _) HTG.out.ok hel)
      have HLS := Lib.hid hls
      clear hV hpm hls hcl hel
      go_wp2_with (go_at_call 35; refine CL.out.mono ?_; rintro e w2 ⟨v, qs, rfl, h1, h2, h3⟩)
      go_ret
      exact ⟨_, qs, rfl, powm h1 HB.out.size, h2.trans HLS.out, bn HB.out h3⟩
    · intro pre key v post w2 hl0 hrg2 hg2 hs2 hen hlt
      have hkm : (key, v) ∈ L.map wnv := HRG.out.2.1 _ (by simp [hl0])
      obtain ⟨⟨t, b, xes⟩, hxm, hxe⟩ := List.mem_map.1 hkm
      simp only [wnv, bsv, Prod.mk.injEq] at hxe
      obtain ⟨rfl, rfl⟩ := hxe
      have hb2 : Below w.heap.size w w2 := HB.out.trans (below_of_grown hg2 HB.out.size (fun g hg => by cases hg; omega))
      obtain ⟨hw1, hw2⟩ := HTG.out.walk HRG.out
      have HTG2 := Lib.hid (HTG.out.keep (w' := w2) (fun j hj h => hg2.block j hj (fun e => by
        cases e
        rcases h with h | ⟨e, he, h⟩
        · exact hw1 h
        · exact hw2 e he h)))
      have HPM2 : Hid (((V ++ [t]).map bsv ++ (pre ++ post).map Prod.fst).Perm ((L.map wnv).map Prod.fst)) := Lib.hid (by
        refine List.Perm.trans ?_ HPM.out
        rw [hl0]
        simp only [List.map_append, List.map_cons, List.map_nil, List.append_assoc]
        refine List.Perm.append_left _ ?_
        exact (List.perm_middle (l₁ := pre.map Prod.fst)).symm)
      have HRG2 := Lib.hid hrg2
      have HLT2 := Lib.hid hlt
      have HB2 := Lib.hid hb2
      have HXM := Lib.hid hxm
      have HXT := Lib.hid (HX.out.lt _ hxm)
      have CH := Lib.hid (has_c t q w2)
      clear hkm hw1 hw2 hrg2 hlt hb2 hg2 hs2 hl0 HTG HB HRG HPM hxm
      cases hhas : hasB t q with
      | false =>
        rw [hhas] at CH
        have HTK2 : Hid (TellsK es (catG (posS (T.map txs)) (V ++ [t]) q)) := Lib.hid (by rw [catG_skip _ _ _ _ hhas]; exact HTK.out)
        clear hhas
        go_wp2_with (go_at_call 36; refine CH.out.mono ?_; rintro e w3 ⟨rfl, b3⟩; have HB3 := Lib.hid b3; clear b3)
        go_roundw
        case rel => exact ⟨pre ++ post, V ++ [t], es, Lib.hid (HRG2.out.below HB3.out), HPM2, HTK2, Lib.hid (HTG2.out.below HB3.out), Lib.hid (bn HB2.out HB3.out)⟩
        case measure =>
          rw [PR.left_same (HB3.out.block bl HRG2.out.pm.lt) (HB3.out.block _ HRG2.out.lt)]
          exact HLT2.out
      | true =>
        rw [hhas] at CH
        go_wp2_with (first
          | (go_at_call 36; refine CH.out.mono ?_; rintro e w3 ⟨rfl, b3⟩; have HB3 := Lib.hid b3; clear b3)
          | (at_range; refine wpList_range_pm rfl _ 77 rfl 31 64 lawKey Tryz.underlying77 b (xes.map kv) rfl ((HX.out.below (bn HB2.out HB3.out)).lp _ HXM.out) ?_; intro w4 hrg4 hg4 hs4))
        go_frame
        have hb4 : Below w3.heap.size w3 w4 := ⟨hg4.os, hg4.tape, hg4.output, hg4.size, fun i hi => hg4.block i hi (fun e => by cases e)⟩
        have hb24 : Below w2.heap.size w2 w4 := bn HB3.out hb4
        have hr12 : w.heap.size + 1 < w3.heap.size := Nat.lt_of_lt_of_le HRG2.out.lt HB3.out.size
        have HRG4 := Lib.hid (HRG2.out.below hb24)
        have HTG4 := Lib.hid (HTG2.out.below hb24)
        have HB4 := Lib.hid (bn HB2.out hb24)
        have HLT4 : Hid (w4.rangeLeft bl (w.heap.size + 1) < wr.rangeLeft bl (w.heap.size + 1)) := Lib.hid (by
          rw [PR.left_same (hb24.block bl HRG2.out.pm.lt) (hb24.block _ HRG2.out.lt)]
          exact HLT2.out)
        generalize w3.heap.size = r2 at *
        obtain ⟨N0, hN0⟩ : ∃ N0, N0 = wr.rangeLeft bl (w.heap.size + 1) := ⟨_, rfl⟩
        have HN0 := Lib.hid hN0
        rw [← hN0] at HLT4
        clear hN0
        have HRI := Lib.hid hrg4
        have HTK4 : Hid (TellsK es (midG (T.map txs) V q [] t)) := Lib.hid (by rw [midG_zero]; exact HTK.out)
        have HHAS := Lib.hid hhas
        clear hb4 hb24 hg4 hs4 hrg4 HRG2 HTG2 HB2 HB3 HLT2 CH HTK hhas
        go_loopw [9] (fun _ wq => PreIn w bl b r2 q t (T.map txs) V L xes (pre ++ post) N0 wq) (fun _ wq => wq.rangeLeft b r2)
        case atStart => exact ⟨_, [], es, HRI, Lib.hid (List.Perm.refl ((xes.map kv).map Prod.fst)), HTK4, HTG4, HB4, HRG4, HLT4⟩
        case round =>
          obtain ⟨left2, U, es2, HR2, HP2, HT2, HG2, HBq, HRO, HLO⟩ := hrel
          clear HRI HTK4 HTG4 HB4 HRG4 HLT4
          go_wp2_with (first
            | (at_next; refine wpList_next_pm rfl _ rfl 31 lawKey b r2 (xes.map kv) left2 rfl HR2.out ?_ ?_))
          · intro hl2
            subst hl2
            have hall : ∀ k, k ∉ U → posS (T.map txs) k t = [] := fun k hk => Classical.byContradiction fun h0 => hk (by
              obtain ⟨y, hy, e, z, hz, ez⟩ := HTE.out.al k t h0
              have hyx : y = ⟨t, b, xes⟩ := by
                obtain ⟨p1, p2, hL⟩ := List.append_of_mem HXM.out
                rw [hL] at hy
                rcases mem_mid.1 hy with hy | hy
                · exact hy
                · exact absurd e (words_mid (hL ▸ HX.out.ws) y hy)
              subst hyx
              have : kyv k ∈ U.map kyv ++ ([] : List (Value × Value)).map Prod.fst := HP2.out.mem_iff.2 (by rw [kv_fst]; exact List.mem_map_of_mem (ez ▸ List.mem_map_of_mem hz))
              simp only [List.map_nil, List.append_nil] at this
              obtain ⟨k', hk', e'⟩ := List.mem_map.1 this
              exact kyv_inj e' ▸ hk')
            have HTK2 : Hid (TellsK es2 (catG (posS (T.map txs)) (V ++ [t]) q)) := Lib.hid (by rw [← midG_all _ _ _ U _ HHAS.out hall]; exact HT2.out)
            clear hall
            go_wp2
            go_roundw
            case rel => exact ⟨pre ++ post, V ++ [t], es2, HRO, HPM2, HTK2, HG2, HBq⟩
            case measure => rw [← HN0.out]; exact HLO.out
          · intro pre2 key2 v2 post2 w5 hl2 hrg5 hg5 hs5 hen5 hlt5
            have hkm : (key2, v2) ∈ xes.map kv := HR2.out.2.1 _ (by simp [hl2])
            obtain ⟨⟨eo, es0, ea, en⟩, hem, hee⟩ := List.mem_map.1 hkm
            simp only [kv, Prod.mk.injEq] at hee
            obtain ⟨rfl, rfl⟩ := hee
            have hUk : ((eo, es0) : Ky) ∉ U := fun hk => by
              have hnd : (U.map kyv ++ left2.map Prod.fst).Nodup := HP2.out.nodup_iff.2 (by rw [kv_fst]; exact List.Pairwise.map kyv (fun a b h e => h (kyv_inj e)) (HX.out.ks HXM.out))
              exact (List.nodup_append.1 hnd).2.2 _ (List.mem_map_of_mem hk) _ (by rw [hl2]; simp) rfl
            obtain ⟨hne1, hne2⟩ := HTE.out.ns _ HXM.out _ hem
            have hne1 : en = posS (T.map txs) (eo, es0) t := hne1
            have hne2 : en ≠ [] := hne2
            have hen1 : en.length ≤ n := HFE.out.s _ HXM.out _ hem
            have hb5 : Below w.heap.size w w5 := HBq.out.trans (below_of_grown hg5 HBq.out.size (fun g hg => by cases hg; omega))
            obtain ⟨hx1, hx2⟩ := HG2.out.walk HR2.out
            have hG5 := HG2.out.keep (w' := w5) (fun j hj h => hg5.block j hj (fun e => by
              cases e
              rcases h with h | ⟨e, he, h⟩
              · exact hx1 h
              · exact hx2 e he h))
            have hro5 : PR Tryz.prog w5 9 bl (w.heap.size + 1) (L.map wnv) (pre ++ post) := HRO.out.of_block (hg5.block _ HRO.out.pm.lt (fun e => by have := HX.out.lm.lt; cases e; omega)) (hg5.block _ HRO.out.lt (fun e => by cases e; omega))
            have hlo5 : w5.rangeLeft bl (w.heap.size + 1) < N0 := by
              rw [PR.left_same (hg5.block _ HRO.out.pm.lt (fun e => by have := HX.out.lm.lt; cases e; omega)) (hg5.block _ HRO.out.lt (fun e => by cases e; omega))]
              exact HLO.out
            obtain ⟨w6, hw6⟩ : ∃ w6, w6 = w5.alloc (.cells #[.int .i64 eo, .int .i64 es0] 31) := ⟨_, rfl⟩
            have hal : Below w5.heap.size w5 w6 := by rw [hw6]; exact alloc_below _ _
            have hb6 : Below w.heap.size w w6 := bn hb5 hal
            have hG6 := hG5.below hal
            have hr6 := hrg5.below hal
            have hro6 := hro5.below hal
            have hlo6 : w6.rangeLeft bl (w.heap.size + 1) < N0 := by
              rw [PR.left_same (hal.block _ hro5.pm.lt) (hal.block _ hro5.lt)]
              exact hlo5
            have hlt6 : w6.rangeLeft b r2 < wr.rangeLeft b r2 := by
              rw [PR.left_same (hal.block _ hrg5.pm.lt) (hal.block _ hrg5.lt)]
              exact hlt5
            have hrow6 : Row w6 0 ea en := (HX.out.below hb6).lr _ HXM.out _ hem
            have hkok : okKy (eo, es0) := HX.out.lk _ HXM.out _ hem
            have hub : ∀ ad n c, ea = .slice (some ad) n c → ad.block < w.heap.size := fun ad n c e => HX.out.up _ (HX.out.lw _ HXM.out _ hem ad.block (by show ea.ownBlock = _; rw [e]; rfl))
            have hin : ∀ k ∈ es2.map kyo, k ∈ (T.map txs).map Prod.fst := fun k hk => by
              obtain ⟨e, he, rfl⟩ := List.mem_map.1 hk
              obtain ⟨h1, h2⟩ := HT2.out.1 e he
              rw [h1] at h2
              refine Classical.byContradiction fun hno => h2 ?_
              unfold midG catG
              rw [List.append_eq_nil_iff, List.flatMap_eq_nil_iff]
              refine ⟨fun t' _ => ?_, ?_⟩
              · split
                · exact posS_no _ _ _ hno
                · rfl
              · split
                · exact posS_no _ _ _ hno
                · rfl
            have hel : es2.length ≤ n := by
              have h1 := few_keys HND.out HG2.out.ks hin
              have := HFE.out.t
              rw [List.length_map] at h1
              omega
            have hgl : (midG (T.map txs) V q U t (eo, es0)).length + en.length ≤ 100000000000 := by
              unfold midG
              rw [if_neg hUk, List.append_nil]
              have h1 := catG_len (V := V) (p := q) (fun t => HPL.out (eo, es0) t)
              have h2 : V.length * n ≤ 100000 * 100000 := Nat.mul_le_mul (Nat.le_trans HVL.out.2.2 hn) hn
              omega
            obtain ⟨z, st, w7, A8, n8, C8, w8, w9, es9, hE, hap, hst9, hG9, hT9, _, hB9, hkp⟩ := hG6.step hb6.size HT2.out hkok hrow6.nl hub hne2 (by omega) hgl
            obtain ⟨y1, y2⟩ := hG6.walk hr6
            obtain ⟨y3, y4⟩ := hG6.walk hro6
            have hlb : b < w.heap.size := (HX.out.lp _ HXM.out).lt
            have hlbl : bl < w.heap.size := HX.out.lm.lt
            have kb : w9.heap[b]? = w6.heap[b]? := hB9.block b hlb
            have kbl : w9.heap[bl]? = w6.heap[bl]? := hB9.block bl hlbl
            have kr2 : w9.heap[r2]? = w6.heap[r2]? := hkp r2 hr6.lt y1 y2
            have kr1 : w9.heap[w.heap.size + 1]? = w6.heap[w.heap.size + 1]? := hkp _ hro6.lt y3 y4
            have HR9 := Lib.hid (hr6.of_block kb kr2)
            have HRO9 := Lib.hid (hro6.of_block kbl kr1)
            have HLO9 : Hid (w9.rangeLeft bl (w.heap.size + 1) < N0) := Lib.hid (by rw [PR.left_same kbl kr1]; exact hlo6)
            have HLI9 : Hid (w9.rangeLeft b r2 < wr.rangeLeft b r2) := Lib.hid (by rw [PR.left_same kb kr2]; exact hlt6)
            have HB9 := Lib.hid (hb6.trans hB9)
            have HT9 : Hid (TellsK es9 (midG (T.map txs) V q (U ++ [(eo, es0)]) t)) := Lib.hid (by
              rw [← midG_next _ _ _ _ _ _ hUk, ← hne1]
              exact hT9)
            have HG9 := Lib.hid hG9
            have HP9 : Hid (((U ++ [(eo, es0)]).map kyv ++ (pre2 ++ post2).map Prod.fst).Perm ((xes.map kv).map Prod.fst)) := Lib.hid (by
              refine List.Perm.trans ?_ HP2.out
              rw [hl2]
              simp only [List.map_append, List.map_cons, List.map_nil, List.append_assoc]
              refine List.Perm.append_left _ ?_
              exact (List.perm_middle (l₁ := pre2.map Prod.fst)).symm)
            have HE := Lib.hid hE
            have HAP := Lib.hid hap
            have HST := Lib.hid hst9
            have HW6 := Lib.hid hw6.symm
            simp only [kyv] at hen5
            clear hkm hUk hne1 hne2 hen1 hb5 hx1 hx2 hG5 hro5 hlo5 hw6 hal hb6 hG6 hr6 hro6 hlo6 hlt6 hrow6 hkok hub hin hel hgl hE hap hst9 hG9 hT9 hB9 hkp y1 y2 y3 y4 hlb hlbl kb kbl kr2 kr1 hrg5 hg5 hs5 hlt5 hl2 hem
            go_wp2_with (first
              | (refine wpList_mapEntry_run rfl _ _ _ rfl _ _ _ _ rfl rfl (by rw [HW6.out]; exact HE.out) ?_)
              | (at_builtin; refine wpList_append_run rfl _ _ 64 rfl _ _ HAP.out ?_)
              | (refine wpList_entryStore_run rfl _ _ _ _ rfl _ _ _ _ rfl rfl rfl HST.out ?_))
            go_roundw
            case rel => exact ⟨pre2 ++ post2, U ++ [(eo, es0)], es9, HR9, HP9, HT9, HG9, HB9, HRO9, HLO9⟩
            case measure => exact HLI9.out
end Go.Proofs.YtdjlgiinekighaaGreatDoor
/-
  What the laws on package index share: texts compared, a record of a number.
-/
namespace Go.Proofs.YtdjlgiinekighaaGreatDoor
open Go.RowKit Go.Lib Go.Sort Go.Shelf Go.Maps Go.Proofs.YtdjlgiinekighaaGreatDoor.P Go.Proofs
set_option maxRecDepth 100000
set_option linter.unusedSimpArgs false

/-- The slice v holds the texts ws. -/
def StrRd (w : World) (v : Value) (ws : List Bs) : Prop := ∃ ad cap, v = .slice ad ws.length cap ∧ ws.length ≤ cap ∧ (0 < ws.length → ∃ b o, ad = some ⟨b, o, none⟩ ∧ ∀ k (hk : k < ws.length), w.cell? ⟨b, o + k, none⟩ = some (.string ⟨ws[k].toArray⟩))
theorem StrRd.below {w w' : World} {v : Value} {ws : List Bs} (h : StrRd w v ws) (hb : Below w.heap.size w w') : StrRd w' v ws := by
  obtain ⟨ad, cap, e, h1, h2⟩ := h
  refine ⟨ad, cap, e, h1, fun h0 => ?_⟩
  obtain ⟨b, o, e2, h3⟩ := h2 h0
  exact ⟨b, o, e2, fun k hk => (hb.cell (World.block_lt_of_cell? w _ (h3 k hk))).trans (h3 k hk)⟩
theorem StrRow.rd {w : World} {B : Nat} {v : Value} {ws : List Bs} (h : StrRow w B v ws) : StrRd w v ws := by
  obtain ⟨A, C, e, hc⟩ := own_form h
  refine ⟨A, C, e, hc, fun h0 => ?_⟩
  obtain ⟨g, C2, e2, _⟩ := World.ownsRow.form h h0
  rw [e] at e2
  simp only [Value.slice.injEq, true_and] at e2
  obtain ⟨rfl, rfl⟩ := e2
  refine ⟨g, 0, rfl, fun k hk => ?_⟩
  subst e
  have hl : (ws.map encStr).length = ws.length := List.length_map ..
  have h2 := World.ownsRow.cellAt h k (by omega)
  rw [Nat.zero_add, h2, List.getElem?_map, List.getElem?_eq_getElem hk]
  rfl
set_option maxHeartbeats 2000000 in
theorem sametexts_c (ws : List Bs) (v1 v2 : Value) (w : World) (h1 : StrRd w v1 ws) (h2 : StrRd w v2 ws) (hn : ws.length ≤ 1000000) :
    Calls Tryz.prog 25 #[v1, v2] w fun e w' => e = .returned (.bool true) ∧ Below w.heap.size w w' := by
  have mixed : Tryz.prog.follows .mixedOrders = true := by kernel_rfl
  obtain ⟨ad1, cap1, rfl, _, k1⟩ := h1
  obtain ⟨ad2, cap2, rfl, _, k2⟩ := h2
  have K1 := Lib.hid k1
  have K2 := Lib.hid k2
  clear k1 k2
  go_enter Tryz.func25, Tryz.ntmps25
  go_wp2
  go_loopw [5] (fun v5 wr => ∃ (k q : Nat), k ≤ ws.length ∧ v5 = .int .i64 (k : Int) ∧ wr = w.drewN q) (fun v5 _ => ws.length - (RowKit.intOf v5).toNat)
  case atStart => exact ⟨0, 0, by omega, rfl, rfl⟩
  case round =>
    obtain ⟨k, q, hk, rfl, rfl⟩ := hrel
    by_cases hp : k < ws.length
    · obtain ⟨b1, o1, rfl, d1⟩ := K1.out (by omega)
      obtain ⟨b2, o2, rfl, d2⟩ := K2.out (by omega)
      have c1 := d1 k hp
      have c2 := d2 k hp
      have HP := Lib.hid hp
      generalize ws[k] = x at c1 c2
      clear d1 d2
      go_wp2_with fail
      go_quiet (fail)
      go_wp2
      go_roundw
      case rel => exact ⟨k + 1, q + nq, HP.out, by go_num, by first | rfl | rw [World.drewN_drewN]⟩
      case measure => have := HP.out; simp [RowKit.intOf]; omega
    · go_wp2
      go_ret
      exact ⟨rfl, Go.Proofs.YtdjlgiinekighaaGreatDoor.P.below_drewN (Below.refl _ _) _⟩
set_option maxHeartbeats 1000000 in
theorem rec_c (n : Int) (s : ByteArray) (w : World) : Calls Tryz.prog 30 #[.int .i64 n, .string s] w fun e w' => e = .returned (.agg #[.int .i64 1, .int .i64 n, .int .i64 0, .int .i64 0, .string s]) ∧ Below w.heap.size w w' := by
  go_enter Tryz.func30, Tryz.ntmps30
  go_wp2
  have hx := Bx.new 35 w #[.int .i64 1, .int .i64 n, .int .i64 0, .int .i64 0, .string s]
  have r0 := hx.cell 0
  have r1 := hx.cell 1
  have r2 := hx.cell 2
  have r3 := hx.cell 3
  have r4 := hx.cell 4
  simp only [List.getElem?_toArray, List.getElem?_cons_succ, List.getElem?_cons_zero] at r0 r1 r2 r3 r4
  refine bodyPost_ret (v := .agg #[.int .i64 1, .int .i64 n, .int .i64 0, .int .i64 0, .string s]) (by simp [results, Tryz.results30, go_sem, r0, r1, r2, r3, r4]) rfl ⟨rfl, alloc_below _ _⟩
end Go.Proofs.YtdjlgiinekighaaGreatDoor
/-
  awake of the laws on package index.
-/
namespace Go.Proofs.YtdjlgiinekighaaGreatDoor
open Go.RowKit Go.Lib Go.Sort Go.Shelf Go.Maps Go.Proofs.YtdjlgiinekighaaGreatDoor.P Go.Proofs
set_option maxRecDepth 100000
set_option linter.unusedSimpArgs false

theorem words_eq {S : Sx} {a b : List Bs} (ha : Words S a) (hb : Words S b) : a = b := by
  have nd : ∀ {l : List Bs}, l.Pairwise (fun a b => a < b) → l.Nodup := fun h => h.imp fun {x y} hxy e => by
    subst e
    exact List.lt_irrefl _ hxy
  refine List.Perm.eq_of_pairwise (le := fun x y => x < y) (fun x y _ _ h1 h2 => absurd h2 (List.lt_asymm h1)) ha.1 hb.1 ((List.perm_ext_iff_of_nodup (nd ha.1) (nd hb.1)).2 fun t => ?_)
  rw [ha.2 t, hb.2 t]
def sTo : Sx := [((1, 1), [[116, 111], [98, 101], [116, 111]])]
theorem words_to : GvTok.words [116, 111, 32, 98, 101, 32, 116, 111] = [[116, 111], [98, 101], [116, 111]] := by decide +kernel
theorem wordsOf_to : wordsOf ⟨#[116, 111, 32, 98, 101, 32, 116, 111]⟩ = [[116, 111], [98, 101], [116, 111]] := by
  rw [wordsOf_eq (rs := [116, 111, 32, 98, 101, 32, 116, 111]) (fun r hr => .inl (by revert r; decide)) (by decide)]
  exact words_to
theorem may_to : R.mayR ⟨1, 1, 0, 0, ⟨#[116, 111, 32, 98, 101, 32, 116, 111]⟩⟩ = true := by decide +kernel
theorem may_x : R.mayR ⟨1, 1, 0, 0, ⟨#[120]⟩⟩ = true := by decide +kernel
theorem lst_to : lstS sTo [116, 111] = [⟨(1, 1), [0, 2]⟩] := by simp [lstS, sTo, posS, posN, srtK]
theorem pre_to : (lstR sTo [116]).length = 1 := by simp [lstR, sTo, preS, preN, srtK, hasB]
theorem ws_to : Words sTo [[98, 101], [116, 111]] := by
  refine ⟨by decide, fun t => ?_⟩
  constructor
  · intro h
    refine ⟨(1, 1), ?_⟩
    simp only [List.mem_cons, List.not_mem_nil, or_false] at h
    rcases h with rfl | rfl <;> simp [sTo, posS, posN]
  · rintro ⟨k, hk⟩
    unfold sTo posS at hk
    by_cases h1 : ((1, 1) : Ky) = k
    · rw [if_pos h1] at hk
      have : t ∈ [[116, 111], [98, 101], [116, 111]] := Classical.byContradiction fun hn => hk (posN_no _ _ _ hn)
      simp at this ⊢
      rcases this with h | h | h <;> simp [h]
    · rw [if_neg h1] at hk
      exact absurd rfl hk
theorem ws_none : Words [] [] := ⟨List.Pairwise.nil, fun t => ⟨fun h => (by cases h), fun ⟨k, hk⟩ => absurd rfl hk⟩⟩
theorem drop_to : dropSs sTo [(1, 1)] = [] := by simp [dropSs, dropS, sTo]
theorem keyfield_run (a b c d : Int) (s : ByteArray) (W : World) : (Instr.field 35 (.agg #[.int .i64 a, .int .i64 b, .int .i64 c, .int .i64 d, .string s]) 0).run Tryz.prog W = .ok (.agg #[.int .i64 a, .int .i64 b]) W := by
  have u := Tryz.underlying35
  have uK := Tryz.underlying31
  simp [Instr.field, go_sem, u, uK, Tryz.isAgg31, Tryz.sizeOf31, part, asAgg]
set_option maxHeartbeats 8000000 in
theorem awake_c (w : World) (hR : R.Tabs w) (hT : T.Tabs w) : Calls Tryz.prog 9 #[] w fun e w' => e = .returned (.bool true) ∧ Below w.heap.size w w' := by
  have mixed : Tryz.prog.follows .mixedOrders = true := by kernel_rfl
  have HR := Lib.hid hR
  have HT := Lib.hid hT
  clear hR hT
  go_enter Tryz.func9, Tryz.ntmps9
  go_wp2_with fail
  refine (new_c w).mono ?_
  rintro e w1 ⟨p, own, rfl, h1, o1, b1⟩
  have H1 := Lib.hid h1
  have O1 := Lib.hid o1
  have B1 := Lib.hid b1
  clear h1 o1 b1
  go_wp2_with fail
  refine (rec_c _ _ _).mono ?_
  rintro e w2 ⟨rfl, b2⟩
  have B2 := Lib.hid b2
  clear b2
  go_wp2_with fail
  refine (put_new p 0 [] own ⟨1, 1, 0, 0, ⟨#[116, 111, 32, 98, 101, 32, 116, 111]⟩⟩ w2 (H1.out.below B2.out) (by omega) may_to (by decide) (HR.out.below (bn B1.out B2.out)) (HT.out.below (bn B1.out B2.out)) (by simp)).mono ?_
  rintro e w3 ⟨rfl, own3, h3, t3, o3, _⟩
  rw [wordsOf_to] at h3
  have H3 : Hid (Ix w3 p sTo 200 own3) := Lib.hid h3
  have B3 : Hid (Below w.heap.size w w3) := Lib.hid ((bn B1.out B2.out).trans (t3.below (bn B1.out B2.out).size O1.out))
  have O3 : Hid (∀ i, own3 i → w.heap.size ≤ i) := Lib.hid (fun i hi => (o3 i hi).elim (O1.out i) (fun h => Nat.le_trans (bn B1.out B2.out).size h))
  clear h3 t3 o3 H1 O1 B1 B2
  go_wp2_with fail
  refine (rec_c _ _ _).mono ?_
  rintro e w4 ⟨rfl, b4⟩
  have B4 := Lib.hid b4
  clear b4
  go_wp2_with fail
  refine (put_old p 200 sTo own3 ⟨1, 1, 0, 0, ⟨#[120]⟩⟩ w4 (H3.out.below B4.out) may_x (by decide) (HR.out.below (bn B3.out B4.out)) (by simp [sTo])).mono ?_
  rintro e w5 ⟨rfl, b5⟩
  have H5 := Lib.hid ((H3.out.below B4.out).below b5)
  have B5 := Lib.hid (bn (bn B3.out B4.out) b5)
  clear b5 H3 B4 B3
  go_wp2_with fail
  refine (word_c p 200 sTo own3 [116, 111] w5 H5.out (by decide) (by omega)).mono ?_
  rintro e w6 ⟨v6, qs, rfl, h6, e6, b6⟩
  have H6 := Lib.hid (H5.out.below b6)
  have B6 := Lib.hid (bn B5.out b6)
  have Q6 := Lib.hid h6
  have E6 := Lib.hid (e6.trans lst_to)
  clear h6 e6 b6 H5 B5
  go_wp2_with fail
  refine (rec_c _ _ _).mono ?_
  rintro e w7 ⟨rfl, b7⟩
  have H7 := Lib.hid (H6.out.below b7)
  have B7 := Lib.hid (bn B6.out b7)
  have Q7 := Lib.hid (Q6.out.below b7)
  clear b7 H6 B6 Q6
  have hkf := keyfield_run 1 1 0 0 ⟨#[]⟩ w7
  go_wp2_with fail
  obtain ⟨w8, hw8⟩ : ∃ w8, w8 = w7.alloc (.cells #[.int .i64 0, .int .i64 2] 3) := ⟨_, rfl⟩
  obtain ⟨w9, hw9⟩ : ∃ w9, w9 = w8.alloc (.cells #[.int .i64 1, .int .i64 1, .slice (some ⟨w7.heap.size, 0, none⟩) 2 2] 66) := ⟨_, rfl⟩
  have b8 : Below w7.heap.size w7 w8 := by rw [hw8]; exact alloc_below _ _
  have b9 : Below w8.heap.size w8 w9 := by rw [hw9]; exact alloc_below _ _
  have x8 : Bx 3 w8 w7.heap.size #[.int .i64 0, .int .i64 2] := by rw [hw8]; exact Bx.new _ w7 _
  have x9 : Bx 66 w9 w8.heap.size #[.int .i64 1, .int .i64 1, .slice (some ⟨w7.heap.size, 0, none⟩) 2 2] := by rw [hw9]; exact Bx.new _ w8 _
  have s8 : w8.heap.size = w7.heap.size + 1 := by rw [hw8]; simp
  have hnl : Nl w9 (.slice (some ⟨w7.heap.size, 0, none⟩) 2 2) [0, 2] := .inr ⟨_, 2, rfl, fun _ => ⟨w7.heap.size, 0, rfl, fun k hk => by
    have hk2 : k < 2 := hk
    match k, hk2 with
    | 0, _ => exact (x8.below b9).cell 0
    | 1, _ => exact (x8.below b9).cell 1⟩⟩
  have hpr : PRd w9 (.slice (some ⟨w8.heap.size, 0, none⟩) 1 1) [⟨1, 1, .slice (some ⟨w7.heap.size, 0, none⟩) 2 2, [0, 2]⟩] := prd_one x9 hnl
  have hqn : qs.length = 1 := by have := congrArg List.length E6.out; simpa [ps] using this
  have CS := Lib.hid (samep_c qs [⟨1, 1, .slice (some ⟨w7.heap.size, 0, none⟩) 2 2, [0, 2]⟩] v6 _ w9 (Q7.out.rd.below (bn b8 b9)) hpr (E6.out.trans rfl) (by omega) (fun x hx => by
    have h1 : x.p ∈ ps qs := List.mem_map_of_mem hx
    rw [E6.out] at h1
    simp only [List.mem_singleton] at h1
    have h2 : x.ns = [0, 2] := congrArg Po.ns h1
    rw [h2]; decide))
  have H9 := Lib.hid (H7.out.below (bn b8 b9))
  have B9 := Lib.hid (bn B7.out (bn b8 b9))
  rw [s8] at CS
  rw [hw8] at hw9
  rw [← hw9]
  clear b8 b9 x8 x9 s8 hnl hpr hqn hw8 hw9 H7 B7 Q7 E6 hkf
  refine CS.out.mono ?_
  rintro e w10 ⟨rfl, b10⟩
  have H10 := Lib.hid (H9.out.below b10)
  have B10 := Lib.hid (bn B9.out b10)
  clear b10 CS H9 B9
  go_wp2_with fail
  refine (words_c p 200 sTo own3 w10 H10.out (by omega)).mono ?_
  rintro e w11 ⟨v11, ws, rfl, r11, hw, _, b11⟩
  have hws : ws = [[98, 101], [116, 111]] := words_eq hw ws_to
  subst hws
  have R11 := Lib.hid (StrRow.rd r11)
  have H11 := Lib.hid (H10.out.below b11)
  have B11 := Lib.hid (bn B10.out b11)
  clear r11 hw b11 H10 B10
  go_wp2_with fail
  obtain ⟨w12, hw12⟩ : ∃ w12, w12 = w11.alloc (.cells #[.string ⟨#[98, 101]⟩, .string ⟨#[116, 111]⟩] 9) := ⟨_, rfl⟩
  have b12 : Below w11.heap.size w11 w12 := by rw [hw12]; exact alloc_below _ _
  have x12 : Bx 9 w12 w11.heap.size #[.string ⟨#[98, 101]⟩, .string ⟨#[116, 111]⟩] := by rw [hw12]; exact Bx.new _ w11 _
  have hsr : StrRd w12 (.slice (some ⟨w11.heap.size, 0, none⟩) 2 2) [[98, 101], [116, 111]] := ⟨_, 2, rfl, by decide, fun _ => ⟨w11.heap.size, 0, rfl, fun k hk => by
    have hk2 : k < 2 := hk
    match k, hk2 with
    | 0, _ => exact x12.cell 0
    | 1, _ => exact x12.cell 1⟩⟩
  have CT := Lib.hid (sametexts_c [[98, 101], [116, 111]] v11 _ w12 (R11.out.below b12) hsr (by decide))
  have H12 := Lib.hid (H11.out.below b12)
  have B12 := Lib.hid (bn B11.out b12)
  rw [← hw12]
  clear b12 x12 hsr hw12 H11 B11 R11
  refine CT.out.mono ?_
  rintro e w13 ⟨rfl, b13⟩
  have H13 := Lib.hid (H12.out.below b13)
  have B13 := Lib.hid (bn B12.out b13)
  clear b13 CT H12 B12
  go_wp2_with fail
  refine (prefix_c p 200 sTo own3 [116] w13 H13.out (by omega) (by simp [sTo])).mono ?_
  rintro e w14 ⟨v14, q14, rfl, h14, e14, b14⟩
  have hl14 : q14.length = 1 := by
    have := congrArg List.length e14
    rw [pre_to] at this
    simpa [ps] using this
  obtain ⟨A14, C14, rfl, _⟩ := own_form h14.row
  rw [hl14]
  have H14 := Lib.hid (H13.out.below b14)
  have B14 := Lib.hid (bn B13.out b14)
  clear h14 e14 hl14 b14 H13 B13
  go_wp2_with fail
  refine (rec_c _ _ _).mono ?_
  rintro e w15 ⟨rfl, b15⟩
  have H15 := Lib.hid (H14.out.below b15)
  have B15 := Lib.hid (bn B14.out b15)
  clear b15 H14 B14
  have hkf := keyfield_run 1 1 0 0 ⟨#[]⟩ w15
  go_wp2_with fail
  obtain ⟨w16, hw16⟩ : ∃ w16, w16 = w15.alloc (.cells #[.int .i64 1, .int .i64 1] 31) := ⟨_, rfl⟩
  have b16 : Below w15.heap.size w15 w16 := by rw [hw16]; exact alloc_below _ _
  have x16 : Bx 31 w16 w15.heap.size #[.int .i64 1, .int .i64 1] := by rw [hw16]; exact Bx.new _ w15 _
  have H16 := H15.out.below b16
  have hkr : ∀ W, Turn own3 w16 W → KRd W (.slice (some ⟨w15.heap.size, 0, none⟩) 1 1) [(1, 1)] := fun W hW => by
    have hx : Bx 31 W w15.heap.size #[.int .i64 1, .int .i64 1] := (hW.block _ x16.lt (fun h => by have := H15.out.up _ h; omega)).trans x16
    refine ⟨_, 1, rfl, by decide, fun _ => ⟨w15.heap.size, 0, rfl, fun k hk => ?_⟩⟩
    have hk1 : k < 1 := hk
    match k, hk1 with
    | 0, _ => exact ⟨hx.cell 0, hx.cell 1⟩
  have CD := Lib.hid (drop_c p 200 sTo own3 _ [(1, 1)] w16 H16 hkr (fun k hk => by
    simp only [List.mem_singleton] at hk
    subst hk
    exact ⟨⟨by decide, by decide⟩, ⟨by decide, by decide⟩⟩) (by decide) (by omega))
  rw [drop_to] at CD
  have B16 := Lib.hid (bn B15.out b16)
  rw [← hw16]
  clear b16 x16 hkr hw16 H15 B15 hkf H16
  refine CD.out.mono ?_
  rintro e w17 ⟨rfl, h17, t17⟩
  have H17 := Lib.hid h17
  have B17 : Hid (Below w.heap.size w w17) := Lib.hid (B16.out.trans (t17.below B16.out.size O3.out))
  clear h17 t17 CD B16
  have hl1 : (sTo.length : Int) - (([] : Sx).length : Int) = 1 := by decide
  rw [hl1]
  clear hl1
  go_wp2_with fail
  refine (words_c p 200 [] own3 w17 H17.out (by omega)).mono ?_
  rintro e w18 ⟨v18, ws, rfl, r18, hw, _, b18⟩
  have hws : ws = [] := words_eq hw ws_none
  subst hws
  obtain ⟨A18, C18, rfl, _⟩ := own_form r18
  have H18 := Lib.hid (H17.out.below b18)
  have B18 := Lib.hid (bn B17.out b18)
  clear r18 hw b18 H17 B17
  go_wp2_with fail
  refine (new_c w18).mono ?_
  rintro e w19 ⟨p2, own2, rfl, h19, _, b19⟩
  have H19 := Lib.hid (H18.out.below b19)
  have G19 := Lib.hid h19
  have B19 := Lib.hid (bn B18.out b19)
  clear h19 b19 H18 B18
  go_wp2_with fail
  refine (same_c p p2 200 0 [] [] own3 own2 w19 H19.out G19.out).mono ?_
  rintro e w20 ⟨rfl, b20⟩
  rw [sameD_yes (A := []) (B := []) ⟨rfl, fun x hx => by cases hx⟩]
  go_wp2_with fail
  go_ret
  exact ⟨rfl, bn B19.out b20⟩
end Go.Proofs.YtdjlgiinekighaaGreatDoor
/-
  Put of any record, one after another.
-/
namespace Go.Proofs.YtdjlgiinekighaaGreatDoor
open Go.RowKit Go.Lib Go.Sort Go.Shelf Go.Maps Go.Proofs.YtdjlgiinekighaaGreatDoor.P Go.Proofs
set_option maxRecDepth 100000
set_option linter.unusedSimpArgs false

open Classical in
noncomputable def putS (S : Sx) (r : R.Rc) : Sx := if R.mayR r = true ∧ (r.o, r.s) ∉ S.map Prod.fst then S ++ [((r.o, r.s), wordsOf r.t)] else S
open Classical in
noncomputable def putC (S : Sx) (r : R.Rc) : Int := if R.mayR r = true then (if (r.o, r.s) ∈ S.map Prod.fst then 6 else 0) else 2
/-- Few words of each, Keys that may be. -/
def Good (S : Sx) : Prop := ∀ x ∈ S, x.2.length ≤ 120 ∧ R.keyB x.1.1 x.1.2 = true
theorem Good.put {S : Sx} (h : Good S) (r : R.Rc) : Good (putS S r) := by
  unfold putS
  split
  · rename_i hc
    intro x hx
    rcases List.mem_append.1 hx with hx | hx
    · exact h x hx
    · simp only [List.mem_singleton] at hx
      subst hx
      have hmm := hc.1
      simp only [R.mayR, Bool.and_eq_true] at hmm
      obtain ⟨rs, hok, hen, hz, hrl⟩ := may_text hmm.2.2
      refine ⟨?_, hmm.1⟩
      rw [show (((r.o, r.s), wordsOf r.t) : Ky × List Bs).2 = wordsOf r.t from rfl, wordsOf_eq hok hen]
      exact (words_few hrl).1
  · exact h
/-- Put, of any record. -/
theorem put_c (p n : Nat) (S : Sx) (own : Nat → Prop) (r : R.Rc) (w : World) (h : Ix w p S n own) (hn : n ≤ 900000) (hs : r.t.size ≤ 9223372036854775807) (hR : R.Tabs w) (hT : T.Tabs w) :
    Calls Tryz.prog 14 #[.pointer (some ⟨p, 0, none⟩), .agg #[.int .i64 r.o, .int .i64 r.s, .int .i64 r.w, .int .i64 r.c, .string r.t]] w fun e w' => ∃ own', e = .returned (.int .i64 (putC S r)) ∧ Ix w' p (putS S r) (n + 200) own' ∧ Turn own w w' ∧ (∀ i, own' i → own i ∨ w.heap.size ≤ i) := by
  cases hm : R.mayR r with
  | false =>
    refine (put_no _ ⟨p, 0, none⟩ r w rfl hm hs hR).mono ?_
    rintro e w' ⟨rfl, b⟩
    refine ⟨own, by simp [putC, hm], ?_, Turn.ofBelow b, fun i hi => .inl hi⟩
    have : putS S r = S := by simp [putS, hm]
    rw [this]
    exact (h.below b).few (by omega)
  | true =>
    by_cases hin : (r.o, r.s) ∈ S.map Prod.fst
    · refine (put_old p n S own r w h hm hs hR hin).mono ?_
      rintro e w' ⟨rfl, b⟩
      have hS : putS S r = S := by unfold putS; rw [if_neg (fun hc => hc.2 hin)]
      have hC : putC S r = 6 := by unfold putC; rw [if_pos hm, if_pos hin]
      rw [hS, hC]
      exact ⟨own, rfl, (h.below b).few (by omega), Turn.ofBelow b, fun i hi => .inl hi⟩
    · refine (put_new p n S own r w h hn hm hs hR hT hin).mono ?_
      rintro e w' ⟨rfl, own', h', t', o', _⟩
      have hS : putS S r = S ++ [((r.o, r.s), wordsOf r.t)] := by unfold putS; rw [if_pos ⟨hm, hin⟩]
      have hC : putC S r = 0 := by unfold putC; rw [if_pos hm, if_neg hin]
      rw [hS, hC]
      exact ⟨own', rfl, h', t', o'⟩
noncomputable def putSs (l : List R.Rc) : Sx := l.foldl putS []
theorem putSs_next (l : List R.Rc) (i : Nat) (h : i < l.length) : putSs (l.take (i + 1)) = putS (putSs (l.take i)) l[i] := by
  unfold putSs
  rw [List.take_succ_eq_append_getElem h, List.foldl_append]
  rfl
theorem good_all (l : List R.Rc) : Good (putSs l) := by
  have : ∀ (l : List R.Rc) (S : Sx), Good S → Good (l.foldl putS S) := by
    intro l
    induction l with
    | nil => exact fun S h => h
    | cons a r ih => exact fun S h => ih _ (h.put a)
  exact this l [] fun x hx => by cases hx
theorem posS_nonneg (S : Sx) (k : Ky) (t : Bs) : ∀ x ∈ posS S k t, 0 ≤ x := by
  induction S with
  | nil => exact fun x hx => by cases hx
  | cons a r ih =>
    unfold posS
    split
    · intro x hx
      have := ((posN_up _ _ _).2 x hx).1
      omega
    · exact ih
theorem upB_of {l : List Int} (h : l.Pairwise (· < ·)) : ∀ b : Int, (∀ x ∈ l, b < x) → upB b l = true := by
  induction l with
  | nil => intro b _; rfl
  | cons a r ih =>
    intro b hb
    rw [List.pairwise_cons] at h
    unfold upB
    rw [Bool.and_eq_true]
    exact ⟨by simpa using hb a (by simp), ih h.2 a h.1⟩
theorem lstS_may (S : Sx) (t : Bs) (hS : (S.map Prod.fst).Nodup) : mayL (lstS S t) = true := by
  unfold mayL
  refine (mayFrom_iff _ _).2 ⟨fun x hx => ?_, ?_, fun q e => by cases e⟩
  · obtain ⟨k, hk, rfl⟩ := List.mem_map.1 hx
    have hk2 := (srtK_perm _).mem_iff.1 hk
    have hne := (List.mem_filter.1 hk2).2
    rw [decide_eq_true_eq] at hne
    unfold oneB
    rw [Bool.and_eq_true]
    refine ⟨by simpa using hne, upB_of (posS_up S k t) _ fun y hy => ?_⟩
    have := posS_nonneg S k t y hy
    omega
  · unfold lstS
    rw [List.map_map]
    have : ((srtK ((S.map Prod.fst).filter fun k => decide (posS S k t ≠ []))).map (Po.k ∘ fun k => (⟨k, posS S k t⟩ : Po))) = srtK ((S.map Prod.fst).filter fun k => decide (posS S k t ≠ [])) := List.map_id' _
    rw [this]
    exact srtK_rise (hS.filter _)
theorem lstS_ne {S : Sx} {t : Bs} (h : ∃ k, posS S k t ≠ []) : lstS S t ≠ [] := by
  obtain ⟨k, hk⟩ := h
  intro e
  unfold lstS at e
  have h1 := congrArg List.length e
  rw [List.length_map, srtK_len] at h1
  have : k ∈ (S.map Prod.fst).filter fun k => decide (posS S k t ≠ []) := List.mem_filter.2 ⟨posS_in hk, by simpa using hk⟩
  have := List.length_pos_of_mem this
  simp only [List.length_nil] at h1
  omega
end Go.Proofs.YtdjlgiinekighaaGreatDoor
