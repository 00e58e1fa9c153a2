/-
  Loops: slots that are told no more, blocks that are dropped, and the rule by which a loop is told. Nothing here is trusted.
-/
import Derived.Test.YtjpfnfckpgilgaaKad

namespace Go.Proofs.Ytjpfnfckpgilgaa.Vx
open Go Go.RowKit

def hasN (i : Nat) : List Nat → Bool
  | [] => false
  | j :: l => match Nat.beq j i with
    | true => true
    | false => hasN i l
/-- Only the listed slots are told on. -/
def keepL (live : List Nat) : Nat → List Value → List Value
  | _, [] => []
  | i, x :: l => match hasN i live with
    | true => x :: keepL live (i + 1) l
    | false => unk :: keepL live (i + 1) l
/-- Where a block of a state that is told anew is found: it bears the same number · a slot leads to it · a cell of a block does. -/
inductive From where
  | fix (n : Nat)
  | slot (t : Nat)
  | cell (b j : Nat)
  /-- as 'cell', if the block is none of the first so many -/
  | cellN (b j k : Nat)
def farOff : Nat := 1000000
def adrO (d : Nat) : Option Value → Nat
  | some v => match adrOf v with
    | some b => b
    | none => farOff + d
  | none => farOff + d
def From.get (st : St) : From → Nat
  | .fix n => n
  | .slot t => adrO (50000 + t) st.tmps[t]?
  | .cell b j => match st.mem[b]? with
    | some (.cells _ _ c) => adrO (100 * b + j) c[j]?
    | _ => farOff + (100 * b + j)
  | .cellN b j k => match st.mem[b]? with
    | some (.cells _ _ c) => match Nat.blt (adrO (100 * b + j) c[j]?) k with
      | true => farOff + (100 * b + j)
      | false => adrO (100 * b + j) c[j]?
    | _ => farOff + (100 * b + j)
def fixes : Nat → Nat → List From
  | _, 0 => []
  | i, n + 1 => .fix i :: fixes (i + 1) n
/-- The place of a number in a list. -/
def idxN (b : Nat) : List Nat → Nat → Option Nat
  | [], _ => none
  | k :: ks, i => match Nat.beq k b with
    | true => some i
    | false => idxN b ks (i + 1)
def ren0 (ks : List Nat) : Value → Value
  | .pointer (some a) => match idxN a.block ks 0 with
    | some i => .pointer (some ⟨i, a.off, a.spot⟩)
    | none => unk
  | .slice (some a) n e => match idxN a.block ks 0 with
    | some i => .slice (some ⟨i, a.off, a.spot⟩) n e
    | none => unk
  | .map (some b) => match idxN b ks 0 with
    | some i => .map (some i)
    | none => unk
  | v => v
def mapL (f : Value → Value) : List Value → List Value
  | [] => []
  | x :: l => f x :: mapL f l
def ren1 (ks : List Nat) : Value → Value
  | .agg cs => .agg (mapL (ren0 ks) cs.toList).toArray
  | v => ren0 ks v
def renV (ks : List Nat) : Value → Value
  | .tuple vs => .tuple (mapL (ren1 ks) vs.toList).toArray
  | v => ren1 ks v
def renB (ks : List Nat) : Blk → Blk
  | .cells own e c => .cells own e (mapL (ren0 ks) c)
  | .rows own pl e n row => match pl with
    | true => .rows own true e n row
    | false => .rows own false e n fun i => mapL (ren0 ks) (row i)
  | .grow pl e n row => match pl with
    | true => .grow true e n row
    | false => .grow false e n fun i => mapL (ren0 ks) (row i)
  | .view pl e n row => match pl with
    | true => .view true e n row
    | false => .view false e n fun i => mapL (ren0 ks) (row i)
  | b => b
def renM (ks : List Nat) (m : Mem) : List Nat → Mem
  | [] => []
  | b :: l => (match m[b]? with
    | some k => renB ks k
    | none => .no) :: renM ks m l
def noDup : List Nat → Bool
  | [] => true
  | k :: l => !hasN k l && noDup l
def idsTo (B : Nat) : Nat → List Nat → Bool
  | i, [] => Nat.ble B i
  | i, k :: l => match Nat.blt i B with
    | true => Nat.beq k i && idsTo B (i + 1) l
    | false => true
def keysOf (st : St) : List From → List Nat
  | [] => []
  | x :: l => x.get st :: keysOf st l
def forceN {β : Type} : List Nat → (List Nat → β) → β
  | [], k => k []
  | x :: xs, k => forceN xs fun ys => k (x :: ys)
theorem forceN_eq {β : Type} : ∀ (l : List Nat) (k : List Nat → β), forceN l k = k l
  | [], _ => rfl
  | x :: xs, k => by simp only [forceN]; rw [forceN_eq xs]
def cleanB (mask : List Nat) (sp : List From) (B : Nat) (es : Exit × St) : Ans (Exit × St) :=
  forceN (keysOf es.2 sp) fun ks => match noDup ks && idsTo B 0 ks with
    | true => forceL (mapL (renV ks) (keepL mask 0 es.2.tmps)) fun tm => forceM (renM ks es.2.mem ks) fun m => match allB noViewB m with
      | true => forceM (thaw m) fun m => .out (es.1, ⟨tm, m⟩)
      | false => .out (es.1, ⟨tm, m⟩)
    | false => .fail
/-- Behind a round that goes on, and behind one that leaves. -/
def cleanA (mask out : List Nat) (sp so : List From) (B : Nat) (es : Exit × St) : Ans (Exit × St) := match es.1 with
  | .normal => cleanB mask sp B es
  | _ => cleanB out so B (es.1, ⟨es.2.tmps, killV es.2.mem⟩)

theorem hasN_iff {i : Nat} : ∀ {l : List Nat}, hasN i l = true ↔ i ∈ l
  | [] => by simp [hasN]
  | j :: l => by
    simp only [hasN, List.mem_cons]
    cases hb : Nat.beq j i with
    | true => simp [Nat.eq_of_beq_eq_true hb]
    | false =>
      have : j ≠ i := fun e => by subst e; simp at hb
      simp only [hasN_iff]
      exact ⟨Or.inr, fun h => h.resolve_left fun e => this e.symm⟩
theorem keepL_rel {r : Ren} (live : List Nat) : ∀ (i : Nat) {l l' : List Value}, RL (R r) l l' → RL (R r) (keepL live i l) l'
  | _, [], [], _ => trivial
  | i, x :: l, y :: l', h => by
    simp only [keepL]
    cases hasN i live with
    | false => exact ⟨R_unk r y, keepL_rel live (i + 1) h.2⟩
    | true => exact ⟨h.1, keepL_rel live (i + 1) h.2⟩
  | _, [], _ :: _, h => h.elim
  | _, _ :: _, [], h => h.elim

/-! ## Blocks told by other numbers -/
def Ren.via (r : Ren) (ks : List Nat) : Ren := fun i => match ks[i]? with
  | some b => r b
  | none => none
theorem idxN_spec {b : Nat} : ∀ {ks : List Nat} {i j : Nat}, idxN b ks i = some j → i ≤ j ∧ ks[j - i]? = some b
  | [], i, j, h => by simp [idxN] at h
  | k :: ks, i, j, h => by
    simp only [idxN] at h
    split at h
    · rename_i hb
      simp only [Option.some.injEq] at h
      subst h
      exact ⟨Nat.le_refl _, by simp [Nat.eq_of_beq_eq_true hb]⟩
    · obtain ⟨h1, h2⟩ := idxN_spec h
      refine ⟨by omega, ?_⟩
      rw [show j - i = (j - (i + 1)) + 1 by omega, List.getElem?_cons_succ]
      exact h2
theorem via_idx {r : Ren} {ks : List Nat} {b i : Nat} (h : idxN b ks 0 = some i) : (r.via ks) i = r b := by
  have := (idxN_spec h).2
  simp only [Nat.sub_zero] at this
  simp [Ren.via, this]
theorem R0_via {r : Ren} {ks : List Nat} {v v' : Value} (h : R0 r v v') : R0 (r.via ks) (ren0 ks v) v' := by
  unfold R0 at h
  cases v with
  | pointer a => cases a with
    | none => exact h
    | some a =>
      simp only [ren0]
      split
      · rename_i i hi
        unfold R0
        simp only [via_idx (r := r) hi]
        exact h
      · exact R_unk (r.via ks) v'
  | slice a n c => cases a with
    | none => exact h
    | some a =>
      simp only [ren0]
      split
      · rename_i i hi
        unfold R0
        simp only [via_idx (r := r) hi]
        exact h
      · exact R_unk (r.via ks) v'
  | map a => cases a with
    | none => exact h
    | some a =>
      simp only [ren0]
      split
      · rename_i i hi
        unfold R0
        simp only [via_idx (r := r) hi]
        exact h
      · exact R_unk (r.via ks) v'
  | iface t u => cases u <;> exact h
  | _ => exact h
theorem RL_mapL {Q S : Value → Value → Prop} {f : Value → Value} (hq : ∀ v v', Q v v' → S (f v) v') : ∀ {l l' : List Value}, RL Q l l' → RL S (mapL f l) l'
  | [], [], _ => trivial
  | _ :: _, _ :: _, h => ⟨hq _ _ h.1, RL_mapL hq h.2⟩
  | [], _ :: _, h => h.elim
  | _ :: _, [], h => h.elim
theorem R1_via {r : Ren} {ks : List Nat} {v v' : Value} (h : R1 r v v') : R1 (r.via ks) (ren1 ks v) v' := by
  cases v with
  | agg cs => obtain ⟨cs', rfl, h⟩ := h; exact ⟨cs', rfl, by simpa using RL_mapL (f := ren0 ks) (fun _ _ h => R0_via h) h⟩
  | _ =>
    unfold R1 at h
    have := R0_via (ks := ks) h
    revert this
    simp only [ren1]
    generalize hz : ren0 ks _ = z
    intro this
    cases z with
    | agg cs =>
      exfalso
      unfold ren0 at hz
      split at hz
      · split at hz <;> simp [unk] at hz
      · split at hz <;> simp [unk] at hz
      · split at hz <;> simp [unk] at hz
      · simp at hz
    | _ => exact this
theorem R_via {r : Ren} {ks : List Nat} {v v' : Value} (h : R r v v') : R (r.via ks) (renV ks v) v' := by
  cases v with
  | tuple cs => obtain ⟨cs', rfl, h⟩ := h; exact ⟨cs', rfl, by simpa using RL_mapL (f := ren1 ks) (fun _ _ h => R1_via h) h⟩
  | agg cs => exact R1_via (ks := ks) (v := .agg cs) h
  | _ =>
    unfold R at h
    have := R1_via (ks := ks) h
    revert this
    simp only [renV]
    generalize hz : ren1 ks _ = z
    intro this
    cases z with
    | tuple cs =>
      exfalso
      unfold ren1 at hz
      split at hz
      · simp at hz
      · unfold ren0 at hz
        split at hz
        · split at hz <;> simp [unk] at hz
        · split at hz <;> simp [unk] at hz
        · split at hz <;> simp [unk] at hz
        · simp at hz
    | _ => exact this
theorem mapL_get {f : Value → Value} : ∀ {l : List Value} {i : Nat} {v : Value}, (mapL f l)[i]? = some v → ∃ u, l[i]? = some u ∧ v = f u
  | [], i, v, h => by simp [mapL] at h
  | x :: l, 0, v, h => by simp [mapL] at h; exact ⟨x, rfl, h.symm⟩
  | x :: l, i + 1, v, h => by simp only [mapL, List.getElem?_cons_succ] at h ⊢; exact mapL_get h
theorem mapL_length {f : Value → Value} : ∀ (l : List Value), (mapL f l).length = l.length
  | [] => rfl
  | x :: l => by simp [mapL, mapL_length l]
theorem CellsAt_via {r : Ren} {ks : List Nat} {cs : Array Value} {off : Nat} {c : List Value} (h : CellsAt r cs off c) : CellsAt (r.via ks) cs off (mapL (ren0 ks) c) := fun k v hk => by
  obtain ⟨u, hu, rfl⟩ := mapL_get hk
  obtain ⟨v', h1, h2⟩ := h k u hu
  exact ⟨v', h1, R0_via h2⟩
theorem plain_via {r : Ren} {ks : List Nat} {v v' : Value} (hp : plain0 v = true) (h : R0 r v v') : R0 (r.via ks) v v' := (R0_plain hp).2 ((R0_plain hp).1 h)
theorem rows_via {r : Ren} {ks : List Nat} {cs : Array Value} {off esz n : Nat} {row : Nat → List Value} (h5 : ∀ i, i < n → (row i).length = esz ∧ CellsAt r cs (off + i * esz) (row i)) :
    ((∀ i, i < n → allL plain0 (row i) = true) → ∀ i, i < n → (row i).length = esz ∧ CellsAt (r.via ks) cs (off + i * esz) (row i)) ∧ ∀ i, i < n → (mapL (ren0 ks) (row i)).length = esz ∧ CellsAt (r.via ks) cs (off + i * esz) (mapL (ren0 ks) (row i)) := by
  refine ⟨fun hp i hi => ⟨(h5 i hi).1, fun k v hk => ?_⟩, fun i hi => ⟨by rw [mapL_length]; exact (h5 i hi).1, CellsAt_via (h5 i hi).2⟩⟩
  obtain ⟨v', g1, g2⟩ := (h5 i hi).2 k v hk
  exact ⟨v', g1, plain_via (allL_iff.1 (hp i hi) v (List.mem_of_getElem? hk)) g2⟩
theorem BlkRel_via {w : World} {r : Ren} {ks : List Nat} {p : Place} {k : Blk} (h : BlkRel w r p k) : BlkRel w (r.via ks) p (renB ks k) := by
  cases k with
  | cells own esz c =>
    obtain ⟨h1, h2, cs, T, fz, h6, h3, h4, h5⟩ := h
    exact ⟨h1, h2, cs, T, fz, h6, h3, h4, CellsAt_via h5⟩
  | rows own pl esz n row =>
    obtain ⟨h1, h2, h0, hp, cs, T, fz, h6, h3, h4, h5⟩ := h
    cases pl with
    | true => exact ⟨h1, h2, h0, hp, cs, T, fz, h6, h3, h4, (rows_via h5).1 (hp rfl)⟩
    | false => exact ⟨h1, h2, h0, (fun h => by cases h), cs, T, fz, h6, h3, h4, (rows_via h5).2⟩
  | grow pl esz n row =>
    obtain ⟨h1, h2, h0, hp, cs, T, fz, h3, h4, h5⟩ := h
    cases pl with
    | true => exact ⟨h1, h2, h0, hp, cs, T, fz, h3, h4, (rows_via h5).1 (hp rfl)⟩
    | false => exact ⟨h1, h2, h0, (fun h => by cases h), cs, T, fz, h3, h4, (rows_via h5).2⟩
  | view pl esz n row =>
    obtain ⟨h1, h2, h0, hp, cs, T, fz, h3, h4, h5⟩ := h
    cases pl with
    | true => exact ⟨h1, h2, h0, hp, cs, T, fz, h3, h4, (rows_via h5).1 (hp rfl)⟩
    | false => exact ⟨h1, h2, h0, (fun h => by cases h), cs, T, fz, h3, h4, (rows_via h5).2⟩
  | _ => exact h
theorem renM_get {ks : List Nat} {m : Mem} : ∀ (l : List Nat) (i : Nat), (renM ks m l)[i]? = (l[i]?).map fun b => match m[b]? with
    | some k => renB ks k
    | none => .no
  | [], i => by simp [renM]
  | b :: l, 0 => by simp [renM]
  | b :: l, i + 1 => by simp only [renM, List.getElem?_cons_succ]; exact renM_get l i
theorem noDup_inj : ∀ {l : List Nat}, noDup l = true → ∀ {i j b : Nat}, l[i]? = some b → l[j]? = some b → i = j
  | [], _, i, j, b, h, _ => by simp at h
  | k :: l, hd, i, j, b, hi, hj => by
    simp only [noDup, Bool.and_eq_true, Bool.not_eq_true'] at hd
    have hn : k ∉ l := fun hm => by rw [hasN_iff.2 hm] at hd; cases hd.1
    cases i with
    | zero => cases j with
      | zero => rfl
      | succ j =>
        simp at hi hj
        subst hi
        exact absurd (List.mem_of_getElem? hj) hn
    | succ i => cases j with
      | zero =>
        simp at hi hj
        subst hj
        exact absurd (List.mem_of_getElem? hi) hn
      | succ j =>
        simp only [List.getElem?_cons_succ] at hi hj
        rw [noDup_inj hd.2 hi hj]
theorem renB_no {ks : List Nat} {k : Blk} : renB ks k = .no ↔ k = .no := by
  cases k with
  | rows own pl e n row => cases pl <;> simp [renB]
  | grow pl e n row => cases pl <;> simp [renB]
  | view pl e n row => cases pl <;> simp [renB]
  | _ => simp [renB]
theorem renB_grow {ks : List Nat} {k : Blk} (h : isGrow (some k)) : isGrow (some (renB ks k)) := by
  cases k with
  | grow pl e n row => cases pl <;> trivial
  | _ => exact h.elim
theorem MemRel_via {w0 : World} {keep : Keep} {r : Ren} {m : Mem} {w : World} {ks : List Nat} (h : MemRel w0 keep r m w) (hd : noDup ks = true) : MemRel w0 keep (r.via ks) (renM ks m ks) w := by
  have hv : ∀ {i : Nat} {q : Option Place}, (r.via ks) i = some q → ∃ b, ks[i]? = some b ∧ r b = some q := fun {i q} hq => by
    unfold Ren.via at hq
    split at hq
    · rename_i b hb; exact ⟨b, hb, hq⟩
    · cases hq
  refine ⟨h.os, h.tape, h.output, h.drawn, h.size, h.klt, h.kept, fun i hm => ?_, fun i hq => ?_, fun i p hq => ?_, fun i p hq => ?_, fun i p hq => ?_, fun i p hq => ?_, fun i j p q hi hj hp hz hq he => ?_, fun i j p q hi hj ho hq he => ?_⟩
  · unfold Ren.via
    cases hb : ks[i]? with
    | none => rfl
    | some b =>
      rw [renM_get, hb] at hm
      simp only [Option.map_some] at hm
      rcases hm with hm | hm
      · cases hm
      · simp only [Option.some.injEq] at hm
        cases hmb : m[b]? with
        | none => exact h.none b (Or.inl hmb)
        | some k =>
          rw [hmb] at hm
          exact h.none b (Or.inr (by rw [hmb, renB_no.1 hm]))
  · obtain ⟨b, hb, hr⟩ := hv hq
    rw [renM_get, hb]
    simp only [Option.map_some, h.dead b hr, renB]
  · obtain ⟨b, hb, hr⟩ := hv hq
    obtain ⟨k, h1, h2⟩ := h.blk b p hr
    refine ⟨renB ks k, ?_, BlkRel_via h2⟩
    rw [renM_get, hb]
    simp only [Option.map_some, h1]
  · obtain ⟨b, hb, hr⟩ := hv hq
    exact h.own b p hr
  · obtain ⟨b, hb, hr⟩ := hv hq
    exact h.read b p hr
  · obtain ⟨b, hb, hr⟩ := hv hq
    exact h.vw b p hr
  · obtain ⟨b, hb, hr⟩ := hv hi
    obtain ⟨c, hc, hs⟩ := hv hj
    obtain ⟨g1, g2⟩ := h.sep b c p q hr hs hp hz hq he
    rw [renM_get, hc]
    simp only [Option.map_some]
    cases hm : m[c]? with
    | none => rw [hm] at g1; exact g1.elim
    | some k => rw [hm] at g1; exact ⟨renB_grow g1, g2⟩
  · obtain ⟨b, hb, hr⟩ := hv hi
    obtain ⟨c, hc, hs⟩ := hv hj
    have := h.inj b c p q hr hs ho hq he
    subst this
    exact noDup_inj hd hb hc
theorem idsTo_spec {B : Nat} : ∀ {l : List Nat} {i b : Nat}, idsTo B i l = true → i ≤ b → b < B → l[b - i]? = some b
  | [], i, b, h, h1, h2 => by
    have := Nat.le_of_ble_eq_true h
    omega
  | k :: l, i, b, h, h1, h2 => by
    simp only [idsTo] at h
    rw [show Nat.blt i B = true by simp [Nat.blt_eq]; omega] at h
    simp only [Bool.and_eq_true] at h
    have hk : k = i := Nat.eq_of_beq_eq_true h.1
    by_cases hib : i = b
    · subst hib; subst hk; simp
    · have := idsTo_spec h.2 (show i + 1 ≤ b by omega) h2
      rw [show b - i = (b - (i + 1)) + 1 by omega, List.getElem?_cons_succ]
      exact this
theorem cleanB_rel {mask : List Nat} {sp : List From} {B : Nat} {e e' : Exit} {s s' : St} (h : (cleanB mask sp B (e, s)).res = some (e', s')) {w0 : World} {keep : Keep} {r0 : Ren} {a : Act} {w : World} (h0 : ∀ b, B ≤ b → r0 b = none) (hr : Rel w0 keep r0 s a w) : e' = e ∧ Rel w0 keep r0 s' a w := by
  unfold cleanB at h
  rw [forceN_eq] at h
  split at h
  · rename_i hb
    rw [Bool.and_eq_true] at hb
    rw [forceL_eq, forceM_eq] at h
    obtain ⟨r, hx, h1, h2, h3⟩ := hr
    have hext : Ext r0 (r.via (keysOf s sp)) := fun b => by
      by_cases hlt : b < B
      · have := idsTo_spec hb.2 (Nat.zero_le b) hlt
        simp only [Nat.sub_zero] at this
        have e1 : (r.via (keysOf s sp)) b = r b := by simp [Ren.via, this]
        rw [e1]
        exact hx b
      · exact Or.inl (h0 b (by omega))
    have hm := MemRel_via h3 hb.1
    have htm : RL (R (r.via (keysOf s sp))) (mapL (renV (keysOf s sp)) (keepL mask 0 s.tmps)) a.tmps.toList := RL_mapL (f := renV (keysOf s sp)) (fun _ _ h => R_via h) (keepL_rel mask 0 h2)
    split at h
    · rename_i hv
      rw [forceM_eq] at h
      simp only [Ans.res, Option.some.injEq, Prod.mk.injEq] at h
      obtain ⟨rfl, rfl⟩ := h
      exact ⟨rfl, r.via (keysOf s sp), hext, h1, htm, hm.thawed hv⟩
    · simp only [Ans.res, Option.some.injEq, Prod.mk.injEq] at h
      obtain ⟨rfl, rfl⟩ := h
      exact ⟨rfl, r.via (keysOf s sp), hext, h1, htm, hm⟩
  · simp [Ans.res] at h
theorem clean_rel {mask out : List Nat} {sp so : List From} {B : Nat} {e e' : Exit} {s s' : St} (h : (cleanA mask out sp so B (e, s)).res = some (e', s')) {w0 : World} {keep : Keep} {r0 : Ren} {a : Act} {w : World} (h0 : ∀ b, B ≤ b → r0 b = none) (hr : Rel w0 keep r0 s a w) : e' = e ∧ Rel w0 keep r0 s' a w := by
  unfold cleanA at h
  have hr2 : Rel w0 keep r0 ⟨s.tmps, killV s.mem⟩ a w := by
    obtain ⟨r, hx, h1, h2, h3⟩ := hr
    exact ⟨r.noV, hx.trans r.noV_ext, h1, RL.mono (fun _ _ => R.ext r.noV_ext) h2, h3.unview⟩
  cases e <;> first | exact cleanB_rel h h0 hr | exact cleanB_rel h h0 hr2

/-- One round. -/
def roundR (C : Cx) (n : Nat) (x : Code) (mask mout : List Nat) (sp so : List From) (st : St) : Option (Exit × St) := ((exCode n C x st).bind (cleanA mask mout sp so C.fb)).res
/-- A loop is told by its rounds: each leads on to a state of the same kind with less ahead of it, or out. -/
theorem loop_rule {C : Cx} (hC : CxOk C) {f : FuncId} {B : Nat} {x : Code} (hin : InBody (C.into f B) x) (n : Nat) (mask mout : List Nat) (sp so : List From) {σ : Type} (H : σ → St) (μ : σ → Nat) (Inv : σ → Prop) (out : σ → Exit × St)
    (hstep : ∀ g, Inv g → (∃ g', roundR (C.into f B) n x mask mout sp so (H g) = some (.normal, H g') ∧ Inv g' ∧ μ g' < μ g ∧ out g' = out g) ∨ (roundR (C.into f B) n x mask mout sp so (H g) = some (out g) ∧ (out g).1 ≠ .normal)) :
    ∀ g, Inv g → LoopSem C.P B x (H g) (out g).1 (out g).2 := by
  have leave : ∀ g, roundR (C.into f B) n x mask mout sp so (H g) = some (out g) → (out g).1 ≠ .normal → LoopSem C.P B x (H g) (out g).1 (out g).2 := by
    intro g h1 h2 Q w0 keep r0 a w hB hQ hr
    obtain ⟨⟨e1, s1⟩, h3, h4⟩ := Ans.bind_some h1
    refine LoopsTo.round ((exCode_sound hC n).1 f B x hin _ _ _ h3 _ w0 keep r0 a w hB ?_ hr)
    intro a' w' hr'
    obtain ⟨he, hs⟩ := clean_rel h4 hB hr'
    subst he
    revert h2 hQ hs
    cases (out g).1 <;> intro h2 hQ hs <;> first | exact absurd rfl h2 | exact hQ a' w' hs
  have key : ∀ k g, μ g ≤ k → Inv g → LoopSem C.P B x (H g) (out g).1 (out g).2 := by
    intro k
    induction k with
    | zero =>
      intro g hk hg
      rcases hstep g hg with ⟨g', _, _, hlt, _⟩ | ⟨h1, h2⟩
      · omega
      · exact leave g h1 h2
    | succ k ih =>
      intro g hk hg
      rcases hstep g hg with ⟨g', h1, hg', hlt, ho⟩ | ⟨h1, h2⟩
      · intro Q w0 keep r0 a w hB hQ hr
        obtain ⟨⟨e1, s1⟩, h3, h4⟩ := Ans.bind_some h1
        refine LoopsTo.round ((exCode_sound hC n).1 f B x hin _ _ _ h3 _ w0 keep r0 a w hB ?_ hr)
        intro a' w' hr'
        obtain ⟨he, hs⟩ := clean_rel h4 hB hr'
        subst he
        refine ih g' (by omega) hg' Q w0 keep r0 a' w' hB ?_ hs
        rw [ho]; exact hQ
      · exact leave g h1 h2
  exact fun g hg => key (μ g) g (Nat.le_refl _) hg

theorem loopsIn_trans : ∀ (b : Code) (x y : Code), x ∈ loopsIn b → y ∈ loopsIn x → y ∈ loopsIn b := by
  intro b
  induction b with
  | seq p q ihp ihq =>
    intro x y hx hy
    simp only [loopsIn, List.mem_append] at hx ⊢
    rcases hx with h | h
    · exact Or.inl (ihp x y h hy)
    · exact Or.inr (ihq x y h hy)
  | cond c p q ihp ihq =>
    intro x y hx hy
    simp only [loopsIn, List.mem_append] at hx ⊢
    rcases hx with h | h
    · exact Or.inl (ihp x y h hy)
    · exact Or.inr (ihq x y h hy)
  | block id p ih =>
    intro x y hx hy
    simp only [loopsIn] at hx ⊢
    exact ih x y hx hy
  | loop p ih =>
    intro x y hx hy
    simp only [loopsIn, List.mem_cons] at hx ⊢
    rcases hx with rfl | h
    · exact Or.inr hy
    · exact Or.inr (ih x y h hy)
  | _ => intro x y hx hy; simp [loopsIn] at hx
theorem loopsOf_in {C : Cx} {f k B : Nat} {x : Code} (h : loopsOf C.P f k = [x]) : InBody (C.into f B) x := by
  unfold loopsOf at h
  split at h
  · rename_i fn hf
    split at h
    · rename_i b hb
      have hx : x ∈ loopsIn b := (List.mem_filter.1 (show x ∈ (loopsIn b).filter fun x => Nat.beq (loopKey x) k by rw [h]; simp)).1
      exact Or.inl ⟨fn, b, hf, hb, fun y hy => loopsIn_trans b x y hx hy⟩
    · cases h
  · cases h
/-- What is told of a state of which less is known holds of the state. -/
theorem LoopSem.clean {P : Program} {B : Nat} {x : Code} {st s : St} {e : Exit} {mask : List Nat} (h : LoopSem P B x ⟨keepL mask 0 st.tmps, st.mem⟩ e s) : LoopSem P B x st e s := by
  intro Q w0 keep r0 a w hB hQ hr
  refine h Q w0 keep r0 a w hB hQ ?_
  obtain ⟨r, hx, h1, h2, h3⟩ := hr
  exact ⟨r, hx, h1, keepL_rel mask 0 h2, h3⟩

/-! ## Slots by their numbers -/
def lookN (i : Nat) : List (Nat × Value) → Option Value
  | [] => none
  | (j, v) :: l => match Nat.beq j i with
    | true => some v
    | false => lookN i l
def tmpsOf (vs : List (Nat × Value)) : Nat → Nat → List Value
  | _, 0 => []
  | i, n + 1 => (match lookN i vs with
    | some v => v
    | none => unk) :: tmpsOf vs (i + 1) n
theorem lookN_spec {i : Nat} : ∀ {vs : List (Nat × Value)} {v : Value}, lookN i vs = some v → (i, v) ∈ vs ∧ hasN i (vs.map (·.1)) = true
  | [], v, h => by simp [lookN] at h
  | (j, u) :: vs, v, h => by
    simp only [lookN] at h
    cases hb : Nat.beq j i with
    | true =>
      simp only [hb, Option.some.injEq] at h
      subst h
      have : j = i := Nat.eq_of_beq_eq_true hb
      subst this
      exact ⟨by simp, by simp [hasN]⟩
    | false =>
      simp only [hb] at h
      obtain ⟨h1, h2⟩ := lookN_spec h
      exact ⟨by simp [h1], by simp only [List.map_cons, hasN, hb]; exact h2⟩
theorem lookN_none {i : Nat} : ∀ {vs : List (Nat × Value)}, lookN i vs = none → hasN i (vs.map (·.1)) = false
  | [], _ => rfl
  | (j, u) :: vs, h => by
    simp only [lookN] at h
    cases hb : Nat.beq j i with
    | true => simp [hb] at h
    | false =>
      simp only [hb] at h
      simp only [List.map_cons, hasN, hb]
      exact lookN_none h
theorem keep_eq (vs : List (Nat × Value)) : ∀ (l : List Value) (i : Nat), (∀ x ∈ vs, i ≤ x.1 → l[x.1 - i]? = some x.2) → keepL (vs.map (·.1)) i l = tmpsOf vs i l.length
  | [], i, _ => rfl
  | x :: l, i, h => by
    simp only [keepL, List.length_cons, tmpsOf]
    have ih : keepL (vs.map (·.1)) (i + 1) l = tmpsOf vs (i + 1) l.length := keep_eq vs l (i + 1) fun y hy hi => by
      have := h y hy (by omega)
      rw [show y.1 - i = (y.1 - (i + 1)) + 1 by omega, List.getElem?_cons_succ] at this
      exact this
    cases hl : lookN i vs with
    | some v =>
      obtain ⟨h1, h2⟩ := lookN_spec hl
      have := h (i, v) h1 (Nat.le_refl _)
      simp only [Nat.sub_self, List.getElem?_cons_zero, Option.some.injEq] at this
      simp only [h2, ih, this]
    | none => simp only [lookN_none hl, ih]
/-- A state that is told by some of its slots, and its blocks. -/
def stOf (N : Nat) (vs : List (Nat × Value)) (m : Mem) : St := ⟨tmpsOf vs 0 N, m⟩
/-- Is this state so long, with so many blocks? -/
def sized (st : St) (N M : Nat) : Bool := Nat.beq st.tmps.length N && Nat.beq st.mem.length M
theorem stOf_keep {st : St} {N M : Nat} (hs : sized st N M = true) (vs : List (Nat × Value)) (hv : ∀ x ∈ vs, st.tmps[x.1]? = some x.2) {m : Mem} (hm : st.mem = m) : (⟨keepL (vs.map (·.1)) 0 st.tmps, st.mem⟩ : St) = stOf N vs m := by
  unfold sized at hs
  rw [Bool.and_eq_true] at hs
  unfold stOf
  rw [← Nat.eq_of_beq_eq_true hs.1, ← hm, keep_eq vs st.tmps 0 (fun x hx _ => by simpa using hv x hx)]
end Go.Proofs.Ytjpfnfckpgilgaa.Vx


namespace Go.Proofs.Ytjpfnfckpgilgaa.Vx
open Go

def nth : List Int → Nat → Int
  | [], _ => 0
  | x :: _, 0 => x
  | _ :: l, k + 1 => nth l k

def chainO (mk : List Int → Value) : List (Bool × List Int) → List Int → Option Value
  | [], d => some (mk d)
  | (t, r) :: ts, d => match t with
    | true => some (mk r)
    | false => chainO mk ts d

def chainL : List (Bool × List Int) → List Int → List Int
  | [], d => d
  | (t, r) :: ts, d => match t with
    | true => r
    | false => chainL ts d

theorem chain_eq (mk : List Int → Value) : ∀ (ts : List (Bool × List Int)) (d : List Int), chainO mk ts d = some (mk (chainL ts d))
  | [], _ => rfl
  | (true, _) :: _, _ => rfl
  | (false, _) :: ts, d => chain_eq mk ts d

def mk1 (l : List Int) : Value := .int .i64 (nth l 0)
def mkVec (l : List Int) : Value := .agg #[.int .i64 (nth l 0), .int .i64 (nth l 1), .int .i64 (nth l 2)]
def mkM (l : List Int) : Value := .agg #[.int .i64 (nth l 0), .int .i64 (nth l 1), .int .i64 (nth l 2), .int .i64 (nth l 3), .int .i64 (nth l 4), .int .i64 (nth l 5), .int .i64 (nth l 6), .int .i64 (nth l 7), .int .i64 (nth l 8)]
def mkIe (l : List Int) : Value := .tuple #[.int .i64 (nth l 0), .int .i64 (nth l 1)]
def mkVe (l : List Int) : Value := .tuple #[.agg #[.int .i64 (nth l 0), .int .i64 (nth l 1), .int .i64 (nth l 2)], .int .i64 (nth l 3)]
def mkMe (l : List Int) : Value := .tuple #[.agg #[.int .i64 (nth l 0), .int .i64 (nth l 1), .int .i64 (nth l 2), .int .i64 (nth l 3), .int .i64 (nth l 4), .int .i64 (nth l 5), .int .i64 (nth l 6), .int .i64 (nth l 7), .int .i64 (nth l 8)], .int .i64 (nth l 9)]

/-- The number of 64 bits that is left of a whole number. -/
def W (n : Int) : Int := IntKind.wrap .i64 n

theorem W_eq (n : Int) : W n = (n + 9223372036854775808) % 18446744073709551616 - 9223372036854775808 := by
  unfold W IntKind.wrap
  simp only [IntKind.bits, IntKind.signed]
  have h1 : ((2 : Int) ^ 64) = 18446744073709551616 := rfl
  have h2 : ((2 : Int) ^ (64 - 1)) = 9223372036854775808 := rfl
  simp only [h1, h2, Bool.true_and, decide_eq_true_eq]
  split <;> omega

theorem W_id {n : Int} (h1 : -9223372036854775808 ≤ n) (h2 : n ≤ 9223372036854775807) : W n = n := by rw [W_eq]; omega
theorem W_W (n : Int) : W (W n) = W n := by simp only [W_eq]; omega
theorem W_congr {m n : Int} : W m = W n ↔ (m - n) % 18446744073709551616 = 0 := by simp only [W_eq]; omega
theorem W_sub_self (n : Int) : (W n - n) % 18446744073709551616 = 0 := by rw [W_eq]; omega
theorem W_addl (m n : Int) : W (W m + n) = W (m + n) := by simp only [W_eq]; omega
theorem W_addr (m n : Int) : W (m + W n) = W (m + n) := by simp only [W_eq]; omega
theorem W_subl (m n : Int) : W (W m - n) = W (m - n) := by simp only [W_eq]; omega
theorem W_subr (m n : Int) : W (m - W n) = W (m - n) := by simp only [W_eq]; omega
theorem W_mull (m n : Int) : W (W m * n) = W (m * n) := by
  rw [W_congr, ← Int.sub_mul]
  obtain ⟨k, hk⟩ := Int.dvd_of_emod_eq_zero (W_sub_self m)
  rw [hk, Int.mul_assoc]
  exact Int.mul_emod_right _ _
theorem W_mulr (m n : Int) : W (m * W n) = W (m * n) := by rw [Int.mul_comm, W_mull, Int.mul_comm]
theorem W_neg (m : Int) : W (0 - W m) = W (0 - m) := W_subr 0 m

theorem wrap_W (n : Int) : IntKind.wrap .i64 n = W n := rfl

theorem wf_bounds {n : Int} (h : (Lit.int .i64 n).wf = true) : -9223372036854775808 ≤ n ∧ n ≤ 9223372036854775807 := by
  simp [Lit.wf, IntKind.min, IntKind.max, IntKind.signed, IntKind.bits] at h
  omega

end Go.Proofs.Ytjpfnfckpgilgaa.Vx


namespace Go.Proofs.Ytjpfnfckpgilgaa.Vx
open Go

structure M3 where
  (a b c d e f g h i : Int)
structure V3 where
  (x y z : Int)

theorem M3.ext' {m n : M3} (h : m.a = n.a ∧ m.b = n.b ∧ m.c = n.c ∧ m.d = n.d ∧ m.e = n.e ∧ m.f = n.f ∧ m.g = n.g ∧ m.h = n.h ∧ m.i = n.i) : m = n := by
  cases m; cases n; simp only [M3.mk.injEq]; exact h
theorem V3.ext' {m n : V3} (h : m.x = n.x ∧ m.y = n.y ∧ m.z = n.z) : m = n := by
  cases m; cases n; simp only [V3.mk.injEq]; exact h

def M3.mul (m n : M3) : M3 :=
  ⟨m.a * n.a + m.b * n.d + m.c * n.g, m.a * n.b + m.b * n.e + m.c * n.h, m.a * n.c + m.b * n.f + m.c * n.i,
   m.d * n.a + m.e * n.d + m.f * n.g, m.d * n.b + m.e * n.e + m.f * n.h, m.d * n.c + m.e * n.f + m.f * n.i,
   m.g * n.a + m.h * n.d + m.i * n.g, m.g * n.b + m.h * n.e + m.i * n.h, m.g * n.c + m.h * n.f + m.i * n.i⟩
def M3.one : M3 := ⟨1, 0, 0, 0, 1, 0, 0, 0, 1⟩
def M3.zero : M3 := ⟨0, 0, 0, 0, 0, 0, 0, 0, 0⟩
def M3.det (m : M3) : Int := m.a * (m.e * m.i - m.f * m.h) + m.b * (m.f * m.g - m.d * m.i) + m.c * (m.d * m.h - m.e * m.g)
def M3.adj (m : M3) : M3 :=
  ⟨m.e * m.i - m.f * m.h, m.h * m.c - m.i * m.b, m.b * m.f - m.c * m.e, m.f * m.g - m.d * m.i, m.i * m.a - m.g * m.c, m.c * m.d - m.a * m.f, m.d * m.h - m.e * m.g, m.g * m.b - m.h * m.a, m.a * m.e - m.b * m.d⟩
def M3.smul (k : Int) (m : M3) : M3 := ⟨m.a * k, m.b * k, m.c * k, m.d * k, m.e * k, m.f * k, m.g * k, m.h * k, m.i * k⟩
def M3.tr (m : M3) : Int := m.a + m.e + m.i
def M3.neg (m : M3) : M3 := ⟨-m.a, -m.b, -m.c, -m.d, -m.e, -m.f, -m.g, -m.h, -m.i⟩
def M3.inv (m : M3) : M3 := m.adj.smul m.det
def M3.app (m : M3) (v : V3) : V3 := ⟨m.a * v.x + m.b * v.y + m.c * v.z, m.d * v.x + m.e * v.y + m.f * v.z, m.g * v.x + m.h * v.y + m.i * v.z⟩
def V3.zero : V3 := ⟨0, 0, 0⟩
def V3.add (u v : V3) : V3 := ⟨u.x + v.x, u.y + v.y, u.z + v.z⟩
def V3.neg (u : V3) : V3 := ⟨-u.x, -u.y, -u.z⟩
def V3.md (m : Int) (u : V3) : V3 := ⟨u.x % m, u.y % m, u.z % m⟩

theorem M3.mul_assoc (m n o : M3) : (m.mul n).mul o = m.mul (n.mul o) := by
  refine M3.ext' ⟨?_, ?_, ?_, ?_, ?_, ?_, ?_, ?_, ?_⟩ <;> (simp only [M3.mul]; grind)
theorem M3.one_mul (m : M3) : M3.one.mul m = m := by
  refine M3.ext' ⟨?_, ?_, ?_, ?_, ?_, ?_, ?_, ?_, ?_⟩ <;> (simp only [M3.mul, M3.one]; omega)
theorem M3.mul_one (m : M3) : m.mul M3.one = m := by
  refine M3.ext' ⟨?_, ?_, ?_, ?_, ?_, ?_, ?_, ?_, ?_⟩ <;> (simp only [M3.mul, M3.one]; omega)
theorem M3.det_mul (m n : M3) : (m.mul n).det = m.det * n.det := by
  simp only [M3.det, M3.mul]; grind
theorem M3.mul_adj (m : M3) : m.mul m.adj = M3.one.smul m.det := by
  refine M3.ext' ⟨?_, ?_, ?_, ?_, ?_, ?_, ?_, ?_, ?_⟩ <;> (simp only [M3.mul, M3.adj, M3.smul, M3.det, M3.one]; grind)
theorem M3.adj_mul (m : M3) : m.adj.mul m = M3.one.smul m.det := by
  refine M3.ext' ⟨?_, ?_, ?_, ?_, ?_, ?_, ?_, ?_, ?_⟩ <;> (simp only [M3.mul, M3.adj, M3.smul, M3.det, M3.one]; grind)
theorem M3.mul_smul (k : Int) (m n : M3) : m.mul (n.smul k) = (m.mul n).smul k := by
  refine M3.ext' ⟨?_, ?_, ?_, ?_, ?_, ?_, ?_, ?_, ?_⟩ <;> (simp only [M3.mul, M3.smul]; grind)
theorem M3.smul_mul (k : Int) (m n : M3) : (m.smul k).mul n = (m.mul n).smul k := by
  refine M3.ext' ⟨?_, ?_, ?_, ?_, ?_, ?_, ?_, ?_, ?_⟩ <;> (simp only [M3.mul, M3.smul]; grind)
theorem M3.smul_smul (k l : Int) (m : M3) : (m.smul k).smul l = m.smul (k * l) := by
  refine M3.ext' ⟨?_, ?_, ?_, ?_, ?_, ?_, ?_, ?_, ?_⟩ <;> (simp only [M3.smul]; grind)
theorem M3.smul_one (m : M3) : m.smul 1 = m := by
  refine M3.ext' ⟨?_, ?_, ?_, ?_, ?_, ?_, ?_, ?_, ?_⟩ <;> (simp only [M3.smul]; omega)

/-- The determinant is 1 or -1. -/
def M3.U (m : M3) : Prop := m.det = 1 ∨ m.det = -1
theorem M3.U.sq {m : M3} (h : m.U) : m.det * m.det = 1 := by rcases h with h | h <;> rw [h] <;> rfl
theorem M3.mul_inv {m : M3} (h : m.U) : m.mul m.inv = M3.one := by
  unfold M3.inv; rw [M3.mul_smul, M3.mul_adj, M3.smul_smul, h.sq, M3.smul_one]
theorem M3.inv_mul {m : M3} (h : m.U) : m.inv.mul m = M3.one := by
  unfold M3.inv; rw [M3.smul_mul, M3.adj_mul, M3.smul_smul, h.sq, M3.smul_one]
theorem M3.det_one : M3.one.det = 1 := by decide
theorem M3.U_one : M3.one.U := Or.inl M3.det_one
theorem M3.U_mul {m n : M3} (hm : m.U) (hn : n.U) : (m.mul n).U := by
  unfold M3.U
  rw [M3.det_mul]
  rcases hm with h | h <;> rcases hn with k | k <;> rw [h, k] <;> decide
theorem M3.det_inv {m : M3} (h : m.U) : m.inv.det = m.det := by
  have e := congrArg M3.det (M3.mul_inv h)
  rw [M3.det_mul, M3.det_one] at e
  rcases h with h | h <;> rw [h] at e ⊢ <;> omega
theorem M3.U_inv {m : M3} (h : m.U) : m.inv.U := by unfold M3.U; rw [M3.det_inv h]; exact h
/-- What undoes from the right is the inverse. -/
theorem M3.inv_unique {m n : M3} (h : m.U) (e : m.mul n = M3.one) : n = m.inv := by
  have := congrArg (M3.mul m.inv) e
  rwa [← M3.mul_assoc, M3.inv_mul h, M3.one_mul, M3.mul_one] at this
theorem M3.inv_inv {m : M3} (h : m.U) : m.inv.inv = m := (M3.inv_unique (M3.U_inv h) (M3.inv_mul h)).symm
theorem M3.cancel_left {m n o : M3} (h : m.U) (e : m.mul n = m.mul o) : n = o := by
  have := congrArg (M3.mul m.inv) e
  rwa [← M3.mul_assoc, ← M3.mul_assoc, M3.inv_mul h, M3.one_mul, M3.one_mul] at this
theorem M3.comm_one {m n : M3} (h : m.U) (e : m.mul n = M3.one) : n.mul m = M3.one := by
  rw [M3.inv_unique h e, M3.inv_mul h]

theorem M3.app_mul (m n : M3) (v : V3) : (m.mul n).app v = m.app (n.app v) := by
  refine V3.ext' ⟨?_, ?_, ?_⟩ <;> (simp only [M3.mul, M3.app]; grind)
theorem M3.app_one (v : V3) : M3.one.app v = v := by
  refine V3.ext' ⟨?_, ?_, ?_⟩ <;> (simp only [M3.app, M3.one]; omega)
theorem M3.app_add (m : M3) (u v : V3) : m.app (u.add v) = (m.app u).add (m.app v) := by
  refine V3.ext' ⟨?_, ?_, ?_⟩ <;> (simp only [M3.app, V3.add]; grind)
theorem M3.app_neg (m : M3) (u : V3) : m.app u.neg = (m.app u).neg := by
  refine V3.ext' ⟨?_, ?_, ?_⟩ <;> (simp only [M3.app, V3.neg]; grind)

def M3.pow (m : M3) : Nat → M3
  | 0 => M3.one
  | n + 1 => m.mul (m.pow n)
theorem M3.pow_one (m : M3) : m.pow 1 = m := M3.mul_one m
theorem M3.pow_add (m : M3) (k : Nat) : ∀ n, m.pow (n + k) = (m.pow n).mul (m.pow k)
  | 0 => by rw [Nat.zero_add]; exact (M3.one_mul _).symm
  | n + 1 => by rw [show n + 1 + k = (n + k) + 1 by omega]; simp only [M3.pow]; rw [M3.pow_add m k n, M3.mul_assoc]
theorem M3.U_pow {m : M3} (h : m.U) : ∀ n, (m.pow n).U
  | 0 => M3.U_one
  | n + 1 => M3.U_mul h (M3.U_pow h n)

/-- Powers: a power is the identity just where it is so a multiple of the least one. -/
def M3.IsOrd (m : M3) (n : Nat) : Prop := 0 < n ∧ m.pow n = M3.one ∧ ∀ k, 0 < k → k < n → m.pow k ≠ M3.one
theorem M3.pow_mul_one {m : M3} {n : Nat} (h : m.pow n = M3.one) : ∀ k, m.pow (n * k) = M3.one
  | 0 => rfl
  | k + 1 => by rw [Nat.mul_succ, M3.pow_add, M3.pow_mul_one h k, h]; exact M3.one_mul _
theorem M3.IsOrd.dvd {m : M3} {n : Nat} (h : m.IsOrd n) (k : Nat) : m.pow k = M3.one ↔ n ∣ k := by
  constructor
  · intro hk
    have e : k = n * (k / n) + k % n := (Nat.div_add_mod k n).symm
    rw [e, M3.pow_add, M3.pow_mul_one h.2.1, M3.one_mul] at hk
    have hlt := Nat.mod_lt k h.1
    rcases Nat.eq_zero_or_pos (k % n) with h0 | h0
    · exact Nat.dvd_of_mod_eq_zero h0
    · exact absurd hk (h.2.2 _ h0 hlt)
  · rintro ⟨q, rfl⟩; exact M3.pow_mul_one h.2.1 q
theorem M3.IsOrd.unique {m : M3} {n k : Nat} (h : m.IsOrd n) (g : m.IsOrd k) : n = k := Nat.dvd_antisymm ((h.dvd k).1 g.2.1) ((g.dvd n).1 h.2.1)
/-- The least power is the first of 1, 2, 3, 4, 6 that is the identity. -/
theorem M3.ord1 {m : M3} (h : m = M3.one) : m.IsOrd 1 := ⟨by omega, by rw [M3.pow_one]; exact h, fun k h1 h2 => by omega⟩
theorem M3.ord2 {m : M3} (h1 : m ≠ M3.one) (h2 : m.pow 2 = M3.one) : m.IsOrd 2 := by
  refine ⟨by omega, h2, fun k k1 k2 => ?_⟩
  obtain rfl : k = 1 := by omega
  rw [M3.pow_one]; exact h1
theorem M3.ord3 {m : M3} (h1 : m ≠ M3.one) (h3 : m.pow 3 = M3.one) : m.IsOrd 3 := by
  refine ⟨by omega, h3, fun k k1 k2 hk => ?_⟩
  have : k = 1 ∨ k = 2 := by omega
  rcases this with rfl | rfl
  · rw [M3.pow_one] at hk; exact h1 hk
  · rw [show (3 : Nat) = 1 + 2 from rfl, M3.pow_add, hk, M3.mul_one, M3.pow_one] at h3; exact h1 h3
theorem M3.ord4 {m : M3} (h1 : m ≠ M3.one) (h2 : m.pow 2 ≠ M3.one) (h4 : m.pow 4 = M3.one) : m.IsOrd 4 := by
  refine ⟨by omega, h4, fun k k1 k2 hk => ?_⟩
  have : k = 1 ∨ k = 2 ∨ k = 3 := by omega
  rcases this with rfl | rfl | rfl
  · rw [M3.pow_one] at hk; exact h1 hk
  · exact h2 hk
  · rw [show (4 : Nat) = 1 + 3 from rfl, M3.pow_add, hk, M3.mul_one, M3.pow_one] at h4; exact h1 h4
theorem M3.ord6 {m : M3} (h1 : m ≠ M3.one) (h2 : m.pow 2 ≠ M3.one) (h3 : m.pow 3 ≠ M3.one) (h6 : m.pow 6 = M3.one) : m.IsOrd 6 := by
  refine ⟨by omega, h6, fun k k1 k2 hk => ?_⟩
  have : k = 1 ∨ k = 2 ∨ k = 3 ∨ k = 4 ∨ k = 5 := by omega
  rcases this with rfl | rfl | rfl | rfl | rfl
  · rw [M3.pow_one] at hk; exact h1 hk
  · exact h2 hk
  · exact h3 hk
  · rw [show (6 : Nat) = 2 + 4 from rfl, M3.pow_add, hk, M3.mul_one] at h6; exact h2 h6
  · rw [show (6 : Nat) = 1 + 5 from rfl, M3.pow_add, hk, M3.mul_one, M3.pow_one] at h6; exact h1 h6

/-- Told from elsewhere. -/
theorem M3.conj_pow {m p q : M3} (hpq : q.mul p = M3.one) (hqp : p.mul q = M3.one) : ∀ n, ((p.mul m).mul q).pow n = (p.mul (m.pow n)).mul q
  | 0 => by simp only [M3.pow]; rw [M3.mul_one, hqp]
  | n + 1 => by
    simp only [M3.pow]
    rw [M3.conj_pow hpq hqp n, M3.mul_assoc (p.mul m) q, ← M3.mul_assoc q, ← M3.mul_assoc q p, hpq, M3.one_mul, M3.mul_assoc p m, ← M3.mul_assoc m, ← M3.mul_assoc p, ← M3.mul_assoc p]
theorem M3.conj_one {m p q : M3} (hpq : q.mul p = M3.one) (hqp : p.mul q = M3.one) : (p.mul m).mul q = M3.one ↔ m = M3.one := by
  constructor
  · intro h
    have := congrArg (fun x => (q.mul x).mul p) h
    rw [M3.mul_one, hpq, ← M3.mul_assoc, ← M3.mul_assoc, hpq, M3.one_mul, M3.mul_assoc, hpq, M3.mul_one] at this
    exact this
  · rintro rfl; rw [M3.mul_one, hqp]
theorem M3.conj_ord {m p q : M3} (hpq : q.mul p = M3.one) (hqp : p.mul q = M3.one) {n : Nat} (h : m.IsOrd n) : ((p.mul m).mul q).IsOrd n := by
  refine ⟨h.1, ?_, fun k k1 k2 => ?_⟩
  · rw [M3.conj_pow hpq hqp, M3.conj_one hpq hqp]; exact h.2.1
  · rw [M3.conj_pow hpq hqp, Ne, M3.conj_one hpq hqp]; exact h.2.2 k k1 k2
/-- Undone. -/
theorem M3.pow_comm (m : M3) : ∀ n, (m.pow n).mul m = m.mul (m.pow n)
  | 0 => by simp only [M3.pow]; rw [M3.one_mul, M3.mul_one]
  | n + 1 => by simp only [M3.pow]; rw [M3.mul_assoc, M3.pow_comm m n]
theorem M3.inv_pow {m : M3} (h : m.U) : ∀ n, (m.pow n).mul (m.inv.pow n) = M3.one
  | 0 => M3.one_mul _
  | n + 1 => by
    have e : m.pow (n + 1) = (m.pow n).mul m := (M3.pow_comm m n).symm
    rw [e]
    simp only [M3.pow]
    rw [M3.mul_assoc, ← M3.mul_assoc m, M3.mul_inv h, M3.one_mul, M3.inv_pow h n]
theorem M3.inv_ord {m : M3} (h : m.U) {n : Nat} (g : m.IsOrd n) : m.inv.IsOrd n := by
  have key : ∀ k, m.inv.pow k = M3.one ↔ m.pow k = M3.one := fun k => by
    have e := M3.inv_pow h k
    constructor
    · intro hk; rwa [hk, M3.mul_one] at e
    · intro hk; rwa [hk, M3.one_mul] at e
  exact ⟨g.1, (key n).2 g.2.1, fun k k1 k2 hk => g.2.2 k k1 k2 ((key k).1 hk)⟩
end Go.Proofs.Ytjpfnfckpgilgaa.Vx


namespace Go.Proofs.Ytjpfnfckpgilgaa.Vx
open Go

def eq3 (a b c d e f : Int) : Bool := (a == d) && ((b == e) && ((c == f) && true))
def eq9 (a b c d e f g h i j k l m n o p q r : Int) : Bool := eq3 a b c j k l && (eq3 d e f m n o && (eq3 g h i p q r && true))

/-- within (43): three numbers against a bound. -/
def withinT (a b c n : Int) : List (Bool × List Int) :=
  [(decide (a < W (0 - n)), [4]), (decide (a > n), [4]), (decide (b < W (0 - n)), [4]), (decide (b > n), [4]), (decide (c < W (0 - n)), [4]), (decide (c > n), [4])]
def withinR (a b c n : Int) : Int := nth (chainL (withinT a b c n) [0]) 0
def F43 : List Int → Option Value
  | [a, b, c, n] => some (mk1 (chainL (withinT a b c n) [0]))
  | _ => none

/-- Check (24). -/
def checkT (a b c d e f g h i : Int) : List (Bool × List Int) :=
  [(withinR a b c 1000 != 0, [withinR a b c 1000]), (withinR d e f 1000 != 0, [withinR d e f 1000]), (withinR g h i 1000 != 0, [withinR g h i 1000])]
def chk (a b c d e f g h i : Int) : Int := nth (chainL (checkT a b c d e f g h i) [0]) 0
def F24 : List Int → Option Value
  | [a, b, c, d, e, f, g, h, i] => some (mk1 (chainL (checkT a b c d e f g h i) [0]))
  | _ => none

/-- checkBoth (38). -/
def bothT (a b c d e f g h i : Int) : List (Bool × List Int) := [(chk a b c d e f g h i != 0, [chk a b c d e f g h i])]
def both (a b c d e f g h i x y z : Int) : Int := nth (chainL (bothT a b c d e f g h i) [withinR x y z 2147483648]) 0
def F38 : List Int → Option Value
  | [a, b, c, d, e, f, g, h, i, x, y, z] => some (mk1 (chainL (bothT a b c d e f g h i) [withinR x y z 2147483648]))
  | _ => none

def dotR (a b c d e f : Int) : Int := W (W (W (a * d) + W (b * e)) + W (c * f))
def prodL (a b c d e f g h i j k l m n o p q r : Int) : List Int :=
  [dotR a b c j m p, dotR a b c k n q, dotR a b c l o r, dotR d e f j m p, dotR d e f k n q, dotR d e f l o r, dotR g h i j m p, dotR g h i k n q, dotR g h i l o r]

/-- Mul (10). -/
def mulT (a b c d e f g h i j k l m n o p q r : Int) : List (Bool × List Int) :=
  [(chk a b c d e f g h i != 0, [0, 0, 0, 0, 0, 0, 0, 0, 0, chk a b c d e f g h i]), (chk j k l m n o p q r != 0, [0, 0, 0, 0, 0, 0, 0, 0, 0, chk j k l m n o p q r])]
def mulD (a b c d e f g h i j k l m n o p q r : Int) : List Int := prodL a b c d e f g h i j k l m n o p q r ++ [0]
def mulR (a b c d e f g h i j k l m n o p q r : Int) : List Int := chainL (mulT a b c d e f g h i j k l m n o p q r) (mulD a b c d e f g h i j k l m n o p q r)
def F10 : List Int → Option Value
  | [a, b, c, d, e, f, g, h, i, j, k, l, m, n, o, p, q, r] => some (mkMe (mulR a b c d e f g h i j k l m n o p q r))
  | _ => none

/-- Apply (11), Left (12). -/
def applyT (a b c d e f g h i x y z : Int) : List (Bool × List Int) := [(both a b c d e f g h i x y z != 0, [0, 0, 0, both a b c d e f g h i x y z])]
def applyD (a b c d e f g h i x y z : Int) : List Int := [dotR a b c x y z, dotR d e f x y z, dotR g h i x y z, 0]
def leftD (a b c d e f g h i x y z : Int) : List Int := [dotR x y z a d g, dotR x y z b e h, dotR x y z c f i, 0]
def applyR (a b c d e f g h i x y z : Int) : List Int := chainL (applyT a b c d e f g h i x y z) (applyD a b c d e f g h i x y z)
def leftR (a b c d e f g h i x y z : Int) : List Int := chainL (applyT a b c d e f g h i x y z) (leftD a b c d e f g h i x y z)
def F11 : List Int → Option Value
  | [a, b, c, d, e, f, g, h, i, x, y, z] => some (mkVe (applyR a b c d e f g h i x y z))
  | _ => none
def F12 : List Int → Option Value
  | [x, y, z, a, b, c, d, e, f, g, h, i] => some (mkVe (leftR a b c d e f g h i x y z))
  | _ => none

/-- The document's Mat (13) and Column (15). -/
def rangeT (n : Int) : List Int → List (Bool × List Int)
  | [] => []
  | a :: l => (decide (a < -n), [4]) :: (decide (a > n), [4]) :: rangeT n l
def matR (a b c d e f g h i : Int) : Int := nth (chainL (rangeT 1000 [a, b, c, d, e, f, g, h, i]) [0]) 0
def colR (x y z : Int) : Int := nth (chainL (rangeT 2147483648 [x, y, z]) [0]) 0
def F13 : List Int → Option Value
  | [a, b, c, d, e, f, g, h, i] => some (mk1 (chainL (rangeT 1000 [a, b, c, d, e, f, g, h, i]) [0]))
  | _ => none
def F15 : List Int → Option Value
  | [x, y, z] => some (mk1 (chainL (rangeT 2147483648 [x, y, z]) [0]))
  | _ => none

/-- Transpose (20), Det (21), Trace (22), Adjugate (23). -/
def err9T (a b c d e f g h i : Int) : List (Bool × List Int) := [(chk a b c d e f g h i != 0, [0, 0, 0, 0, 0, 0, 0, 0, 0, chk a b c d e f g h i])]
def err1T (a b c d e f g h i : Int) : List (Bool × List Int) := [(chk a b c d e f g h i != 0, [0, chk a b c d e f g h i])]
def minR (a b c d : Int) : Int := W (W (a * b) - W (c * d))
def detR (a b c d e f g h i : Int) : Int := W (W (W (a * minR e i f h) + W (b * minR f g d i)) + W (c * minR d h e g))
def cofL (a b c d e f g h i : Int) : List Int := [minR e i f h, minR h c i b, minR b f c e, minR f g d i, minR i a g c, minR c d a f, minR d h e g, minR g b h a, minR a e b d]
def transR (a b c d e f g h i : Int) : List Int := chainL (err9T a b c d e f g h i) [a, d, g, b, e, h, c, f, i, 0]
def detE (a b c d e f g h i : Int) : List Int := chainL (err1T a b c d e f g h i) [detR a b c d e f g h i, 0]
def traceE (a b c d e f g h i : Int) : List Int := chainL (err1T a b c d e f g h i) [W (W (a + e) + i), 0]
def adjE (a b c d e f g h i : Int) : List Int := chainL (err9T a b c d e f g h i) (cofL a b c d e f g h i ++ [0])
def F20 : List Int → Option Value
  | [a, b, c, d, e, f, g, h, i] => some (mkMe (transR a b c d e f g h i))
  | _ => none
def F21 : List Int → Option Value
  | [a, b, c, d, e, f, g, h, i] => some (mkIe (detE a b c d e f g h i))
  | _ => none
def F22 : List Int → Option Value
  | [a, b, c, d, e, f, g, h, i] => some (mkIe (traceE a b c d e f g h i))
  | _ => none
def F23 : List Int → Option Value
  | [a, b, c, d, e, f, g, h, i] => some (mkMe (adjE a b c d e f g h i))
  | _ => none

def F50 : List Int → Option Value
  | [_] => some (.bool false)
  | _ => none
/-- cmp.Compare (47), Compare (33), the document's (34). -/
def cmpT (a b : Int) : List (Bool × List Int) := [(decide (a < b), [-1]), (decide (a > b), [1])]
def cmpR (a b : Int) : Int := nth (chainL (cmpT a b) [0]) 0
def F47 : List Int → Option Value
  | [a, b] => some (mk1 (chainL (cmpT a b) [0]))
  | _ => none
def compT : List Int → List Int → List (Bool × List Int)
  | a :: l, b :: m => (cmpR a b != 0, [cmpR a b]) :: compT l m
  | _, _ => []
def compR (l m : List Int) : Int := nth (chainL (compT l m) [0]) 0
def dcompT : List Int → List Int → List (Bool × List Int)
  | a :: l, b :: m => (decide (a < b), [-1]) :: (decide (a > b), [1]) :: dcompT l m
  | _, _ => []
def dcompR (l m : List Int) : Int := nth (chainL (dcompT l m) [0]) 0
def F33 : List Int → Option Value
  | [a, b, c, d, e, f, g, h, i, j, k, l, m, n, o, p, q, r] => some (mk1 (chainL (compT [a, b, c, d, e, f, g, h, i] [j, k, l, m, n, o, p, q, r]) [0]))
  | _ => none
def F34 : List Int → Option Value
  | [a, b, c, d, e, f, g, h, i, j, k, l, m, n, o, p, q, r] => some (mk1 (chainL (dcompT [a, b, c, d, e, f, g, h, i] [j, k, l, m, n, o, p, q, r]) [0]))
  | _ => none

def F9 : List Int → Option Value
  | [] => some (.bool true)
  | _ => none

def zeros9 (e : Int) : List Int := [0, 0, 0, 0, 0, 0, 0, 0, 0, e]
/-- Inverse (29). -/
def invL (a b c d e f g h i : Int) : List Int :=
  [W (minR e i f h * detR a b c d e f g h i), W (minR h c i b * detR a b c d e f g h i), W (minR b f c e * detR a b c d e f g h i), W (minR f g d i * detR a b c d e f g h i), W (minR i a g c * detR a b c d e f g h i), W (minR c d a f * detR a b c d e f g h i), W (minR d h e g * detR a b c d e f g h i), W (minR g b h a * detR a b c d e f g h i), W (minR a e b d * detR a b c d e f g h i)]
def invE (a b c d e f g h i : Int) : List Int :=
  chainL [(chk a b c d e f g h i != 0, zeros9 (chk a b c d e f g h i)), (detR a b c d e f g h i != 1 && detR a b c d e f g h i != -1, zeros9 3)] (invL a b c d e f g h i ++ [0])
def invO (a b c d e f g h i : Int) : Option Value :=
  match chk a b c d e f g h i != 0 with
  | true => some (mkMe (zeros9 (chk a b c d e f g h i)))
  | false => match detR a b c d e f g h i != 1 with
    | true => match detR a b c d e f g h i != -1 with
      | true => some (mkMe (zeros9 3))
      | false => some (mkMe (invL a b c d e f g h i ++ [0]))
    | false => some (mkMe (invL a b c d e f g h i ++ [0]))
theorem invO_eq (a b c d e f g h i : Int) : invO a b c d e f g h i = some (mkMe (invE a b c d e f g h i)) := by
  unfold invO invE
  cases chk a b c d e f g h i != 0 <;> cases detR a b c d e f g h i != 1 <;> cases detR a b c d e f g h i != -1 <;> rfl
def F29 : List Int → Option Value
  | [a, b, c, d, e, f, g, h, i] => some (mkMe (invE a b c d e f g h i))
  | _ => none

/-- Functions of rows of nine numbers (and an error's behind them). -/
def mulL (x y : List Int) : List Int := mulR (nth x 0) (nth x 1) (nth x 2) (nth x 3) (nth x 4) (nth x 5) (nth x 6) (nth x 7) (nth x 8) (nth y 0) (nth y 1) (nth y 2) (nth y 3) (nth y 4) (nth y 5) (nth y 6) (nth y 7) (nth y 8)
def prodM (x y : List Int) : List Int := prodL (nth x 0) (nth x 1) (nth x 2) (nth x 3) (nth x 4) (nth x 5) (nth x 6) (nth x 7) (nth x 8) (nth y 0) (nth y 1) (nth y 2) (nth y 3) (nth y 4) (nth y 5) (nth y 6) (nth y 7) (nth y 8)
def eqM (x y : List Int) : Bool := eq9 (nth x 0) (nth x 1) (nth x 2) (nth x 3) (nth x 4) (nth x 5) (nth x 6) (nth x 7) (nth x 8) (nth y 0) (nth y 1) (nth y 2) (nth y 3) (nth y 4) (nth y 5) (nth y 6) (nth y 7) (nth y 8)
def applyL (x v : List Int) : List Int := applyR (nth x 0) (nth x 1) (nth x 2) (nth x 3) (nth x 4) (nth x 5) (nth x 6) (nth x 7) (nth x 8) (nth v 0) (nth v 1) (nth v 2)
def leftL (v x : List Int) : List Int := leftR (nth x 0) (nth x 1) (nth x 2) (nth x 3) (nth x 4) (nth x 5) (nth x 6) (nth x 7) (nth x 8) (nth v 0) (nth v 1) (nth v 2)
def detM (x : List Int) : List Int := detE (nth x 0) (nth x 1) (nth x 2) (nth x 3) (nth x 4) (nth x 5) (nth x 6) (nth x 7) (nth x 8)
def traceM (x : List Int) : List Int := traceE (nth x 0) (nth x 1) (nth x 2) (nth x 3) (nth x 4) (nth x 5) (nth x 6) (nth x 7) (nth x 8)
def transM (x : List Int) : List Int := transR (nth x 0) (nth x 1) (nth x 2) (nth x 3) (nth x 4) (nth x 5) (nth x 6) (nth x 7) (nth x 8)
def adjM (x : List Int) : List Int := adjE (nth x 0) (nth x 1) (nth x 2) (nth x 3) (nth x 4) (nth x 5) (nth x 6) (nth x 7) (nth x 8)
def invM (x : List Int) : List Int := invE (nth x 0) (nth x 1) (nth x 2) (nth x 3) (nth x 4) (nth x 5) (nth x 6) (nth x 7) (nth x 8)
def eqV3 (x y : List Int) : Bool := eq3 (nth x 0) (nth x 1) (nth x 2) (nth y 0) (nth y 1) (nth y 2)
def one9 : List Int := [1, 0, 0, 0, 1, 0, 0, 0, 1]

/-- Order (31). -/
def orderT (a b c d e f g h i : Int) : List (Bool × List Int) :=
  [(nth (invE a b c d e f g h i) 9 != 0, [0, nth (invE a b c d e f g h i) 9]),
   (eqM [a, b, c, d, e, f, g, h, i] one9, [1, 0]),
   (eqM [a, b, c, d, e, f, g, h, i] (invE a b c d e f g h i), [2, 0]),
   (eqM (prodM [a, b, c, d, e, f, g, h, i] [a, b, c, d, e, f, g, h, i]) (invE a b c d e f g h i), [3, 0]),
   (eqM (prodM [a, b, c, d, e, f, g, h, i] [a, b, c, d, e, f, g, h, i]) (prodM (invE a b c d e f g h i) (invE a b c d e f g h i)), [4, 0]),
   (eqM (prodM (prodM [a, b, c, d, e, f, g, h, i] [a, b, c, d, e, f, g, h, i]) (prodM [a, b, c, d, e, f, g, h, i] [a, b, c, d, e, f, g, h, i])) (prodM (invE a b c d e f g h i) (invE a b c d e f g h i)), [6, 0])]
def orderR (a b c d e f g h i : Int) : List Int := chainL (orderT a b c d e f g h i) [0, 9]
def orderM (x : List Int) : List Int := orderR (nth x 0) (nth x 1) (nth x 2) (nth x 3) (nth x 4) (nth x 5) (nth x 6) (nth x 7) (nth x 8)
def F31 : List Int → Option Value
  | [a, b, c, d, e, f, g, h, i] => some (mkIe (orderR a b c d e f g h i))
  | _ => none

/-- The document's Form (44) and DocInverse (30). -/
def rdet (a b c d e f g h i : Int) : Int :=
  W (W (W (0 + W (W (W (a * e) * i) - W (W (a * f) * h))) + W (W (W (b * f) * g) - W (W (b * d) * i))) + W (W (W (c * d) * h) - W (W (c * e) * g)))
def formR (a b c d e f g h i : Int) : Int := nth (chainL [(matR a b c d e f g h i != 0, [4]), (rdet a b c d e f g h i != 1 && rdet a b c d e f g h i != -1, [3])] [0]) 0
def formO (a b c d e f g h i : Int) : Option Value :=
  match matR a b c d e f g h i != 0 with
  | true => some (.int .i64 4)
  | false => match rdet a b c d e f g h i != 1 with
    | true => match rdet a b c d e f g h i != -1 with
      | true => some (.int .i64 3)
      | false => some (.int .i64 0)
    | false => some (.int .i64 0)
def F44 : List Int → Option Value
  | [a, b, c, d, e, f, g, h, i] => some (.int .i64 (formR a b c d e f g h i))
  | _ => none
theorem formO_eq (a b c d e f g h i : Int) : formO a b c d e f g h i = some (.int .i64 (formR a b c d e f g h i)) := by
  unfold formO formR
  cases matR a b c d e f g h i != 0 <;> cases rdet a b c d e f g h i != 1 <;> cases rdet a b c d e f g h i != -1 <;> rfl
def rinvL (a b c d e f g h i : Int) : List Int :=
  [W (minR e i f h * rdet a b c d e f g h i), W (minR h c i b * rdet a b c d e f g h i), W (minR b f c e * rdet a b c d e f g h i), W (minR f g d i * rdet a b c d e f g h i), W (minR i a g c * rdet a b c d e f g h i), W (minR c d a f * rdet a b c d e f g h i), W (minR d h e g * rdet a b c d e f g h i), W (minR g b h a * rdet a b c d e f g h i), W (minR a e b d * rdet a b c d e f g h i)]
def F30 : List Int → Option Value
  | [a, b, c, d, e, f, g, h, i] => some (mkMe (chainL [(formR a b c d e f g h i != 0, zeros9 (formR a b c d e f g h i))] (rinvL a b c d e f g h i ++ [0])))
  | _ => none

end Go.Proofs.Ytjpfnfckpgilgaa.Vx


namespace Go.Proofs.Ytjpfnfckpgilgaa.Vx
open Go

/-- The first test that holds answers false. -/
def guardF : List Bool → Option Value → Option Value
  | [], k => k
  | t :: ts, k => match t with
    | true => some (.bool false)
    | false => guardF ts k
/-- All of these. -/
def andO : List Bool → Option Value
  | [] => some (.bool true)
  | [b] => some (.bool b)
  | b :: bs => match b with
    | true => andO bs
    | false => some (.bool false)
/-- One of these. -/
def orB : List Bool → Option Value → Option Value → Option Value
  | [], _, e => e
  | t :: ts, a, e => match t with
    | true => a
    | false => orB ts a e

theorem guardF_eq : ∀ (ts : List Bool) (k : Option Value), (∀ t ∈ ts, t = false) → guardF ts k = k
  | [], _, _ => rfl
  | t :: ts, k, h => by
    have := h t (by simp)
    subst this
    exact guardF_eq ts k fun u hu => h u (by simp [hu])
theorem andO_eq : ∀ (ts : List Bool), (∀ t ∈ ts, t = true) → andO ts = some (.bool true)
  | [], _ => rfl
  | [b], h => by have := h b (by simp); subst this; rfl
  | b :: c :: bs, h => by
    have := h b (by simp)
    subst this
    exact andO_eq (c :: bs) fun u hu => h u (by simp [hu])

def inB (n : Int) (l : List Int) : Bool := l.all fun x => decide (-n ≤ x) && decide (x ≤ n)

theorem range_eq (n : Int) : ∀ (l : List Int), nth (chainL (rangeT n l) [0]) 0 = bif inB n l then 0 else 4
  | [] => rfl
  | a :: l => by
    have ih := range_eq n l
    unfold inB at ih ⊢
    simp only [rangeT, List.all_cons]
    by_cases h1 : a < -n
    · have : decide (-n ≤ a) = false := by simp; omega
      simp [chainL, h1, this, nth]
    · by_cases h2 : a > n
      · have : decide (a ≤ n) = false := by simp; omega
        simp [chainL, h1, h2, this, nth]
      · have e1 : decide (-n ≤ a) = true := by simp; omega
        have e2 : decide (a ≤ n) = true := by simp; omega
        simp only [chainL, h1, h2, decide_false, e1, e2, Bool.true_and]
        exact ih

theorem within_eq (a b c n : Int) (h0 : 0 ≤ n) (h1 : n ≤ 9223372036854775807) : withinR a b c n = bif inB n [a, b, c] then 0 else 4 := by
  have : withinT a b c n = rangeT n [a, b, c] := by
    unfold withinT
    rw [show W (0 - n) = -n from by rw [W_id (by omega) (by omega)]; omega]
    rfl
  unfold withinR
  rw [this, range_eq]

theorem mat_eq (a b c d e f g h i : Int) : matR a b c d e f g h i = bif inB 1000 [a, b, c, d, e, f, g, h, i] then 0 else 4 := range_eq 1000 _
theorem col_eq (x y z : Int) : colR x y z = bif inB 2147483648 [x, y, z] then 0 else 4 := range_eq _ _

theorem chk_eq (a b c d e f g h i : Int) : chk a b c d e f g h i = bif inB 1000 [a, b, c, d, e, f, g, h, i] then 0 else 4 := by
  have hs : inB 1000 [a, b, c, d, e, f, g, h, i] = (inB 1000 [a, b, c] && (inB 1000 [d, e, f] && inB 1000 [g, h, i])) := by
    unfold inB; simp only [List.all_cons, List.all_nil, Bool.and_true]
    simp only [Bool.and_assoc]
  rw [hs]
  unfold chk checkT
  rw [within_eq a b c 1000 (by omega) (by omega), within_eq d e f 1000 (by omega) (by omega), within_eq g h i 1000 (by omega) (by omega)]
  cases inB 1000 [a, b, c] <;> cases inB 1000 [d, e, f] <;> cases inB 1000 [g, h, i] <;> rfl

theorem both_eq (a b c d e f g h i x y z : Int) : both a b c d e f g h i x y z = bif inB 1000 [a, b, c, d, e, f, g, h, i] && inB 2147483648 [x, y, z] then 0 else 4 := by
  unfold both bothT
  rw [chk_eq, within_eq x y z 2147483648 (by omega) (by omega)]
  cases inB 1000 [a, b, c, d, e, f, g, h, i] <;> cases inB 2147483648 [x, y, z] <;> rfl


theorem mulR_eq (a b c d e f g h i j k l m n o p q r : Int) : mulR a b c d e f g h i j k l m n o p q r = bif inB 1000 [a, b, c, d, e, f, g, h, i] && inB 1000 [j, k, l, m, n, o, p, q, r] then mulD a b c d e f g h i j k l m n o p q r else zeros9 4 := by
  unfold mulR mulT
  rw [chk_eq, chk_eq]
  cases inB 1000 [a, b, c, d, e, f, g, h, i] <;> cases inB 1000 [j, k, l, m, n, o, p, q, r] <;> rfl
theorem applyR_eq (a b c d e f g h i x y z : Int) : applyR a b c d e f g h i x y z = bif inB 1000 [a, b, c, d, e, f, g, h, i] && inB 2147483648 [x, y, z] then applyD a b c d e f g h i x y z else [0, 0, 0, 4] := by
  unfold applyR applyT
  rw [both_eq]
  cases inB 1000 [a, b, c, d, e, f, g, h, i] <;> cases inB 2147483648 [x, y, z] <;> rfl
theorem leftR_eq (a b c d e f g h i x y z : Int) : leftR a b c d e f g h i x y z = bif inB 1000 [a, b, c, d, e, f, g, h, i] && inB 2147483648 [x, y, z] then leftD a b c d e f g h i x y z else [0, 0, 0, 4] := by
  unfold leftR applyT
  rw [both_eq]
  cases inB 1000 [a, b, c, d, e, f, g, h, i] <;> cases inB 2147483648 [x, y, z] <;> rfl
theorem transR_eq (a b c d e f g h i : Int) : transR a b c d e f g h i = bif inB 1000 [a, b, c, d, e, f, g, h, i] then [a, d, g, b, e, h, c, f, i, 0] else zeros9 4 := by
  unfold transR err9T
  rw [chk_eq]
  cases inB 1000 [a, b, c, d, e, f, g, h, i] <;> rfl
theorem detE_eq (a b c d e f g h i : Int) : detE a b c d e f g h i = bif inB 1000 [a, b, c, d, e, f, g, h, i] then [detR a b c d e f g h i, 0] else [0, 4] := by
  unfold detE err1T
  rw [chk_eq]
  cases inB 1000 [a, b, c, d, e, f, g, h, i] <;> rfl
theorem traceE_eq (a b c d e f g h i : Int) : traceE a b c d e f g h i = bif inB 1000 [a, b, c, d, e, f, g, h, i] then [W (W (a + e) + i), 0] else [0, 4] := by
  unfold traceE err1T
  rw [chk_eq]
  cases inB 1000 [a, b, c, d, e, f, g, h, i] <;> rfl
theorem adjE_eq (a b c d e f g h i : Int) : adjE a b c d e f g h i = bif inB 1000 [a, b, c, d, e, f, g, h, i] then cofL a b c d e f g h i ++ [0] else zeros9 4 := by
  unfold adjE err9T
  rw [chk_eq]
  cases inB 1000 [a, b, c, d, e, f, g, h, i] <;> rfl

/-! The document's sums. -/
def rdot (a b c d e f : Int) : Int := W (W (W (0 + W (a * d)) + W (b * e)) + W (c * f))
theorem rdot_eq (a b c d e f : Int) : rdot a b c d e f = dotR a b c d e f := by
  unfold rdot dotR
  rw [Int.zero_add, W_W]
def det (a b c d e f g h i : Int) : Int := a * (e * i - f * h) + b * (f * g - d * i) + c * (d * h - e * g)
theorem detR_eq (a b c d e f g h i : Int) : detR a b c d e f g h i = W (det a b c d e f g h i) := by
  unfold detR minR det
  simp only [W_addl, W_addr, W_subl, W_subr, W_mulr]
theorem rdet_eq (a b c d e f g h i : Int) : rdet a b c d e f g h i = W (det a b c d e f g h i) := by
  unfold rdet det
  simp only [W_addl, W_addr, W_subl, W_subr, W_mull, Int.zero_add, W_W]
  congr 1
  grind

theorem eq3_refl (a b c : Int) : eq3 a b c a b c = true := by simp [eq3]
theorem eq9_refl (a b c d e f g h i : Int) : eq9 a b c d e f g h i a b c d e f g h i = true := by simp [eq9, eq3_refl]

end Go.Proofs.Ytjpfnfckpgilgaa.Vx


namespace Go.Proofs.Ytjpfnfckpgilgaa.Vx
open Go

theorem bd_mul {m n x y : Int} (hx : -m ≤ x ∧ x ≤ m) (hy : -n ≤ y ∧ y ≤ n) : -(m * n) ≤ x * y ∧ x * y ≤ m * n := by
  have h1 := Int.mul_nonneg (show 0 ≤ m - x by omega) (show 0 ≤ n + y by omega)
  have h2 := Int.mul_nonneg (show 0 ≤ m + x by omega) (show 0 ≤ n - y by omega)
  have h3 := Int.mul_nonneg (show 0 ≤ m - x by omega) (show 0 ≤ n - y by omega)
  have h4 := Int.mul_nonneg (show 0 ≤ m + x by omega) (show 0 ≤ n + y by omega)
  have e1 : (m - x) * (n + y) + (m + x) * (n - y) = 2 * (m * n) - 2 * (x * y) := by grind
  have e2 : (m - x) * (n - y) + (m + x) * (n + y) = 2 * (m * n) + 2 * (x * y) := by grind
  omega

theorem tmod_bd (x n : Int) (hn : 0 < n) : -(n - 1) ≤ Int.tmod x n ∧ Int.tmod x n ≤ n - 1 := by
  have h1 := Int.tmod_lt_of_pos x hn
  have h2 := Int.tmod_lt_of_pos (-x) hn
  rw [Int.neg_tmod] at h2
  omega

theorem inB_iff {n : Int} {l : List Int} : inB n l = true ↔ ∀ x ∈ l, -n ≤ x ∧ x ≤ n := by
  unfold inB
  simp [List.all_eq_true]

theorem dotR_W (a b c d e f : Int) : dotR a b c d e f = W (a * d + b * e + c * f) := by
  unfold dotR
  simp only [W_addl, W_addr]
theorem minR_W (a b c d : Int) : minR a b c d = W (a * b - c * d) := by
  unfold minR
  simp only [W_subl, W_subr]

theorem dotR_bd {m n a b c d e f : Int} (ha : -m ≤ a ∧ a ≤ m) (hb : -m ≤ b ∧ b ≤ m) (hc : -m ≤ c ∧ c ≤ m) (hd : -n ≤ d ∧ d ≤ n) (he : -n ≤ e ∧ e ≤ n) (hf : -n ≤ f ∧ f ≤ n) (h : 3 * (m * n) ≤ 9223372036854775807) :
    dotR a b c d e f = a * d + b * e + c * f ∧ -(3 * (m * n)) ≤ dotR a b c d e f ∧ dotR a b c d e f ≤ 3 * (m * n) := by
  have h1 := bd_mul ha hd
  have h2 := bd_mul hb he
  have h3 := bd_mul hc hf
  rw [dotR_W]
  have : W (a * d + b * e + c * f) = a * d + b * e + c * f := W_id (by omega) (by omega)
  rw [this]
  exact ⟨rfl, by omega, by omega⟩
theorem minR_bd {m a b c d : Int} (ha : -m ≤ a ∧ a ≤ m) (hb : -m ≤ b ∧ b ≤ m) (hc : -m ≤ c ∧ c ≤ m) (hd : -m ≤ d ∧ d ≤ m) (h : 2 * (m * m) ≤ 9223372036854775807) :
    minR a b c d = a * b - c * d ∧ -(2 * (m * m)) ≤ minR a b c d ∧ minR a b c d ≤ 2 * (m * m) := by
  have h1 := bd_mul ha hb
  have h2 := bd_mul hc hd
  rw [minR_W]
  have : W (a * b - c * d) = a * b - c * d := W_id (by omega) (by omega)
  rw [this]
  exact ⟨rfl, by omega, by omega⟩

theorem inB_mono {m n : Int} (h : m ≤ n) {l : List Int} (hl : inB m l = true) : inB n l = true := by
  rw [inB_iff] at hl ⊢
  intro x hx
  have := hl x hx
  omega

theorem det_mul (a b c d e f g h i j k l m n o p q r : Int) :
    det (a * j + b * m + c * p) (a * k + b * n + c * q) (a * l + b * o + c * r) (d * j + e * m + f * p) (d * k + e * n + f * q) (d * l + e * o + f * r) (g * j + h * m + i * p) (g * k + h * n + i * q) (g * l + h * o + i * r) = det a b c d e f g h i * det j k l m n o p q r := by
  unfold det; grind

theorem W_cadd {x x' y y' : Int} (h1 : W x = W x') (h2 : W y = W y') : W (x + y) = W (x' + y') := by
  rw [← W_addl, ← W_addr, h1, h2, W_addr, W_addl]
theorem W_csub {x x' y y' : Int} (h1 : W x = W x') (h2 : W y = W y') : W (x - y) = W (x' - y') := by
  rw [← W_subl, ← W_subr, h1, h2, W_subr, W_subl]
theorem W_cmul {x x' y y' : Int} (h1 : W x = W x') (h2 : W y = W y') : W (x * y) = W (x' * y') := by
  rw [← W_mull, ← W_mulr, h1, h2, W_mulr, W_mull]
/-- Entries that wrap to the same have determinants that do. -/
theorem W_det {a b c d e f g h i a' b' c' d' e' f' g' h' i' : Int} (ha : W a = W a') (hb : W b = W b') (hc : W c = W c') (hd : W d = W d') (he : W e = W e') (hf : W f = W f') (hg : W g = W g') (hh : W h = W h') (hi : W i = W i') :
    W (det a b c d e f g h i) = W (det a' b' c' d' e' f' g' h' i') :=
  W_cadd (W_cadd (W_cmul ha (W_csub (W_cmul he hi) (W_cmul hf hh))) (W_cmul hb (W_csub (W_cmul hf hg) (W_cmul hd hi)))) (W_cmul hc (W_csub (W_cmul hd hh) (W_cmul he hg)))

end Go.Proofs.Ytjpfnfckpgilgaa.Vx


namespace Go.Proofs.Ytjpfnfckpgilgaa.Vx
open Go

structure O3 where
  (r : M3) (t : V3)
structure P3 where
  (m : Int) (x : V3)
def O3.zero : O3 := ⟨M3.zero, V3.zero⟩
def P3.zero : P3 := ⟨0, V3.zero⟩

/-! Values -/
def vI (n : Int) : Value := .int .i64 n
def vB (b : Bool) : Value := .bool b
def M3.v (m : M3) : Value := .agg #[.int .i64 m.a, .int .i64 m.b, .int .i64 m.c, .int .i64 m.d, .int .i64 m.e, .int .i64 m.f, .int .i64 m.g, .int .i64 m.h, .int .i64 m.i]
def V3.v (u : V3) : Value := .agg #[.int .i64 u.x, .int .i64 u.y, .int .i64 u.z]
def O3.v (o : O3) : Value := .agg #[.int .i64 o.r.a, .int .i64 o.r.b, .int .i64 o.r.c, .int .i64 o.r.d, .int .i64 o.r.e, .int .i64 o.r.f, .int .i64 o.r.g, .int .i64 o.r.h, .int .i64 o.r.i, .int .i64 o.t.x, .int .i64 o.t.y, .int .i64 o.t.z]
def P3.v (p : P3) : Value := .agg #[.int .i64 p.m, .int .i64 p.x.x, .int .i64 p.x.y, .int .i64 p.x.z]
def p2 (a b : Value) : Value := .tuple #[a, b]

/-! Comparisons, as the executor makes them -/
def M3.eqB (m n : M3) : Bool := eq9 m.a m.b m.c m.d m.e m.f m.g m.h m.i n.a n.b n.c n.d n.e n.f n.g n.h n.i
def V3.eqB (u v : V3) : Bool := eq3 u.x u.y u.z v.x v.y v.z
def O3.eqB (o p : O3) : Bool := o.r.eqB p.r && (o.t.eqB p.t && true)
def P3.eqB (p q : P3) : Bool := (p.m == q.m) && (p.x.eqB q.x && true)
theorem M3.eqB_iff {m n : M3} : m.eqB n = true ↔ m = n := by
  cases m; cases n
  simp only [M3.eqB, eq9, eq3, Bool.and_eq_true, beq_iff_eq, M3.mk.injEq, and_true, and_assoc]
theorem V3.eqB_iff {m n : V3} : m.eqB n = true ↔ m = n := by
  cases m; cases n
  simp only [V3.eqB, eq3, Bool.and_eq_true, beq_iff_eq, V3.mk.injEq, and_true]
theorem O3.eqB_iff {m n : O3} : m.eqB n = true ↔ m = n := by
  cases m; cases n
  simp only [O3.eqB, Bool.and_eq_true, M3.eqB_iff, V3.eqB_iff, O3.mk.injEq, and_true]
theorem P3.eqB_iff {m n : P3} : m.eqB n = true ↔ m = n := by
  cases m; cases n
  simp only [P3.eqB, Bool.and_eq_true, V3.eqB_iff, P3.mk.injEq, and_true, beq_iff_eq]
theorem M3.eqB_refl (m : M3) : m.eqB m = true := M3.eqB_iff.2 rfl
theorem V3.eqB_refl (m : V3) : m.eqB m = true := V3.eqB_iff.2 rfl
theorem O3.eqB_refl (m : O3) : m.eqB m = true := O3.eqB_iff.2 rfl
theorem P3.eqB_refl (m : P3) : m.eqB m = true := P3.eqB_iff.2 rfl
theorem M3.eqB_false {m n : M3} : m.eqB n = false ↔ m ≠ n := by rw [Ne, ← M3.eqB_iff, Bool.not_eq_true]
theorem V3.eqB_false {m n : V3} : m.eqB n = false ↔ m ≠ n := by rw [Ne, ← V3.eqB_iff, Bool.not_eq_true]
theorem O3.eqB_false {m n : O3} : m.eqB n = false ↔ m ≠ n := by rw [Ne, ← O3.eqB_iff, Bool.not_eq_true]
theorem P3.eqB_false {m n : P3} : m.eqB n = false ↔ m ≠ n := by rw [Ne, ← P3.eqB_iff, Bool.not_eq_true]

/-! Bounds -/
def M3.l (m : M3) : List Int := [m.a, m.b, m.c, m.d, m.e, m.f, m.g, m.h, m.i]
def V3.l (m : V3) : List Int := [m.x, m.y, m.z]
def M3.ok (m : M3) : Bool := inB 1000 m.l
def V3.ok (v : V3) : Bool := inB 2147483648 v.l
def M3.Bd (n : Int) (m : M3) : Prop := (-n ≤ m.a ∧ m.a ≤ n) ∧ (-n ≤ m.b ∧ m.b ≤ n) ∧ (-n ≤ m.c ∧ m.c ≤ n) ∧ (-n ≤ m.d ∧ m.d ≤ n) ∧ (-n ≤ m.e ∧ m.e ≤ n) ∧ (-n ≤ m.f ∧ m.f ≤ n) ∧ (-n ≤ m.g ∧ m.g ≤ n) ∧ (-n ≤ m.h ∧ m.h ≤ n) ∧ (-n ≤ m.i ∧ m.i ≤ n)
def V3.Bd (n : Int) (m : V3) : Prop := (-n ≤ m.x ∧ m.x ≤ n) ∧ (-n ≤ m.y ∧ m.y ≤ n) ∧ (-n ≤ m.z ∧ m.z ≤ n)
theorem M3.ok_iff {m : M3} : m.ok = true ↔ m.Bd 1000 := by
  unfold M3.ok M3.l M3.Bd
  rw [inB_iff]
  simp only [List.mem_cons, List.not_mem_nil, or_false, forall_eq_or_imp, forall_eq]
theorem V3.ok_iff {m : V3} : m.ok = true ↔ m.Bd 2147483648 := by
  unfold V3.ok V3.l V3.Bd
  rw [inB_iff]
  simp only [List.mem_cons, List.not_mem_nil, or_false, forall_eq_or_imp, forall_eq]
theorem M3.Bd.mono {m : M3} {k n : Int} (h : m.Bd k) (hk : k ≤ n) : m.Bd n := by unfold M3.Bd at *; omega
theorem V3.Bd.mono {m : V3} {k n : Int} (h : m.Bd k) (hk : k ≤ n) : m.Bd n := by unfold V3.Bd at *; omega
/-- Products of three with three. -/
theorem dot_bd {m n a b c d e f : Int} (ha : -m ≤ a ∧ a ≤ m) (hb : -m ≤ b ∧ b ≤ m) (hc : -m ≤ c ∧ c ≤ m) (hd : -n ≤ d ∧ d ≤ n) (he : -n ≤ e ∧ e ≤ n) (hf : -n ≤ f ∧ f ≤ n) :
    -(3 * (m * n)) ≤ a * d + b * e + c * f ∧ a * d + b * e + c * f ≤ 3 * (m * n) := by
  have h1 := bd_mul ha hd
  have h2 := bd_mul hb he
  have h3 := bd_mul hc hf
  omega
theorem min_bd {m n a b c d : Int} (ha : -m ≤ a ∧ a ≤ m) (hb : -n ≤ b ∧ b ≤ n) (hc : -m ≤ c ∧ c ≤ m) (hd : -n ≤ d ∧ d ≤ n) :
    -(2 * (m * n)) ≤ a * b - c * d ∧ a * b - c * d ≤ 2 * (m * n) := by
  have h1 := bd_mul ha hb
  have h2 := bd_mul hc hd
  omega
theorem M3.Bd.mul {m n : M3} {k l : Int} (hm : m.Bd k) (hn : n.Bd l) : (m.mul n).Bd (3 * (k * l)) := by
  obtain ⟨a, b, c, d, e, f, g, h, i⟩ := hm
  obtain ⟨a', b', c', d', e', f', g', h', i'⟩ := hn
  exact ⟨dot_bd a b c a' d' g', dot_bd a b c b' e' h', dot_bd a b c c' f' i', dot_bd d e f a' d' g', dot_bd d e f b' e' h', dot_bd d e f c' f' i', dot_bd g h i a' d' g', dot_bd g h i b' e' h', dot_bd g h i c' f' i'⟩
theorem M3.Bd.app {m : M3} {v : V3} {k l : Int} (hm : m.Bd k) (hn : v.Bd l) : (m.app v).Bd (3 * (k * l)) := by
  obtain ⟨a, b, c, d, e, f, g, h, i⟩ := hm
  obtain ⟨x, y, z⟩ := hn
  exact ⟨dot_bd a b c x y z, dot_bd d e f x y z, dot_bd g h i x y z⟩
theorem M3.Bd.adj {m : M3} {k : Int} (hm : m.Bd k) : m.adj.Bd (2 * (k * k)) := by
  obtain ⟨a, b, c, d, e, f, g, h, i⟩ := hm
  exact ⟨min_bd e i f h, min_bd h c i b, min_bd b f c e, min_bd f g d i, min_bd i a g c, min_bd c d a f, min_bd d h e g, min_bd g b h a, min_bd a e b d⟩
theorem M3.Bd.det {m : M3} {k : Int} (hm : m.Bd k) : -(3 * (k * (2 * (k * k)))) ≤ m.det ∧ m.det ≤ 3 * (k * (2 * (k * k))) := by
  obtain ⟨a, b, c, d, e, f, g, h, i⟩ := hm
  exact dot_bd a b c (min_bd e i f h) (min_bd f g d i) (min_bd d h e g)
theorem M3.Bd.inv {m : M3} {k : Int} (hm : m.Bd k) (hu : m.U) : m.inv.Bd (2 * (k * k)) := by
  have h := hm.adj
  unfold M3.Bd M3.inv M3.smul at *
  simp only
  rcases hu with e | e <;> rw [e] <;> omega

/-- A number wrapped round that lies within. -/
theorem W_in {n : Int} (h : -9000000000000000000 ≤ n ∧ n ≤ 9000000000000000000) : W n = n := W_id (by omega) (by omega)

/-! vec -/
def M3.ck (m : M3) : Int := bif m.ok then 0 else 4
theorem chk_ck (m : M3) : chk m.a m.b m.c m.d m.e m.f m.g m.h m.i = m.ck := chk_eq _ _ _ _ _ _ _ _ _
def unitB (d : Int) : Bool := d == 1 || d == -1
theorem unitB_iff {d : Int} : unitB d = true ↔ (d = 1 ∨ d = -1) := by simp [unitB]
/-- What keeps a matrix from being in form. -/
def M3.form (m : M3) : Int := bif m.ok then (bif unitB m.det then 0 else 3) else 4
theorem M3.form_zero {m : M3} : m.form = 0 ↔ m.ok = true ∧ m.U := by
  unfold M3.form M3.U
  rw [← unitB_iff]
  cases m.ok <;> cases unitB m.det <;> simp

def tWithin (v : V3) (n : Int) : Option Value := chainO mk1 (withinT v.x v.y v.z n) [0]
def fWithin (v : V3) (n : Int) : Value := vI (withinR v.x v.y v.z n)
theorem tWithin_eq (v : V3) (n : Int) : tWithin v n = some (fWithin v n) := by
  unfold tWithin fWithin
  rw [chain_eq]; rfl
def tCheck (m : M3) : Option Value := chainO mk1 (checkT m.a m.b m.c m.d m.e m.f m.g m.h m.i) [0]
def fCheck (m : M3) : Value := vI m.ck
theorem tCheck_eq (m : M3) : tCheck m = some (fCheck m) := by
  unfold tCheck fCheck
  rw [chain_eq, ← chk_ck]; rfl
def tBoth (m : M3) (v : V3) : Option Value := chainO mk1 [(m.ck != 0, [m.ck])] [withinR v.x v.y v.z 2147483648]
def fBoth (m : M3) (v : V3) : Value := vI (bif m.ok && v.ok then 0 else 4)
theorem tBoth_eq (m : M3) (v : V3) : tBoth m v = some (fBoth m v) := by
  unfold tBoth fBoth
  rw [chain_eq, within_eq _ _ _ _ (by omega) (by omega)]
  change some (mk1 (chainL [(m.ck != 0, [m.ck])] [bif v.ok then 0 else 4])) = _
  unfold M3.ck
  cases m.ok <;> cases v.ok <;> rfl
def prodW (m n : M3) : List Int := prodL m.a m.b m.c m.d m.e m.f m.g m.h m.i n.a n.b n.c n.d n.e n.f n.g n.h n.i
theorem dotR_in {a b c d e f : Int} (h : -9000000000000000000 ≤ a * d + b * e + c * f ∧ a * d + b * e + c * f ≤ 9000000000000000000) : dotR a b c d e f = a * d + b * e + c * f := by rw [dotR_W, W_in h]
theorem prodW_eq {m n : M3} (h : (m.mul n).Bd 9000000000000000000) : prodW m n = (m.mul n).l := by
  obtain ⟨h0, h1, h2, h3, h4, h5, h6, h7, h8⟩ := h
  simp only [prodW, prodL, M3.l]
  rw [dotR_in h0, dotR_in h1, dotR_in h2, dotR_in h3, dotR_in h4, dotR_in h5, dotR_in h6, dotR_in h7, dotR_in h8]
  rfl
def tMul (m n : M3) : Option Value := chainO mkMe [(m.ck != 0, zeros9 m.ck), (n.ck != 0, zeros9 n.ck)] (prodW m n ++ [0])
def M3.mulF (m n : M3) : M3 := bif m.ok && n.ok then m.mul n else M3.zero
def fMul (m n : M3) : Value := p2 (m.mulF n).v (vI (bif m.ok && n.ok then 0 else 4))
theorem tMul_eq (m n : M3) : tMul m n = some (fMul m n) := by
  unfold tMul fMul M3.mulF
  rw [chain_eq]
  unfold M3.ck
  cases h1 : m.ok <;> cases h2 : n.ok <;> simp only [cond_true, cond_false, Bool.and_true, Bool.and_false, chainL, bne_self_eq_false]
  · rfl
  · rfl
  · rfl
  · rw [prodW_eq (((M3.ok_iff.1 h1).mul (M3.ok_iff.1 h2)).mono (by omega))]; rfl
def appW (m : M3) (v : V3) : List Int := [dotR m.a m.b m.c v.x v.y v.z, dotR m.d m.e m.f v.x v.y v.z, dotR m.g m.h m.i v.x v.y v.z]
theorem appW_eq {m : M3} {v : V3} (h : (m.app v).Bd 9000000000000000000) : appW m v = (m.app v).l := by
  obtain ⟨h0, h1, h2⟩ := h
  simp only [appW, V3.l]
  rw [dotR_in h0, dotR_in h1, dotR_in h2]
  rfl
def tApply (m : M3) (v : V3) : Option Value := chainO mkVe [((bif m.ok && v.ok then 0 else 4 : Int) != 0, [0, 0, 0, bif m.ok && v.ok then 0 else 4])] (appW m v ++ [0])
def M3.appF (m : M3) (v : V3) : V3 := bif m.ok && v.ok then m.app v else V3.zero
def fApply (m : M3) (v : V3) : Value := p2 (m.appF v).v (vI (bif m.ok && v.ok then 0 else 4))
theorem tApply_eq (m : M3) (v : V3) : tApply m v = some (fApply m v) := by
  unfold tApply fApply M3.appF
  rw [chain_eq]
  cases h1 : m.ok <;> cases h2 : v.ok <;> simp only [cond_true, cond_false, Bool.and_true, Bool.and_false, chainL, bne_self_eq_false]
  · rfl
  · rfl
  · rfl
  · rw [appW_eq (((M3.ok_iff.1 h1).app (V3.ok_iff.1 h2)).mono (by omega))]; rfl
def detW (m : M3) : Int := detR m.a m.b m.c m.d m.e m.f m.g m.h m.i
theorem detW_W (m : M3) : detW m = W m.det := detR_eq _ _ _ _ _ _ _ _ _
theorem detW_eq {m : M3} (h : m.ok = true) : detW m = m.det := by
  rw [detW_W, W_in]
  have := (M3.ok_iff.1 h).det
  omega
def tDet (m : M3) : Option Value := chainO mkIe [(m.ck != 0, [0, m.ck])] [detW m, 0]
def fDet (m : M3) : Value := p2 (vI (bif m.ok then m.det else 0)) (vI m.ck)
theorem tDet_eq (m : M3) : tDet m = some (fDet m) := by
  unfold tDet fDet
  rw [chain_eq]
  unfold M3.ck
  cases h : m.ok
  · rfl
  · rw [detW_eq h]; rfl
def invW (m : M3) : List Int := invL m.a m.b m.c m.d m.e m.f m.g m.h m.i
theorem minR_in {a b c d : Int} (h : -9000000000000000000 ≤ a * b - c * d ∧ a * b - c * d ≤ 9000000000000000000) : minR a b c d = a * b - c * d := by rw [minR_W, W_in h]
theorem invW_eq {m : M3} (h : m.ok = true) (hu : m.U) : invW m = m.inv.l := by
  have hb := M3.ok_iff.1 h
  have hd : detR m.a m.b m.c m.d m.e m.f m.g m.h m.i = m.det := detW_eq h
  obtain ⟨h0, h1, h2, h3, h4, h5, h6, h7, h8⟩ := hb.adj.mono (show 2 * (1000 * 1000) ≤ 9000000000000000000 by omega)
  have hw := (hb.inv hu).mono (show 2 * (1000 * 1000) ≤ 9000000000000000000 by omega)
  obtain ⟨k0, k1, k2, k3, k4, k5, k6, k7, k8⟩ := hw
  simp only [invW, invL, hd]
  simp only [M3.adj] at h0 h1 h2 h3 h4 h5 h6 h7 h8
  rw [minR_in h0, minR_in h1, minR_in h2, minR_in h3, minR_in h4, minR_in h5, minR_in h6, minR_in h7, minR_in h8]
  simp only [M3.inv, M3.smul, M3.adj] at k0 k1 k2 k3 k4 k5 k6 k7 k8
  rw [W_in k0, W_in k1, W_in k2, W_in k3, W_in k4, W_in k5, W_in k6, W_in k7, W_in k8]
  rfl
def tInverse (m : M3) : Option Value :=
  match m.ck != 0 with
  | true => some (mkMe (zeros9 m.ck))
  | false => match detW m != 1 with
    | true => match detW m != -1 with
      | true => some (mkMe (zeros9 3))
      | false => some (mkMe (invW m ++ [0]))
    | false => some (mkMe (invW m ++ [0]))
def M3.invF (m : M3) : M3 := bif m.form == 0 then m.inv else M3.zero
def fInverse (m : M3) : Value := p2 m.invF.v (vI m.form)
theorem tInverse_eq (m : M3) : tInverse m = some (fInverse m) := by
  unfold tInverse fInverse M3.invF M3.form M3.ck
  cases h : m.ok
  · rfl
  · simp only [cond_true, bne_self_eq_false, detW_eq h]
    by_cases h1 : m.det = 1
    · rw [invW_eq h (Or.inl h1), h1]; rfl
    · by_cases h2 : m.det = -1
      · rw [invW_eq h (Or.inr h2), h2]; rfl
      · have e1 : (m.det != 1) = true := by simpa using h1
        have e2 : (m.det != -1) = true := by simpa using h2
        have e3 : unitB m.det = false := by simp [unitB, h1, h2]
        rw [e1, e2, e3]; rfl
/-- The first of 1, 2, 3, 4, 6 that makes a power the identity; 0: none. -/
def M3.ordI (m : M3) : Int :=
  bif m.eqB M3.one then 1 else bif (m.pow 2).eqB M3.one then 2 else bif (m.pow 3).eqB M3.one then 3 else bif (m.pow 4).eqB M3.one then 4 else bif (m.pow 6).eqB M3.one then 6 else 0
def lM (l : List Int) : M3 := ⟨nth l 0, nth l 1, nth l 2, nth l 3, nth l 4, nth l 5, nth l 6, nth l 7, nth l 8⟩
theorem lM_l (m : M3) : lM m.l = m := rfl
def tOrder (m : M3) : Option Value :=
  chainO mkIe [(m.form != 0, [0, m.form]), (m.eqB M3.one, [1, 0]), (m.eqB m.invF, [2, 0]), ((lM (prodW m m)).eqB m.invF, [3, 0]), ((lM (prodW m m)).eqB (lM (prodW m.invF m.invF)), [4, 0]),
    ((lM (prodW (lM (prodW m m)) (lM (prodW m m)))).eqB (lM (prodW m.invF m.invF)), [6, 0])] [0, 9]
def M3.ordF (m : M3) : Int := bif m.form == 0 then m.ordI else 0
def M3.ordE (m : M3) : Int := bif m.form == 0 then (bif m.ordI == 0 then 9 else 0) else m.form
def fOrder (m : M3) : Value := p2 (vI m.ordF) (vI m.ordE)
theorem beq_of_iff {p q : Bool} (h : p = true ↔ q = true) : p = q := by cases p <;> cases q <;> simp_all
theorem M3.pow2 (m : M3) : m.pow 2 = m.mul m := by simp only [M3.pow]; rw [M3.mul_one]
theorem M3.cancel_iff {m x y : M3} (h : m.U) : x = y ↔ m.mul x = m.mul y := ⟨fun e => by rw [e], M3.cancel_left h⟩
theorem tOrder_eq (m : M3) : tOrder m = some (fOrder m) := by
  unfold tOrder fOrder M3.ordF M3.ordE
  rw [chain_eq]
  by_cases hf : m.form = 0
  · obtain ⟨hok, hu⟩ := M3.form_zero.1 hf
    have hb := M3.ok_iff.1 hok
    have hi := hb.inv hu
    have e0 : m.invF = m.inv := by unfold M3.invF; rw [hf]; rfl
    have hmm := hb.mul hb
    have hii := hi.mul hi
    rw [e0, prodW_eq (hmm.mono (by omega)), prodW_eq (hii.mono (by omega)), lM_l, lM_l, prodW_eq ((hmm.mul hmm).mono (by omega)), lM_l, hf]
    have k2 : m.eqB m.inv = (m.pow 2).eqB M3.one := beq_of_iff (by rw [M3.eqB_iff, M3.eqB_iff, M3.pow2, M3.cancel_iff hu, M3.mul_inv hu])
    have k3 : (m.mul m).eqB m.inv = (m.pow 3).eqB M3.one := beq_of_iff (by
      rw [M3.eqB_iff, M3.eqB_iff, M3.cancel_iff hu, M3.mul_inv hu]; simp only [M3.pow]; rw [M3.mul_one])
    have k4 : (m.mul m).eqB (m.inv.mul m.inv) = (m.pow 4).eqB M3.one := beq_of_iff (by
      rw [M3.eqB_iff, M3.eqB_iff, M3.cancel_iff hu, ← M3.mul_assoc m m.inv, M3.mul_inv hu, M3.one_mul, M3.cancel_iff hu, M3.mul_inv hu]; simp only [M3.pow]; rw [M3.mul_one])
    have k6 : ((m.mul m).mul (m.mul m)).eqB (m.inv.mul m.inv) = (m.pow 6).eqB M3.one := beq_of_iff (by
      rw [M3.eqB_iff, M3.eqB_iff, M3.cancel_iff hu, ← M3.mul_assoc m m.inv, M3.mul_inv hu, M3.one_mul, M3.cancel_iff hu, M3.mul_inv hu]; simp only [M3.pow]; rw [M3.mul_one, M3.mul_assoc m m])
    rw [k2, k3, k4, k6]
    unfold M3.ordI
    cases m.eqB M3.one <;> cases (m.pow 2).eqB M3.one <;> cases (m.pow 3).eqB M3.one <;> cases (m.pow 4).eqB M3.one <;> cases (m.pow 6).eqB M3.one <;> rfl
  · have e1 : (m.form != 0) = true := by simpa using hf
    have e2 : (m.form == 0) = false := by simpa using hf
    rw [e1, e2]; rfl
/-- What ordI tells. -/
theorem M3.ordI_spec {m : M3} (h : m.ordI ≠ 0) : ∃ n : Nat, m.ordI = n ∧ m.IsOrd n ∧ (n = 1 ∨ n = 2 ∨ n = 3 ∨ n = 4 ∨ n = 6) := by
  unfold M3.ordI at h ⊢
  cases h1 : m.eqB M3.one with
  | true => exact ⟨1, rfl, M3.ord1 (M3.eqB_iff.1 h1), by omega⟩
  | false =>
    cases h2 : (m.pow 2).eqB M3.one with
    | true => exact ⟨2, rfl, M3.ord2 (M3.eqB_false.1 h1) (M3.eqB_iff.1 h2), by omega⟩
    | false =>
      cases h3 : (m.pow 3).eqB M3.one with
      | true => exact ⟨3, rfl, M3.ord3 (M3.eqB_false.1 h1) (M3.eqB_iff.1 h3), by omega⟩
      | false =>
        cases h4 : (m.pow 4).eqB M3.one with
        | true => exact ⟨4, rfl, M3.ord4 (M3.eqB_false.1 h1) (M3.eqB_false.1 h2) (M3.eqB_iff.1 h4), by omega⟩
        | false =>
          cases h6 : (m.pow 6).eqB M3.one with
          | true => exact ⟨6, rfl, M3.ord6 (M3.eqB_false.1 h1) (M3.eqB_false.1 h2) (M3.eqB_false.1 h3) (M3.eqB_iff.1 h6), by omega⟩
          | false => rw [h1, h2, h3, h4, h6] at h; exact absurd rfl h
theorem M3.ordI_of {m : M3} {n : Nat} (h : m.IsOrd n) (hn : n = 1 ∨ n = 2 ∨ n = 3 ∨ n = 4 ∨ n = 6) : m.ordI = n := by
  have key : ∀ k, (m.pow k).eqB M3.one = decide (n ∣ k) := fun k => beq_of_iff (by rw [M3.eqB_iff, h.dvd k]; simp)
  unfold M3.ordI
  have k1 : m.eqB M3.one = decide (n ∣ 1) := by rw [← key, M3.pow_one]
  rw [k1, key, key, key, key]
  rcases hn with rfl | rfl | rfl | rfl | rfl <;> rfl

/-! frac -/
def md (n m : Int) : Int := match decide (Int.tmod n m < 0) with
  | true => W (Int.tmod n m + m)
  | false => Int.tmod n m
theorem md_emod (n m : Int) (h0 : 0 < m) (h1 : m ≤ 1000) : md n m = n % m := by
  unfold md
  have h := Int.tmod_add_mul_tdiv n m
  have hb := tmod_bd n m h0
  have e2 : (n.tmod m) % m = n % m := by
    conv => rhs; rw [← h]
    rw [Int.add_mul_emod_self_left]
  by_cases hn : n.tmod m < 0
  · have : decide (n.tmod m < 0) = true := by simpa using hn
    rw [this]
    simp only
    rw [W_in (by omega), ← e2]
    have : (n.tmod m + m) % m = n.tmod m % m := Int.add_emod_right _ _
    rw [← this, Int.emod_eq_of_lt (by omega) (by omega)]
  · have : decide (n.tmod m < 0) = false := by simpa using hn
    rw [this]
    simp only
    rw [← e2, Int.emod_eq_of_lt (by omega) (by omega)]
/-- A number that is divided by: above 0, and not too great. -/
def modB (m : Int) : Bool := decide (0 < m) && decide (m ≤ 1000)
theorem modB_iff {m : Int} : modB m = true ↔ 0 < m ∧ m ≤ 1000 := by simp [modB]
def tResidue (n m : Int) : Option Value := match m == 0 with
  | true => none
  | false => match decide (Int.tmod n m < 0) with
    | true => some (.int .i64 (W (Int.tmod n m + m)))
    | false => some (.int .i64 (Int.tmod n m))
theorem tResidue_eq {n m : Int} (h : modB m = true) : tResidue n m = some (vI (n % m)) := by
  obtain ⟨h0, h1⟩ := modB_iff.1 h
  have e : (m == 0) = false := by simp; omega
  rw [← md_emod n m h0 h1]
  unfold tResidue md vI
  rw [e]
  cases decide (Int.tmod n m < 0) <;> rfl
def V3.a24 (u v : V3) : V3 := ⟨(u.x % 24 + v.x % 24) % 24, (u.y % 24 + v.y % 24) % 24, (u.z % 24 + v.z % 24) % 24⟩
theorem V3.a24_eq (u v : V3) : u.a24 v = (u.add v).md 24 := by
  unfold V3.a24 V3.add V3.md
  simp only [V3.mk.injEq]
  omega
theorem mod24_in (x y : Int) : W (x % 24 + y % 24) = x % 24 + y % 24 := W_in (by omega)
def tAdd (u v : V3) : Option Value := some (V3.v ⟨W (u.x % 24 + v.x % 24) % 24, W (u.y % 24 + v.y % 24) % 24, W (u.z % 24 + v.z % 24) % 24⟩)
def fAdd (u v : V3) : Value := ((u.add v).md 24).v
theorem tAdd_eq (u v : V3) : tAdd u v = some (fAdd u v) := by
  unfold tAdd fAdd
  rw [mod24_in, mod24_in, mod24_in, ← V3.a24_eq]; rfl
def tNeg (u : V3) : Option Value := some (V3.v ⟨W (0 - u.x % 24) % 24, W (0 - u.y % 24) % 24, W (0 - u.z % 24) % 24⟩)
def fNeg (u : V3) : Value := (u.neg.md 24).v
theorem tNeg_eq (u : V3) : tNeg u = some (fNeg u) := by
  unfold tNeg fNeg
  rw [W_in (by omega), W_in (by omega), W_in (by omega)]
  have : u.neg.md 24 = ⟨(0 - u.x % 24) % 24, (0 - u.y % 24) % 24, (0 - u.z % 24) % 24⟩ := by
    unfold V3.neg V3.md; simp only [V3.mk.injEq]; omega
  rw [this]
def V3.smul (n : Int) (u : V3) : V3 := ⟨n * u.x, n * u.y, n * u.z⟩
def tTimes (n : Int) (u : V3) : Option Value := some (V3.v ⟨W (n % 24 * (u.x % 24)) % 24, W (n % 24 * (u.y % 24)) % 24, W (n % 24 * (u.z % 24)) % 24⟩)
def fTimes (n : Int) (u : V3) : Value := ((u.smul n).md 24).v
theorem times_in (n x : Int) : W (n % 24 * (x % 24)) % 24 = n * x % 24 := by
  have h1 : 0 ≤ n % 24 ∧ n % 24 < 24 := by omega
  have h2 : 0 ≤ x % 24 ∧ x % 24 < 24 := by omega
  have := bd_mul (m := 24) (n := 24) (x := n % 24) (y := x % 24) (by omega) (by omega)
  rw [W_in (by omega), ← Int.mul_emod]
theorem tTimes_eq (n : Int) (u : V3) : tTimes n u = some (fTimes n u) := by
  unfold tTimes fTimes V3.smul V3.md
  rw [times_in, times_in, times_in]
def isF (m : Int) : Bool := (m == 24) || ((m == 48) || ((m == 96) || (m == 192)))
theorem isF_iff {m : Int} : isF m = true ↔ m = 24 ∨ m = 48 ∨ m = 96 ∨ m = 192 := by simp [isF]
theorem isF_modB {m : Int} (h : isF m = true) : modB m = true := by
  rw [modB_iff]; rcases isF_iff.1 h with rfl | rfl | rfl | rfl <;> omega
def tFine (m : Int) : Option Value := match m == 24 with
  | true => some (.bool true)
  | false => match m == 48 with
    | true => some (.bool true)
    | false => match m == 96 with
      | true => some (.bool true)
      | false => some (.bool (m == 192))
def fFine (m : Int) : Value := .bool (isF m)
theorem tFine_eq (m : Int) : tFine m = some (fFine m) := by
  unfold tFine fFine isF
  cases m == 24 <;> cases m == 48 <;> cases m == 96 <;> rfl
/-- Go on where this holds. -/
def onO (b : Bool) (k : Option Value) : Option Value := match b with
  | true => k
  | false => none
theorem onO_true {b : Bool} (h : b = true) (k : Option Value) : onO b k = k := by subst h; rfl
def P3.form (p : P3) : Bool := isF p.m && p.x.eqB (p.x.md p.m)
def tPForm (p : P3) : Option Value := match isF p.m with
  | true => onO (modB p.m) (onO (modB p.m) (onO (modB p.m) (some (.bool (p.x.eqB (p.x.md p.m))))))
  | false => some (.bool false)
def fPForm (p : P3) : Value := .bool p.form
theorem tPForm_eq (p : P3) : tPForm p = some (fPForm p) := by
  unfold tPForm fPForm P3.form
  cases h : isF p.m with
  | true => simp only [onO_true (isF_modB h), Bool.true_and]
  | false => rfl
theorem P3.form_spec {p : P3} (h : p.form = true) : (p.m = 24 ∨ p.m = 48 ∨ p.m = 96 ∨ p.m = 192) ∧ (0 ≤ p.x.x ∧ p.x.x < p.m) ∧ (0 ≤ p.x.y ∧ p.x.y < p.m) ∧ (0 ≤ p.x.z ∧ p.x.z < p.m) := by
  unfold P3.form at h
  rw [Bool.and_eq_true] at h
  have hm := isF_iff.1 h.1
  have hx := V3.eqB_iff.1 h.2
  refine ⟨hm, ?_⟩
  have e1 : p.x.x = p.x.x % p.m := congrArg V3.x hx
  have e2 : p.x.y = p.x.y % p.m := congrArg V3.y hx
  have e3 : p.x.z = p.x.z % p.m := congrArg V3.z hx
  rcases hm with e | e | e | e <;> rw [e] at e1 e2 e3 ⊢ <;> omega
def tPlace (m : Int) (v : V3) : Option Value := match !(isF m) with
  | true => some (p2 P3.zero.v (vI 1))
  | false => onO (modB m) (onO (modB m) (onO (modB m) (some (p2 (P3.v ⟨m, v.md m⟩) (vI 0)))))
def P3.place (m : Int) (v : V3) : P3 := bif isF m then ⟨m, v.md m⟩ else P3.zero
def fPlace (m : Int) (v : V3) : Value := p2 (P3.place m v).v (vI (bif isF m then 0 else 1))
theorem tPlace_eq (m : Int) (v : V3) : tPlace m v = some (fPlace m v) := by
  unfold tPlace fPlace P3.place
  cases h : isF m with
  | true => simp only [Bool.not_true, onO_true (isF_modB h), cond_true]
  | false => rfl
def shW (m x t : Int) : Int := W (x + W (t % 24 * W (Int.tdiv m 24))) % m
def tShift (p : P3) (t : V3) : Option Value := match !p.form with
  | true => some (p2 P3.zero.v (vI 3))
  | false => onO (modB p.m) (onO (modB p.m) (onO (modB p.m) (some (p2 (P3.v ⟨p.m, ⟨shW p.m p.x.x t.x, shW p.m p.x.y t.y, shW p.m p.x.z t.z⟩⟩) (vI 0)))))
def P3.shift (p : P3) (t : V3) : P3 := ⟨p.m, (p.x.add (t.smul (p.m / 24))).md p.m⟩
theorem smul_comm' (a b : Int) : b * a = a * b := Int.mul_comm _ _
def fShift (p : P3) (t : V3) : Value := p2 (bif p.form then p.shift t else P3.zero).v (vI (bif p.form then 0 else 3))
theorem shW_eq {m x : Int} (t : Int) (hm : m = 24 ∨ m = 48 ∨ m = 96 ∨ m = 192) (hx : 0 ≤ x ∧ x < m) : shW m x t = (x + m / 24 * t) % m := by
  unfold shW
  rcases hm with rfl | rfl | rfl | rfl
  · rw [show W (Int.tdiv 24 24) = 1 from rfl, W_in (n := t % 24 * 1) (by omega), W_in (by omega)]; omega
  · rw [show W (Int.tdiv 48 24) = 2 from rfl, W_in (n := t % 24 * 2) (by omega), W_in (by omega)]; omega
  · rw [show W (Int.tdiv 96 24) = 4 from rfl, W_in (n := t % 24 * 4) (by omega), W_in (by omega)]; omega
  · rw [show W (Int.tdiv 192 24) = 8 from rfl, W_in (n := t % 24 * 8) (by omega), W_in (by omega)]; omega
theorem tShift_eq (p : P3) (t : V3) : tShift p t = some (fShift p t) := by
  unfold tShift fShift
  cases h : p.form with
  | true =>
    obtain ⟨hm, h1, h2, h3⟩ := P3.form_spec h
    have hmod : modB p.m = true := modB_iff.2 (by omega)
    simp only [Bool.not_true, onO_true hmod, cond_true]
    rw [shW_eq _ hm h1, shW_eq _ hm h2, shW_eq _ hm h3]
    rfl
  | false => rfl
end Go.Proofs.Ytjpfnfckpgilgaa.Vx


namespace Go.Proofs.Ytjpfnfckpgilgaa.Vx
open Go

def ptrIs (v : Option Value) (b : Nat) : Bool := match v with
  | some (.pointer (some ⟨c, 0, none⟩)) => Nat.beq c b
  | _ => false
theorem ptrIs_spec {v : Option Value} {b : Nat} (h : ptrIs v b = true) : v = some (.pointer (some ⟨b, 0, none⟩)) := by
  unfold ptrIs at h
  split at h
  · rw [Nat.eq_of_beq_eq_true h]
  · cases h
def intAt (v : Option Value) : Option Int := match v with
  | some (.int .i64 n) => some n
  | _ => none
theorem intAt_spec {v : Option Value} {n : Int} (h : intAt v = some n) : v = some (.int .i64 n) := by
  unfold intAt at h
  split at h
  · simp only [Option.some.injEq] at h; rw [h]
  · cases h
def aggAt (v : Option Value) : List Value := match v with
  | some (.agg cs) => cs.toList
  | _ => []
theorem aggAt_spec {v : Option Value} {l : List Value} (h : aggAt v = l) (hl : l ≠ []) : v = some (.agg l.toArray) := by
  unfold aggAt at h
  split at h
  · rename_i cs; rw [← h]
  · exact absurd h.symm hl
def O3.cells (o : O3) : List Value := [.int .i64 o.r.a, .int .i64 o.r.b, .int .i64 o.r.c, .int .i64 o.r.d, .int .i64 o.r.e, .int .i64 o.r.f, .int .i64 o.r.g, .int .i64 o.r.h, .int .i64 o.r.i, .int .i64 o.t.x, .int .i64 o.t.y, .int .i64 o.t.z]
def V3.cells (o : V3) : List Value := [.int .i64 o.x, .int .i64 o.y, .int .i64 o.z]
def M3.cells (m : M3) : List Value := [.int .i64 m.a, .int .i64 m.b, .int .i64 m.c, .int .i64 m.d, .int .i64 m.e, .int .i64 m.f, .int .i64 m.g, .int .i64 m.h, .int .i64 m.i]
def i64s : List Value → Option (List Int)
  | [] => some []
  | .int .i64 n :: l => match i64s l with
    | some r => some (n :: r)
    | none => none
  | _ => none
theorem i64s_spec : ∀ {l : List Value} {r : List Int}, i64s l = some r → l = r.map (.int .i64)
  | [], r, h => by simp [i64s] at h; subst h; rfl
  | v :: l, r, h => by
    unfold i64s at h
    split at h
    · rename_i heq; cases heq
    · rename_i n l' heq
      simp only [List.cons.injEq] at heq
      obtain ⟨rfl, rfl⟩ := heq
      split at h
      · rename_i q hq
        simp only [Option.some.injEq] at h
        subst h
        rw [List.map_cons, ← i64s_spec hq]
      · cases h
    · cases h
def opCells (l : List Value) : Option O3 := match i64s l with
  | some [a, b, c, d, e, f, g, h, i, x, y, z] => some ⟨⟨a, b, c, d, e, f, g, h, i⟩, ⟨x, y, z⟩⟩
  | _ => none
theorem opCells_spec {l : List Value} {o : O3} (h : opCells l = some o) : l = o.cells := by
  unfold opCells at h
  split at h
  · rename_i hq
    simp only [Option.some.injEq] at h
    subst h
    rw [i64s_spec hq]; rfl
  · cases h
def vecCells (l : List Value) : Option V3 := match i64s l with
  | some [x, y, z] => some ⟨x, y, z⟩
  | _ => none
theorem vecCells_spec {l : List Value} {o : V3} (h : vecCells l = some o) : l = o.cells := by
  unfold vecCells at h
  split at h
  · rename_i hq
    simp only [Option.some.injEq] at h
    subst h
    rw [i64s_spec hq]; rfl
  · cases h
def matCells (l : List Value) : Option M3 := match i64s l with
  | some [a, b, c, d, e, f, g, h, i] => some ⟨a, b, c, d, e, f, g, h, i⟩
  | _ => none
theorem matCells_spec {l : List Value} {o : M3} (h : matCells l = some o) : l = o.cells := by
  unfold matCells at h
  split at h
  · rename_i hq
    simp only [Option.some.injEq] at h
    subst h
    rw [i64s_spec hq]; rfl
  · cases h
def ownCells : Option Blk → List Value
  | some (.cells true 0 c) => c
  | _ => []
theorem ownCells_spec {k : Option Blk} {c : List Value} (h : ownCells k = c) (hc : c ≠ []) : k = some (.cells true 0 c) := by
  unfold ownCells at h
  split at h
  · rw [h]
  · exact absurd h.symm hc
theorem mem_of {m : Mem} : ∀ {l : List Blk}, m.length = l.length → (∀ i, i < l.length → m[i]? = l[i]?) → m = l := by
  intro l hl h
  apply List.ext_getElem?
  intro i
  by_cases hi : i < l.length
  · exact h i hi
  · rw [List.getElem?_eq_none (by omega), List.getElem?_eq_none (by omega)]
end Go.Proofs.Ytjpfnfckpgilgaa.Vx
