/-
  Loops: slots that are told no more, blocks that are dropped, and the rule by which a loop is told. Nothing here is trusted.
-/
import Derived.Test.YtofblakbfmjgkaaKad

namespace Go.Proofs.Ytofblakbfmjgkaa.Vx
open Go Go.RowKit

def hasN (i : Nat) : List Nat → Bool
  | [] => false
  | j :: l => match Nat.beq j i with
    | true => true
    | false => hasN i l
/-- Only the listed slots are told on. -/
def keepL (live : List Nat) : Nat → List Value → List Value
  | _, [] => []
  | i, x :: l => match hasN i live with
    | true => x :: keepL live (i + 1) l
    | false => unk :: keepL live (i + 1) l
/-- Where a block of a state that is told anew is found: it bears the same number · a slot leads to it · a cell of a block does. -/
inductive From where
  | fix (n : Nat)
  | slot (t : Nat)
  | cell (b j : Nat)
  /-- as 'cell', if the block is none of the first so many -/
  | cellN (b j k : Nat)
def farOff : Nat := 1000000
def adrO (d : Nat) : Option Value → Nat
  | some v => match adrOf v with
    | some b => b
    | none => farOff + d
  | none => farOff + d
def From.get (st : St) : From → Nat
  | .fix n => n
  | .slot t => adrO (50000 + t) st.tmps[t]?
  | .cell b j => match st.mem[b]? with
    | some (.cells _ _ c) => adrO (100 * b + j) c[j]?
    | _ => farOff + (100 * b + j)
  | .cellN b j k => match st.mem[b]? with
    | some (.cells _ _ c) => match Nat.blt (adrO (100 * b + j) c[j]?) k with
      | true => farOff + (100 * b + j)
      | false => adrO (100 * b + j) c[j]?
    | _ => farOff + (100 * b + j)
def fixes : Nat → Nat → List From
  | _, 0 => []
  | i, n + 1 => .fix i :: fixes (i + 1) n
/-- The place of a number in a list. -/
def idxN (b : Nat) : List Nat → Nat → Option Nat
  | [], _ => none
  | k :: ks, i => match Nat.beq k b with
    | true => some i
    | false => idxN b ks (i + 1)
def ren0 (ks : List Nat) : Value → Value
  | .pointer (some a) => match idxN a.block ks 0 with
    | some i => .pointer (some ⟨i, a.off, a.spot⟩)
    | none => unk
  | .slice (some a) n e => match idxN a.block ks 0 with
    | some i => .slice (some ⟨i, a.off, a.spot⟩) n e
    | none => unk
  | .map (some b) => match idxN b ks 0 with
    | some i => .map (some i)
    | none => unk
  | v => v
def mapL (f : Value → Value) : List Value → List Value
  | [] => []
  | x :: l => f x :: mapL f l
def ren1 (ks : List Nat) : Value → Value
  | .agg cs => .agg (mapL (ren0 ks) cs.toList).toArray
  | v => ren0 ks v
def renV (ks : List Nat) : Value → Value
  | .tuple vs => .tuple (mapL (ren1 ks) vs.toList).toArray
  | v => ren1 ks v
def renB (ks : List Nat) : Blk → Blk
  | .cells own e c => .cells own e (mapL (ren0 ks) c)
  | .rows own pl e n row => match pl with
    | true => .rows own true e n row
    | false => .rows own false e n fun i => mapL (ren0 ks) (row i)
  | .grow pl e n row => match pl with
    | true => .grow true e n row
    | false => .grow false e n fun i => mapL (ren0 ks) (row i)
  | .view pl e n row => match pl with
    | true => .view true e n row
    | false => .view false e n fun i => mapL (ren0 ks) (row i)
  | b => b
def renM (ks : List Nat) (m : Mem) : List Nat → Mem
  | [] => []
  | b :: l => (match m[b]? with
    | some k => renB ks k
    | none => .no) :: renM ks m l
def noDup : List Nat → Bool
  | [] => true
  | k :: l => !hasN k l && noDup l
def idsTo (B : Nat) : Nat → List Nat → Bool
  | i, [] => Nat.ble B i
  | i, k :: l => match Nat.blt i B with
    | true => Nat.beq k i && idsTo B (i + 1) l
    | false => true
def keysOf (st : St) : List From → List Nat
  | [] => []
  | x :: l => x.get st :: keysOf st l
def forceN {β : Type} : List Nat → (List Nat → β) → β
  | [], k => k []
  | x :: xs, k => forceN xs fun ys => k (x :: ys)
theorem forceN_eq {β : Type} : ∀ (l : List Nat) (k : List Nat → β), forceN l k = k l
  | [], _ => rfl
  | x :: xs, k => by simp only [forceN]; rw [forceN_eq xs]
def cleanB (mask : List Nat) (sp : List From) (B : Nat) (es : Exit × St) : Ans (Exit × St) :=
  forceN (keysOf es.2 sp) fun ks => match noDup ks && idsTo B 0 ks with
    | true => forceL (mapL (renV ks) (keepL mask 0 es.2.tmps)) fun tm => forceM (renM ks es.2.mem ks) fun m => match allB noViewB m with
      | true => forceM (thaw m) fun m => .out (es.1, ⟨tm, m⟩)
      | false => .out (es.1, ⟨tm, m⟩)
    | false => .fail
/-- Behind a round that goes on, and behind one that leaves. -/
def cleanA (mask out : List Nat) (sp so : List From) (B : Nat) (es : Exit × St) : Ans (Exit × St) := match es.1 with
  | .normal => cleanB mask sp B es
  | _ => cleanB out so B (es.1, ⟨es.2.tmps, killV es.2.mem⟩)

theorem hasN_iff {i : Nat} : ∀ {l : List Nat}, hasN i l = true ↔ i ∈ l
  | [] => by simp [hasN]
  | j :: l => by
    simp only [hasN, List.mem_cons]
    cases hb : Nat.beq j i with
    | true => simp [Nat.eq_of_beq_eq_true hb]
    | false =>
      have : j ≠ i := fun e => by subst e; simp at hb
      simp only [hasN_iff]
      exact ⟨Or.inr, fun h => h.resolve_left fun e => this e.symm⟩
theorem keepL_rel {r : Ren} (live : List Nat) : ∀ (i : Nat) {l l' : List Value}, RL (R r) l l' → RL (R r) (keepL live i l) l'
  | _, [], [], _ => trivial
  | i, x :: l, y :: l', h => by
    simp only [keepL]
    cases hasN i live with
    | false => exact ⟨R_unk r y, keepL_rel live (i + 1) h.2⟩
    | true => exact ⟨h.1, keepL_rel live (i + 1) h.2⟩
  | _, [], _ :: _, h => h.elim
  | _, _ :: _, [], h => h.elim

/-! ## Blocks told by other numbers -/
def Ren.via (r : Ren) (ks : List Nat) : Ren := fun i => match ks[i]? with
  | some b => r b
  | none => none
theorem idxN_spec {b : Nat} : ∀ {ks : List Nat} {i j : Nat}, idxN b ks i = some j → i ≤ j ∧ ks[j - i]? = some b
  | [], i, j, h => by simp [idxN] at h
  | k :: ks, i, j, h => by
    simp only [idxN] at h
    split at h
    · rename_i hb
      simp only [Option.some.injEq] at h
      subst h
      exact ⟨Nat.le_refl _, by simp [Nat.eq_of_beq_eq_true hb]⟩
    · obtain ⟨h1, h2⟩ := idxN_spec h
      refine ⟨by omega, ?_⟩
      rw [show j - i = (j - (i + 1)) + 1 by omega, List.getElem?_cons_succ]
      exact h2
theorem via_idx {r : Ren} {ks : List Nat} {b i : Nat} (h : idxN b ks 0 = some i) : (r.via ks) i = r b := by
  have := (idxN_spec h).2
  simp only [Nat.sub_zero] at this
  simp [Ren.via, this]
theorem R0_via {r : Ren} {ks : List Nat} {v v' : Value} (h : R0 r v v') : R0 (r.via ks) (ren0 ks v) v' := by
  unfold R0 at h
  cases v with
  | pointer a => cases a with
    | none => exact h
    | some a =>
      simp only [ren0]
      split
      · rename_i i hi
        unfold R0
        simp only [via_idx (r := r) hi]
        exact h
      · exact R_unk (r.via ks) v'
  | slice a n c => cases a with
    | none => exact h
    | some a =>
      simp only [ren0]
      split
      · rename_i i hi
        unfold R0
        simp only [via_idx (r := r) hi]
        exact h
      · exact R_unk (r.via ks) v'
  | map a => cases a with
    | none => exact h
    | some a =>
      simp only [ren0]
      split
      · rename_i i hi
        unfold R0
        simp only [via_idx (r := r) hi]
        exact h
      · exact R_unk (r.via ks) v'
  | iface t u => cases u <;> exact h
  | _ => exact h
theorem RL_mapL {Q S : Value → Value → Prop} {f : Value → Value} (hq : ∀ v v', Q v v' → S (f v) v') : ∀ {l l' : List Value}, RL Q l l' → RL S (mapL f l) l'
  | [], [], _ => trivial
  | _ :: _, _ :: _, h => ⟨hq _ _ h.1, RL_mapL hq h.2⟩
  | [], _ :: _, h => h.elim
  | _ :: _, [], h => h.elim
theorem R1_via {r : Ren} {ks : List Nat} {v v' : Value} (h : R1 r v v') : R1 (r.via ks) (ren1 ks v) v' := by
  cases v with
  | agg cs => obtain ⟨cs', rfl, h⟩ := h; exact ⟨cs', rfl, by simpa using RL_mapL (f := ren0 ks) (fun _ _ h => R0_via h) h⟩
  | _ =>
    unfold R1 at h
    have := R0_via (ks := ks) h
    revert this
    simp only [ren1]
    generalize hz : ren0 ks _ = z
    intro this
    cases z with
    | agg cs =>
      exfalso
      unfold ren0 at hz
      split at hz
      · split at hz <;> simp [unk] at hz
      · split at hz <;> simp [unk] at hz
      · split at hz <;> simp [unk] at hz
      · simp at hz
    | _ => exact this
theorem R_via {r : Ren} {ks : List Nat} {v v' : Value} (h : R r v v') : R (r.via ks) (renV ks v) v' := by
  cases v with
  | tuple cs => obtain ⟨cs', rfl, h⟩ := h; exact ⟨cs', rfl, by simpa using RL_mapL (f := ren1 ks) (fun _ _ h => R1_via h) h⟩
  | agg cs => exact R1_via (ks := ks) (v := .agg cs) h
  | _ =>
    unfold R at h
    have := R1_via (ks := ks) h
    revert this
    simp only [renV]
    generalize hz : ren1 ks _ = z
    intro this
    cases z with
    | tuple cs =>
      exfalso
      unfold ren1 at hz
      split at hz
      · simp at hz
      · unfold ren0 at hz
        split at hz
        · split at hz <;> simp [unk] at hz
        · split at hz <;> simp [unk] at hz
        · split at hz <;> simp [unk] at hz
        · simp at hz
    | _ => exact this
theorem mapL_get {f : Value → Value} : ∀ {l : List Value} {i : Nat} {v : Value}, (mapL f l)[i]? = some v → ∃ u, l[i]? = some u ∧ v = f u
  | [], i, v, h => by simp [mapL] at h
  | x :: l, 0, v, h => by simp [mapL] at h; exact ⟨x, rfl, h.symm⟩
  | x :: l, i + 1, v, h => by simp only [mapL, List.getElem?_cons_succ] at h ⊢; exact mapL_get h
theorem mapL_length {f : Value → Value} : ∀ (l : List Value), (mapL f l).length = l.length
  | [] => rfl
  | x :: l => by simp [mapL, mapL_length l]
theorem CellsAt_via {r : Ren} {ks : List Nat} {cs : Array Value} {off : Nat} {c : List Value} (h : CellsAt r cs off c) : CellsAt (r.via ks) cs off (mapL (ren0 ks) c) := fun k v hk => by
  obtain ⟨u, hu, rfl⟩ := mapL_get hk
  obtain ⟨v', h1, h2⟩ := h k u hu
  exact ⟨v', h1, R0_via h2⟩
theorem plain_via {r : Ren} {ks : List Nat} {v v' : Value} (hp : plain0 v = true) (h : R0 r v v') : R0 (r.via ks) v v' := (R0_plain hp).2 ((R0_plain hp).1 h)
theorem rows_via {r : Ren} {ks : List Nat} {cs : Array Value} {off esz n : Nat} {row : Nat → List Value} (h5 : ∀ i, i < n → (row i).length = esz ∧ CellsAt r cs (off + i * esz) (row i)) :
    ((∀ i, i < n → allL plain0 (row i) = true) → ∀ i, i < n → (row i).length = esz ∧ CellsAt (r.via ks) cs (off + i * esz) (row i)) ∧ ∀ i, i < n → (mapL (ren0 ks) (row i)).length = esz ∧ CellsAt (r.via ks) cs (off + i * esz) (mapL (ren0 ks) (row i)) := by
  refine ⟨fun hp i hi => ⟨(h5 i hi).1, fun k v hk => ?_⟩, fun i hi => ⟨by rw [mapL_length]; exact (h5 i hi).1, CellsAt_via (h5 i hi).2⟩⟩
  obtain ⟨v', g1, g2⟩ := (h5 i hi).2 k v hk
  exact ⟨v', g1, plain_via (allL_iff.1 (hp i hi) v (List.mem_of_getElem? hk)) g2⟩
theorem BlkRel_via {w : World} {r : Ren} {ks : List Nat} {p : Place} {k : Blk} (h : BlkRel w r p k) : BlkRel w (r.via ks) p (renB ks k) := by
  cases k with
  | cells own esz c =>
    obtain ⟨h1, h2, cs, T, fz, h6, h3, h4, h5⟩ := h
    exact ⟨h1, h2, cs, T, fz, h6, h3, h4, CellsAt_via h5⟩
  | rows own pl esz n row =>
    obtain ⟨h1, h2, h0, hp, cs, T, fz, h6, h3, h4, h5⟩ := h
    cases pl with
    | true => exact ⟨h1, h2, h0, hp, cs, T, fz, h6, h3, h4, (rows_via h5).1 (hp rfl)⟩
    | false => exact ⟨h1, h2, h0, (fun h => by cases h), cs, T, fz, h6, h3, h4, (rows_via h5).2⟩
  | grow pl esz n row =>
    obtain ⟨h1, h2, h0, hp, cs, T, fz, h3, h4, h5⟩ := h
    cases pl with
    | true => exact ⟨h1, h2, h0, hp, cs, T, fz, h3, h4, (rows_via h5).1 (hp rfl)⟩
    | false => exact ⟨h1, h2, h0, (fun h => by cases h), cs, T, fz, h3, h4, (rows_via h5).2⟩
  | view pl esz n row =>
    obtain ⟨h1, h2, h0, hp, cs, T, fz, h3, h4, h5⟩ := h
    cases pl with
    | true => exact ⟨h1, h2, h0, hp, cs, T, fz, h3, h4, (rows_via h5).1 (hp rfl)⟩
    | false => exact ⟨h1, h2, h0, (fun h => by cases h), cs, T, fz, h3, h4, (rows_via h5).2⟩
  | _ => exact h
theorem renM_get {ks : List Nat} {m : Mem} : ∀ (l : List Nat) (i : Nat), (renM ks m l)[i]? = (l[i]?).map fun b => match m[b]? with
    | some k => renB ks k
    | none => .no
  | [], i => by simp [renM]
  | b :: l, 0 => by simp [renM]
  | b :: l, i + 1 => by simp only [renM, List.getElem?_cons_succ]; exact renM_get l i
theorem noDup_inj : ∀ {l : List Nat}, noDup l = true → ∀ {i j b : Nat}, l[i]? = some b → l[j]? = some b → i = j
  | [], _, i, j, b, h, _ => by simp at h
  | k :: l, hd, i, j, b, hi, hj => by
    simp only [noDup, Bool.and_eq_true, Bool.not_eq_true'] at hd
    have hn : k ∉ l := fun hm => by rw [hasN_iff.2 hm] at hd; cases hd.1
    cases i with
    | zero => cases j with
      | zero => rfl
      | succ j =>
        simp at hi hj
        subst hi
        exact absurd (List.mem_of_getElem? hj) hn
    | succ i => cases j with
      | zero =>
        simp at hi hj
        subst hj
        exact absurd (List.mem_of_getElem? hi) hn
      | succ j =>
        simp only [List.getElem?_cons_succ] at hi hj
        rw [noDup_inj hd.2 hi hj]
theorem renB_no {ks : List Nat} {k : Blk} : renB ks k = .no ↔ k = .no := by
  cases k with
  | rows own pl e n row => cases pl <;> simp [renB]
  | grow pl e n row => cases pl <;> simp [renB]
  | view pl e n row => cases pl <;> simp [renB]
  | _ => simp [renB]
theorem renB_grow {ks : List Nat} {k : Blk} (h : isGrow (some k)) : isGrow (some (renB ks k)) := by
  cases k with
  | grow pl e n row => cases pl <;> trivial
  | _ => exact h.elim
theorem MemRel_via {w0 : World} {keep : Keep} {r : Ren} {m : Mem} {w : World} {ks : List Nat} (h : MemRel w0 keep r m w) (hd : noDup ks = true) : MemRel w0 keep (r.via ks) (renM ks m ks) w := by
  have hv : ∀ {i : Nat} {q : Option Place}, (r.via ks) i = some q → ∃ b, ks[i]? = some b ∧ r b = some q := fun {i q} hq => by
    unfold Ren.via at hq
    split at hq
    · rename_i b hb; exact ⟨b, hb, hq⟩
    · cases hq
  refine ⟨h.os, h.tape, h.output, h.drawn, h.size, h.klt, h.kept, fun i hm => ?_, fun i hq => ?_, fun i p hq => ?_, fun i p hq => ?_, fun i p hq => ?_, fun i p hq => ?_, fun i j p q hi hj hp hz hq he => ?_, fun i j p q hi hj ho hq he => ?_⟩
  · unfold Ren.via
    cases hb : ks[i]? with
    | none => rfl
    | some b =>
      rw [renM_get, hb] at hm
      simp only [Option.map_some] at hm
      rcases hm with hm | hm
      · cases hm
      · simp only [Option.some.injEq] at hm
        cases hmb : m[b]? with
        | none => exact h.none b (Or.inl hmb)
        | some k =>
          rw [hmb] at hm
          exact h.none b (Or.inr (by rw [hmb, renB_no.1 hm]))
  · obtain ⟨b, hb, hr⟩ := hv hq
    rw [renM_get, hb]
    simp only [Option.map_some, h.dead b hr, renB]
  · obtain ⟨b, hb, hr⟩ := hv hq
    obtain ⟨k, h1, h2⟩ := h.blk b p hr
    refine ⟨renB ks k, ?_, BlkRel_via h2⟩
    rw [renM_get, hb]
    simp only [Option.map_some, h1]
  · obtain ⟨b, hb, hr⟩ := hv hq
    exact h.own b p hr
  · obtain ⟨b, hb, hr⟩ := hv hq
    exact h.read b p hr
  · obtain ⟨b, hb, hr⟩ := hv hq
    exact h.vw b p hr
  · obtain ⟨b, hb, hr⟩ := hv hi
    obtain ⟨c, hc, hs⟩ := hv hj
    obtain ⟨g1, g2⟩ := h.sep b c p q hr hs hp hz hq he
    rw [renM_get, hc]
    simp only [Option.map_some]
    cases hm : m[c]? with
    | none => rw [hm] at g1; exact g1.elim
    | some k => rw [hm] at g1; exact ⟨renB_grow g1, g2⟩
  · obtain ⟨b, hb, hr⟩ := hv hi
    obtain ⟨c, hc, hs⟩ := hv hj
    have := h.inj b c p q hr hs ho hq he
    subst this
    exact noDup_inj hd hb hc
theorem idsTo_spec {B : Nat} : ∀ {l : List Nat} {i b : Nat}, idsTo B i l = true → i ≤ b → b < B → l[b - i]? = some b
  | [], i, b, h, h1, h2 => by
    have := Nat.le_of_ble_eq_true h
    omega
  | k :: l, i, b, h, h1, h2 => by
    simp only [idsTo] at h
    rw [show Nat.blt i B = true by simp [Nat.blt_eq]; omega] at h
    simp only [Bool.and_eq_true] at h
    have hk : k = i := Nat.eq_of_beq_eq_true h.1
    by_cases hib : i = b
    · subst hib; subst hk; simp
    · have := idsTo_spec h.2 (show i + 1 ≤ b by omega) h2
      rw [show b - i = (b - (i + 1)) + 1 by omega, List.getElem?_cons_succ]
      exact this
theorem cleanB_rel {mask : List Nat} {sp : List From} {B : Nat} {e e' : Exit} {s s' : St} (h : (cleanB mask sp B (e, s)).res = some (e', s')) {w0 : World} {keep : Keep} {r0 : Ren} {a : Act} {w : World} (h0 : ∀ b, B ≤ b → r0 b = none) (hr : Rel w0 keep r0 s a w) : e' = e ∧ Rel w0 keep r0 s' a w := by
  unfold cleanB at h
  rw [forceN_eq] at h
  split at h
  · rename_i hb
    rw [Bool.and_eq_true] at hb
    rw [forceL_eq, forceM_eq] at h
    obtain ⟨r, hx, h1, h2, h3⟩ := hr
    have hext : Ext r0 (r.via (keysOf s sp)) := fun b => by
      by_cases hlt : b < B
      · have := idsTo_spec hb.2 (Nat.zero_le b) hlt
        simp only [Nat.sub_zero] at this
        have e1 : (r.via (keysOf s sp)) b = r b := by simp [Ren.via, this]
        rw [e1]
        exact hx b
      · exact Or.inl (h0 b (by omega))
    have hm := MemRel_via h3 hb.1
    have htm : RL (R (r.via (keysOf s sp))) (mapL (renV (keysOf s sp)) (keepL mask 0 s.tmps)) a.tmps.toList := RL_mapL (f := renV (keysOf s sp)) (fun _ _ h => R_via h) (keepL_rel mask 0 h2)
    split at h
    · rename_i hv
      rw [forceM_eq] at h
      simp only [Ans.res, Option.some.injEq, Prod.mk.injEq] at h
      obtain ⟨rfl, rfl⟩ := h
      exact ⟨rfl, r.via (keysOf s sp), hext, h1, htm, hm.thawed hv⟩
    · simp only [Ans.res, Option.some.injEq, Prod.mk.injEq] at h
      obtain ⟨rfl, rfl⟩ := h
      exact ⟨rfl, r.via (keysOf s sp), hext, h1, htm, hm⟩
  · simp [Ans.res] at h
theorem clean_rel {mask out : List Nat} {sp so : List From} {B : Nat} {e e' : Exit} {s s' : St} (h : (cleanA mask out sp so B (e, s)).res = some (e', s')) {w0 : World} {keep : Keep} {r0 : Ren} {a : Act} {w : World} (h0 : ∀ b, B ≤ b → r0 b = none) (hr : Rel w0 keep r0 s a w) : e' = e ∧ Rel w0 keep r0 s' a w := by
  unfold cleanA at h
  have hr2 : Rel w0 keep r0 ⟨s.tmps, killV s.mem⟩ a w := by
    obtain ⟨r, hx, h1, h2, h3⟩ := hr
    exact ⟨r.noV, hx.trans r.noV_ext, h1, RL.mono (fun _ _ => R.ext r.noV_ext) h2, h3.unview⟩
  cases e <;> first | exact cleanB_rel h h0 hr | exact cleanB_rel h h0 hr2

/-- One round. -/
def roundR (C : Cx) (n : Nat) (x : Code) (mask mout : List Nat) (sp so : List From) (st : St) : Option (Exit × St) := ((exCode n C x st).bind (cleanA mask mout sp so C.fb)).res
/-- A loop is told by its rounds: each leads on to a state of the same kind with less ahead of it, or out. -/
theorem loop_rule {C : Cx} (hC : CxOk C) {f : FuncId} {B : Nat} {x : Code} (hin : InBody (C.into f B) x) (n : Nat) (mask mout : List Nat) (sp so : List From) {σ : Type} (H : σ → St) (μ : σ → Nat) (Inv : σ → Prop) (out : σ → Exit × St)
    (hstep : ∀ g, Inv g → (∃ g', roundR (C.into f B) n x mask mout sp so (H g) = some (.normal, H g') ∧ Inv g' ∧ μ g' < μ g ∧ out g' = out g) ∨ (roundR (C.into f B) n x mask mout sp so (H g) = some (out g) ∧ (out g).1 ≠ .normal)) :
    ∀ g, Inv g → LoopSem C.P B x (H g) (out g).1 (out g).2 := by
  have leave : ∀ g, roundR (C.into f B) n x mask mout sp so (H g) = some (out g) → (out g).1 ≠ .normal → LoopSem C.P B x (H g) (out g).1 (out g).2 := by
    intro g h1 h2 Q w0 keep r0 a w hB hQ hr
    obtain ⟨⟨e1, s1⟩, h3, h4⟩ := Ans.bind_some h1
    refine LoopsTo.round ((exCode_sound hC n).1 f B x hin _ _ _ h3 _ w0 keep r0 a w hB ?_ hr)
    intro a' w' hr'
    obtain ⟨he, hs⟩ := clean_rel h4 hB hr'
    subst he
    revert h2 hQ hs
    cases (out g).1 <;> intro h2 hQ hs <;> first | exact absurd rfl h2 | exact hQ a' w' hs
  have key : ∀ k g, μ g ≤ k → Inv g → LoopSem C.P B x (H g) (out g).1 (out g).2 := by
    intro k
    induction k with
    | zero =>
      intro g hk hg
      rcases hstep g hg with ⟨g', _, _, hlt, _⟩ | ⟨h1, h2⟩
      · omega
      · exact leave g h1 h2
    | succ k ih =>
      intro g hk hg
      rcases hstep g hg with ⟨g', h1, hg', hlt, ho⟩ | ⟨h1, h2⟩
      · intro Q w0 keep r0 a w hB hQ hr
        obtain ⟨⟨e1, s1⟩, h3, h4⟩ := Ans.bind_some h1
        refine LoopsTo.round ((exCode_sound hC n).1 f B x hin _ _ _ h3 _ w0 keep r0 a w hB ?_ hr)
        intro a' w' hr'
        obtain ⟨he, hs⟩ := clean_rel h4 hB hr'
        subst he
        refine ih g' (by omega) hg' Q w0 keep r0 a' w' hB ?_ hs
        rw [ho]; exact hQ
      · exact leave g h1 h2
  exact fun g hg => key (μ g) g (Nat.le_refl _) hg

theorem loopsIn_trans : ∀ (b : Code) (x y : Code), x ∈ loopsIn b → y ∈ loopsIn x → y ∈ loopsIn b := by
  intro b
  induction b with
  | seq p q ihp ihq =>
    intro x y hx hy
    simp only [loopsIn, List.mem_append] at hx ⊢
    rcases hx with h | h
    · exact Or.inl (ihp x y h hy)
    · exact Or.inr (ihq x y h hy)
  | cond c p q ihp ihq =>
    intro x y hx hy
    simp only [loopsIn, List.mem_append] at hx ⊢
    rcases hx with h | h
    · exact Or.inl (ihp x y h hy)
    · exact Or.inr (ihq x y h hy)
  | block id p ih =>
    intro x y hx hy
    simp only [loopsIn] at hx ⊢
    exact ih x y hx hy
  | loop p ih =>
    intro x y hx hy
    simp only [loopsIn, List.mem_cons] at hx ⊢
    rcases hx with rfl | h
    · exact Or.inr hy
    · exact Or.inr (ih x y h hy)
  | _ => intro x y hx hy; simp [loopsIn] at hx
theorem loopsOf_in {C : Cx} {f k B : Nat} {x : Code} (h : loopsOf C.P f k = [x]) : InBody (C.into f B) x := by
  unfold loopsOf at h
  split at h
  · rename_i fn hf
    split at h
    · rename_i b hb
      have hx : x ∈ loopsIn b := (List.mem_filter.1 (show x ∈ (loopsIn b).filter fun x => Nat.beq (loopKey x) k by rw [h]; simp)).1
      exact Or.inl ⟨fn, b, hf, hb, fun y hy => loopsIn_trans b x y hx hy⟩
    · cases h
  · cases h
/-- What is told of a state of which less is known holds of the state. -/
theorem LoopSem.clean {P : Program} {B : Nat} {x : Code} {st s : St} {e : Exit} {mask : List Nat} (h : LoopSem P B x ⟨keepL mask 0 st.tmps, st.mem⟩ e s) : LoopSem P B x st e s := by
  intro Q w0 keep r0 a w hB hQ hr
  refine h Q w0 keep r0 a w hB hQ ?_
  obtain ⟨r, hx, h1, h2, h3⟩ := hr
  exact ⟨r, hx, h1, keepL_rel mask 0 h2, h3⟩

/-! ## Slots by their numbers -/
def lookN (i : Nat) : List (Nat × Value) → Option Value
  | [] => none
  | (j, v) :: l => match Nat.beq j i with
    | true => some v
    | false => lookN i l
def tmpsOf (vs : List (Nat × Value)) : Nat → Nat → List Value
  | _, 0 => []
  | i, n + 1 => (match lookN i vs with
    | some v => v
    | none => unk) :: tmpsOf vs (i + 1) n
theorem lookN_spec {i : Nat} : ∀ {vs : List (Nat × Value)} {v : Value}, lookN i vs = some v → (i, v) ∈ vs ∧ hasN i (vs.map (·.1)) = true
  | [], v, h => by simp [lookN] at h
  | (j, u) :: vs, v, h => by
    simp only [lookN] at h
    cases hb : Nat.beq j i with
    | true =>
      simp only [hb, Option.some.injEq] at h
      subst h
      have : j = i := Nat.eq_of_beq_eq_true hb
      subst this
      exact ⟨by simp, by simp [hasN]⟩
    | false =>
      simp only [hb] at h
      obtain ⟨h1, h2⟩ := lookN_spec h
      exact ⟨by simp [h1], by simp only [List.map_cons, hasN, hb]; exact h2⟩
theorem lookN_none {i : Nat} : ∀ {vs : List (Nat × Value)}, lookN i vs = none → hasN i (vs.map (·.1)) = false
  | [], _ => rfl
  | (j, u) :: vs, h => by
    simp only [lookN] at h
    cases hb : Nat.beq j i with
    | true => simp [hb] at h
    | false =>
      simp only [hb] at h
      simp only [List.map_cons, hasN, hb]
      exact lookN_none h
theorem keep_eq (vs : List (Nat × Value)) : ∀ (l : List Value) (i : Nat), (∀ x ∈ vs, i ≤ x.1 → l[x.1 - i]? = some x.2) → keepL (vs.map (·.1)) i l = tmpsOf vs i l.length
  | [], i, _ => rfl
  | x :: l, i, h => by
    simp only [keepL, List.length_cons, tmpsOf]
    have ih : keepL (vs.map (·.1)) (i + 1) l = tmpsOf vs (i + 1) l.length := keep_eq vs l (i + 1) fun y hy hi => by
      have := h y hy (by omega)
      rw [show y.1 - i = (y.1 - (i + 1)) + 1 by omega, List.getElem?_cons_succ] at this
      exact this
    cases hl : lookN i vs with
    | some v =>
      obtain ⟨h1, h2⟩ := lookN_spec hl
      have := h (i, v) h1 (Nat.le_refl _)
      simp only [Nat.sub_self, List.getElem?_cons_zero, Option.some.injEq] at this
      simp only [h2, ih, this]
    | none => simp only [lookN_none hl, ih]
/-- A state that is told by some of its slots, and its blocks. -/
def stOf (N : Nat) (vs : List (Nat × Value)) (m : Mem) : St := ⟨tmpsOf vs 0 N, m⟩
/-- Is this state so long, with so many blocks? -/
def sized (st : St) (N M : Nat) : Bool := Nat.beq st.tmps.length N && Nat.beq st.mem.length M
theorem stOf_keep {st : St} {N M : Nat} (hs : sized st N M = true) (vs : List (Nat × Value)) (hv : ∀ x ∈ vs, st.tmps[x.1]? = some x.2) {m : Mem} (hm : st.mem = m) : (⟨keepL (vs.map (·.1)) 0 st.tmps, st.mem⟩ : St) = stOf N vs m := by
  unfold sized at hs
  rw [Bool.and_eq_true] at hs
  unfold stOf
  rw [← Nat.eq_of_beq_eq_true hs.1, ← hm, keep_eq vs st.tmps 0 (fun x hx _ => by simpa using hv x hx)]
end Go.Proofs.Ytofblakbfmjgkaa.Vx


namespace Go.Proofs.Ytofblakbfmjgkaa.Vx
open Go Go.RowKit

/-- The number, among M blocks, of the i-th of those that were handed over, or of one that was made behind them. -/
def unr (ks : List Nat) (M i : Nat) : Nat := match ks[i]? with
  | some b => b
  | none => M + (i - ks.length)
def unr0 (ks : List Nat) (M : Nat) : Value → Value
  | .pointer (some a) => .pointer (some ⟨unr ks M a.block, a.off, a.spot⟩)
  | .slice (some a) n e => .slice (some ⟨unr ks M a.block, a.off, a.spot⟩) n e
  | .map (some b) => .map (some (unr ks M b))
  | v => v
def unr1 (ks : List Nat) (M : Nat) : Value → Value
  | .agg cs => .agg (mapL (unr0 ks M) cs.toList).toArray
  | v => unr0 ks M v
def unrV (ks : List Nat) (M : Nat) : Value → Value
  | .tuple vs => .tuple (mapL (unr1 ks M) vs.toList).toArray
  | v => unr1 ks M v
def unrB (ks : List Nat) (M : Nat) : Blk → Blk
  | .cells own e c => .cells own e (mapL (unr0 ks M) c)
  | .rows own pl e n row => match pl with
    | true => .rows own true e n row
    | false => .rows own false e n fun i => mapL (unr0 ks M) (row i)
  | .grow pl e n row => match pl with
    | true => .grow true e n row
    | false => .grow false e n fun i => mapL (unr0 ks M) (row i)
  | .view pl e n row => match pl with
    | true => .view true e n row
    | false => .view false e n fun i => mapL (unr0 ks M) (row i)
  | b => b
def mapB (f : Blk → Blk) : Mem → Mem
  | [] => []
  | b :: l => f b :: mapB f l
def setK (f : Blk → Blk) (m : Mem) : List Nat → Mem → Mem
  | k :: ks, b :: bs => setK f (m.set k (f b)) ks bs
  | _, _ => m
def framed (ks : List Nat) (m ms : Mem) : Mem := setK (unrB ks m.length) m ks ms ++ mapB (unrB ks m.length) (ms.drop ks.length)
def allLt (M : Nat) : List Nat → Bool
  | [] => true
  | k :: ks => Nat.blt k M && allLt M ks

theorem allLt_iff {M : Nat} : ∀ {ks : List Nat}, allLt M ks = true → ∀ {i b : Nat}, ks[i]? = some b → b < M
  | [], _, i, b, h => by simp at h
  | k :: ks, hl, 0, b, h => by
    simp only [allLt, Bool.and_eq_true] at hl
    simp at h
    subst h
    exact Nat.blt_eq.mp hl.1
  | k :: ks, hl, i + 1, b, h => by
    simp only [allLt, Bool.and_eq_true] at hl
    simp only [List.getElem?_cons_succ] at h
    exact allLt_iff hl.2 h
theorem mapB_get {f : Blk → Blk} : ∀ (l : Mem) (i : Nat), (mapB f l)[i]? = (l[i]?).map f
  | [], i => by simp [mapB]
  | b :: l, 0 => by simp [mapB]
  | b :: l, i + 1 => by simp only [mapB, List.getElem?_cons_succ]; exact mapB_get l i
theorem setK_length {f : Blk → Blk} : ∀ (ks : List Nat) (bs m : Mem), (setK f m ks bs).length = m.length
  | [], [], m => rfl
  | [], _ :: _, m => rfl
  | k :: ks, [], m => rfl
  | k :: ks, b :: bs, m => by simp only [setK]; rw [setK_length ks bs]; simp
theorem setK_not {f : Blk → Blk} {c : Nat} : ∀ (ks : List Nat) (bs m : Mem), c ∉ ks → (setK f m ks bs)[c]? = m[c]?
  | [], [], m, _ => rfl
  | [], _ :: _, m, _ => rfl
  | k :: ks, [], m, _ => rfl
  | k :: ks, b :: bs, m, h => by
    simp only [List.mem_cons, not_or] at h
    simp only [setK]
    rw [setK_not ks bs _ h.2, List.getElem?_set_ne (fun e => h.1 e.symm)]
theorem setK_at {f : Blk → Blk} {c : Nat} : ∀ (ks : List Nat) (bs m : Mem) (i : Nat), noDup ks = true → allLt m.length ks = true → ks.length ≤ bs.length → ks[i]? = some c → (setK f m ks bs)[c]? = (bs[i]?).map f
  | [], bs, m, i, _, _, _, h => by simp at h
  | k :: ks, [], m, i, _, _, hl, h => by simp at hl
  | k :: ks, b :: bs, m, i, hd, ha, hl, h => by
    simp only [noDup, Bool.and_eq_true, Bool.not_eq_true'] at hd
    simp only [allLt, Bool.and_eq_true] at ha
    have hn : k ∉ ks := fun hm => by rw [hasN_iff.2 hm] at hd; cases hd.1
    have hk : k < m.length := Nat.blt_eq.mp ha.1
    simp only [setK]
    cases i with
    | zero =>
      simp at h
      subst h
      rw [setK_not ks bs _ hn, List.getElem?_set_self hk]
      simp
    | succ i =>
      simp only [List.getElem?_cons_succ] at h ⊢
      exact setK_at ks bs _ i hd.2 (by simpa using ha.2) (by simpa using hl) h
theorem idxN_of {ks : List Nat} (hd : noDup ks = true) {i b : Nat} (h : ks[i]? = some b) : idxN b ks 0 = some i := by
  have key : ∀ (l : List Nat) (j : Nat), b ∈ l → ∃ q, idxN b l j = some q := by
    intro l
    induction l with
    | nil => intro j hm; cases hm
    | cons x l ih =>
      intro j hm
      simp only [idxN]
      cases hb : Nat.beq x b with
      | true => exact ⟨_, rfl⟩
      | false =>
        rcases List.mem_cons.1 hm with rfl | hm
        · simp at hb
        · exact ih _ hm
  obtain ⟨q, hq⟩ := key ks 0 (List.mem_of_getElem? h)
  have := (idxN_spec hq).2
  simp only [Nat.sub_zero] at this
  rw [hq, noDup_inj hd this h]
theorem idxN_not {b : Nat} : ∀ {l : List Nat} {j : Nat}, b ∉ l → idxN b l j = none
  | [], _, _ => rfl
  | x :: l, j, h => by
    simp only [List.mem_cons, not_or] at h
    simp only [idxN]
    rw [show Nat.beq x b = false by
      cases hb : Nat.beq x b with
      | false => rfl
      | true => exact absurd (Nat.eq_of_beq_eq_true hb).symm h.1]
    exact idxN_not h.2

/-- Where blocks lie behind a call that was handed some of them. -/
def Ren.back (r rs : Ren) (ks : List Nat) (M : Nat) : Ren := fun b => match idxN b ks 0 with
  | some i => rs i
  | none => if b < M then r b else rs (ks.length + (b - M))
theorem back_unr {r rs : Ren} {ks : List Nat} {M : Nat} (hd : noDup ks = true) (ha : allLt M ks = true) (i : Nat) : (r.back rs ks M) (unr ks M i) = rs i := by
  unfold Ren.back unr
  cases hi : ks[i]? with
  | some b => simp only [idxN_of hd hi]
  | none =>
    have hl : ks.length ≤ i := List.getElem?_eq_none_iff.1 hi
    have hn : (M + (i - ks.length)) ∉ ks := fun hm => by
      obtain ⟨j, hj⟩ := List.getElem?_of_mem hm
      have := allLt_iff ha hj
      omega
    simp only [idxN_not hn]
    rw [if_neg (by omega)]
    congr 1; omega
theorem R1_nagg {r : Ren} {v v' : Value} (hn : ∀ cs, v ≠ .agg cs) : R1 r v v' ↔ R0 r v v' := by
  cases v with
  | agg cs => exact absurd rfl (hn cs)
  | _ => exact Iff.rfl
theorem unr1_nagg {ks : List Nat} {M : Nat} {v : Value} (hn : ∀ cs, v ≠ .agg cs) : unr1 ks M v = unr0 ks M v := by
  cases v with
  | agg cs => exact absurd rfl (hn cs)
  | _ => rfl
theorem unr0_nagg {ks : List Nat} {M : Nat} {v : Value} (hn : ∀ cs, v ≠ .agg cs) : ∀ cs, unr0 ks M v ≠ .agg cs := by
  intro cs
  cases v with
  | agg cs => exact absurd rfl (hn cs)
  | pointer a => cases a <;> simp [unr0]
  | slice a n c => cases a <;> simp [unr0]
  | map a => cases a <;> simp [unr0]
  | _ => simp [unr0]
theorem unrV_ntup {ks : List Nat} {M : Nat} {v : Value} (hn : ∀ cs, v ≠ .tuple cs) : unrV ks M v = unr1 ks M v := by
  cases v with
  | tuple cs => exact absurd rfl (hn cs)
  | _ => rfl
theorem unr1_ntup {ks : List Nat} {M : Nat} {v : Value} (hn : ∀ cs, v ≠ .tuple cs) : ∀ cs, unr1 ks M v ≠ .tuple cs := by
  intro cs
  cases v with
  | tuple cs => exact absurd rfl (hn cs)
  | pointer a => cases a <;> simp [unr1, unr0]
  | slice a n c => cases a <;> simp [unr1, unr0]
  | map a => cases a <;> simp [unr1, unr0]
  | _ => simp [unr1, unr0]
section
variable {r rs : Ren} {ks : List Nat} {M : Nat} (hd : noDup ks = true) (ha : allLt M ks = true)
include hd ha
theorem R0_back {v v' : Value} (h : R0 rs v v') : R0 (r.back rs ks M) (unr0 ks M v) v' := by
  unfold R0 at h
  cases v with
  | pointer a => cases a with
    | none => exact h
    | some a => simp only [unr0]; unfold R0; simp only [back_unr (r := r) (rs := rs) hd ha]; exact h
  | slice a n c => cases a with
    | none => exact h
    | some a => simp only [unr0]; unfold R0; simp only [back_unr (r := r) (rs := rs) hd ha]; exact h
  | map a => cases a with
    | none => exact h
    | some a => simp only [unr0]; unfold R0; simp only [back_unr (r := r) (rs := rs) hd ha]; exact h
  | iface t u => cases u <;> exact h
  | _ => exact h
theorem R1_back {v v' : Value} (h : R1 rs v v') : R1 (r.back rs ks M) (unr1 ks M v) v' := by
  by_cases hn : ∃ cs, v = .agg cs
  · obtain ⟨cs, rfl⟩ := hn
    obtain ⟨cs', rfl, h⟩ := h
    exact ⟨cs', rfl, by simpa using RL_mapL (f := unr0 ks M) (fun _ _ h => R0_back hd ha h) h⟩
  · have h0 := (R1_nagg fun cs e => hn ⟨cs, e⟩).1 h
    rw [unr1_nagg fun cs e => hn ⟨cs, e⟩]
    exact (R1_nagg (unr0_nagg fun cs e => hn ⟨cs, e⟩)).2 (R0_back hd ha h0)
theorem R_back {v v' : Value} (h : R rs v v') : R (r.back rs ks M) (unrV ks M v) v' := by
  by_cases hn : ∃ cs, v = .tuple cs
  · obtain ⟨cs, rfl⟩ := hn
    obtain ⟨cs', rfl, h⟩ := h
    exact ⟨cs', rfl, by simpa using RL_mapL (f := unr1 ks M) (fun _ _ h => R1_back hd ha h) h⟩
  · have h0 := (R1_R fun cs e => hn ⟨cs, e⟩).1 h
    rw [unrV_ntup fun cs e => hn ⟨cs, e⟩]
    exact (R1_R (unr1_ntup fun cs e => hn ⟨cs, e⟩)).2 (R1_back hd ha h0)
theorem CellsAt_back {cs : Array Value} {off : Nat} {c : List Value} (h : CellsAt rs cs off c) : CellsAt (r.back rs ks M) cs off (mapL (unr0 ks M) c) := fun k v hk => by
  obtain ⟨u, hu, rfl⟩ := mapL_get hk
  obtain ⟨v', h1, h2⟩ := h k u hu
  exact ⟨v', h1, R0_back hd ha h2⟩
theorem rows_back {cs : Array Value} {off esz n : Nat} {row : Nat → List Value} (h5 : ∀ i, i < n → (row i).length = esz ∧ CellsAt rs cs (off + i * esz) (row i)) :
    ((∀ i, i < n → allL plain0 (row i) = true) → ∀ i, i < n → (row i).length = esz ∧ CellsAt (r.back rs ks M) cs (off + i * esz) (row i)) ∧ ∀ i, i < n → (mapL (unr0 ks M) (row i)).length = esz ∧ CellsAt (r.back rs ks M) cs (off + i * esz) (mapL (unr0 ks M) (row i)) := by
  refine ⟨fun hp i hi => ⟨(h5 i hi).1, fun k v hk => ?_⟩, fun i hi => ⟨by rw [mapL_length]; exact (h5 i hi).1, CellsAt_back hd ha (h5 i hi).2⟩⟩
  obtain ⟨v', g1, g2⟩ := (h5 i hi).2 k v hk
  have hpv := allL_iff.1 (hp i hi) v (List.mem_of_getElem? hk)
  exact ⟨v', g1, (R0_plain hpv).2 ((R0_plain hpv).1 g2)⟩
theorem BlkRel_back {w : World} {p : Place} {k : Blk} (h : BlkRel w rs p k) : BlkRel w (r.back rs ks M) p (unrB ks M k) := by
  cases k with
  | cells own esz c =>
    obtain ⟨h1, h2, cs, T, fz, h6, h3, h4, h5⟩ := h
    exact ⟨h1, h2, cs, T, fz, h6, h3, h4, CellsAt_back hd ha h5⟩
  | rows own pl esz n row =>
    obtain ⟨h1, h2, h0, hp, cs, T, fz, h6, h3, h4, h5⟩ := h
    cases pl with
    | true => exact ⟨h1, h2, h0, hp, cs, T, fz, h6, h3, h4, (rows_back (r := r) hd ha h5).1 (hp rfl)⟩
    | false => exact ⟨h1, h2, h0, (fun h => by cases h), cs, T, fz, h6, h3, h4, (rows_back (r := r) hd ha h5).2⟩
  | grow pl esz n row =>
    obtain ⟨h1, h2, h0, hp, cs, T, fz, h3, h4, h5⟩ := h
    cases pl with
    | true => exact ⟨h1, h2, h0, hp, cs, T, fz, h3, h4, (rows_back (r := r) hd ha h5).1 (hp rfl)⟩
    | false => exact ⟨h1, h2, h0, (fun h => by cases h), cs, T, fz, h3, h4, (rows_back (r := r) hd ha h5).2⟩
  | view pl esz n row =>
    obtain ⟨h1, h2, h0, hp, cs, T, fz, h3, h4, h5⟩ := h
    cases pl with
    | true => exact ⟨h1, h2, h0, hp, cs, T, fz, h3, h4, (rows_back (r := r) hd ha h5).1 (hp rfl)⟩
    | false => exact ⟨h1, h2, h0, (fun h => by cases h), cs, T, fz, h3, h4, (rows_back (r := r) hd ha h5).2⟩
  | _ => exact h
end
theorem unrB_no {ks : List Nat} {M : Nat} {k : Blk} : unrB ks M k = .no ↔ k = .no := by
  cases k with
  | rows own pl e n row => cases pl <;> simp [unrB]
  | grow pl e n row => cases pl <;> simp [unrB]
  | view pl e n row => cases pl <;> simp [unrB]
  | _ => simp [unrB]
theorem unrB_grow {ks : List Nat} {M : Nat} {k : Blk} (h : isGrow (some k)) : isGrow (some (unrB ks M k)) := by
  cases k with
  | grow pl e n row => cases pl <;> trivial
  | _ => exact h.elim
theorem RL_map_ren {r : Ren} {ks : List Nat} {l l' : List Value} (h : RL (R r) l l') : RL (R (r.via ks)) (mapL (renV ks) l) l' := RL_mapL (f := renV ks) (fun _ _ h => R_via h) h

/-- What is told of a call that is handed some blocks alone is told of it among others. -/
theorem MemSem.frame {P : Program} {f : FuncId} {args : List Value} {m ms : Mem} {v : Value} (ks : List Nat) (hd : noDup ks = true) (ha : allLt m.length ks = true) (hl : ks.length ≤ ms.length) (hnv : allB noViewB m = true)
    (h : MemSem P f (mapL (renV ks) args) (renM ks m ks) v ms) : MemSem P f args m (unrV ks m.length v) (framed ks m ms) := by
  refine ⟨h.1, fun w0 keep r args' w hargs hm => ?_⟩
  let oth : Nat → Prop := fun j => ∃ b p, b ∉ ks ∧ r b = some (some p) ∧ p.blk = j
  let kp : Keep := ⟨fun j => keep j ∨ oth j, keep.rd, fun j hj => Or.inl (keep.sub j hj)⟩
  have hv : ∀ {i : Nat} {q : Option Place}, (r.via ks) i = some q → ∃ b, ks[i]? = some b ∧ r b = some q := fun {i q} hq => by
    unfold Ren.via at hq
    split at hq
    · rename_i b hb; exact ⟨b, hb, hq⟩
    · cases hq
  have noV : ∀ {b : Nat} {p : Place}, r b = some (some p) → p.own = false → p.room = 0 := fun {b p} hb ho => by
    by_cases hz : p.room = 0
    · exact hz
    · exfalso
      obtain ⟨k, h1, h2⟩ := hm.blk b p hb
      have := h2.isView ho hz
      rw [allB_iff.1 hnv k (List.mem_of_getElem? h1)] at this
      cases this
  have hsm : MemRel w kp (r.via ks) (renM ks m ks) w := by
    have h0 := MemRel_via hm hd
    refine ⟨rfl, rfl, rfl, Nat.le_refl _, Nat.le_refl _, fun j hj => ?_, fun j _ => rfl, h0.none, h0.dead, h0.blk, fun i p hi ho hk => ?_, h0.read, fun i p hi ho hz => ?_, h0.sep, h0.inj⟩
    · rcases hj with hj | ⟨b, p, _, hb, rfl⟩
      · have := hm.klt j hj; have := hm.size; omega
      · obtain ⟨k, _, hk⟩ := hm.blk b p hb
        exact hk.lt
    · rcases hk with hk | ⟨c, q, hc, hq, he⟩
      · exact h0.own i p hi ho hk
      · obtain ⟨b, hb, hr⟩ := hv hi
        cases hqo : q.own with
        | true =>
          have := hm.inj b c p q hr hq ho hqo he.symm
          subst this
          exact hc (List.mem_of_getElem? hb)
        | false =>
          have k1 := hm.read c q hq hqo (noV hq hqo)
          rw [he] at k1
          exact hm.own b p hr ho (keep.sub _ k1)
    · obtain ⟨b, hb, hr⟩ := hv hi
      exact absurd (noV hr ho) hz
  refine (h.2 w kp (r.via ks) args' w (RL_map_ren hargs) hsm).mono ?_
  rintro e w' ⟨v', rs, rfl, g1, g2, g3⟩
  have hM : ∀ {b : Nat}, m.length ≤ b → r b = none := fun {b} hb => hm.none b (Or.inl (List.getElem?_eq_none hb))
  have hext : Ext r (r.back rs ks m.length) := by
    intro b
    unfold Ren.back
    by_cases hb : b ∈ ks
    · obtain ⟨i, hi⟩ := List.getElem?_of_mem hb
      have e1 : (r.via ks) i = r b := by simp [Ren.via, hi]
      simp only [idxN_of hd hi]
      have := g3 i
      rw [e1] at this
      exact this
    · simp only [idxN_not hb]
      split
      · exact Or.inr (Or.inl rfl)
      · exact Or.inl (hM (by omega))
  refine ⟨v', r.back rs ks m.length, rfl, R_back hd ha g1, ?_, hext⟩
  -- the memory
  have hget : ∀ b : Nat, (framed ks m ms)[b]? = match idxN b ks 0 with
      | some i => (ms[i]?).map (unrB ks m.length)
      | none => if b < m.length then m[b]? else (ms[ks.length + (b - m.length)]?).map (unrB ks m.length) := by
    intro b
    unfold framed
    by_cases hb : b ∈ ks
    · obtain ⟨i, hi⟩ := List.getElem?_of_mem hb
      have hlt := allLt_iff ha hi
      simp only [idxN_of hd hi]
      rw [List.getElem?_append_left (by rw [setK_length]; exact hlt)]
      exact setK_at ks ms m i hd ha hl hi
    · simp only [idxN_not hb]
      split
      · rename_i hlt
        rw [List.getElem?_append_left (by rw [setK_length]; exact hlt)]
        exact setK_not ks ms m hb
      · rename_i hlt
        rw [List.getElem?_append_right (by rw [setK_length]; omega), setK_length, mapB_get, List.getElem?_drop]
  have cases3 : ∀ {b : Nat} {q : Option Place}, (r.back rs ks m.length) b = some q → (∃ i, rs i = some q ∧ (framed ks m ms)[b]? = (ms[i]?).map (unrB ks m.length) ∧ unr ks m.length i = b) ∨ (b ∉ ks ∧ r b = some q ∧ (framed ks m ms)[b]? = m[b]? ∧ b < m.length) := by
    intro b q hq
    have hg := hget b
    unfold Ren.back at hq
    by_cases hb : b ∈ ks
    · obtain ⟨i, hi⟩ := List.getElem?_of_mem hb
      simp only [idxN_of hd hi] at hq hg
      exact Or.inl ⟨i, hq, hg, by simp [unr, hi]⟩
    · simp only [idxN_not hb] at hq hg
      split at hq
      · rename_i hlt
        rw [if_pos hlt] at hg
        exact Or.inr ⟨hb, hq, hg, hlt⟩
      · rename_i hlt
        rw [if_neg hlt] at hg
        refine Or.inl ⟨_, hq, hg, ?_⟩
        unfold unr
        rw [List.getElem?_eq_none (by omega)]
        simp only
        omega
  have hothk : ∀ {b : Nat} {p : Place}, b ∉ ks → r b = some (some p) → kp p.blk := fun {b p} hb hp => Or.inr ⟨b, p, hb, hp, rfl⟩
  refine ⟨g2.os.trans hm.os, g2.tape.trans hm.tape, g2.output.trans hm.output, Nat.le_trans hm.drawn g2.drawn, Nat.le_trans hm.size g2.size, hm.klt, fun j hj => ?_, fun b hb => ?_, fun b hb => ?_, fun b p hb => ?_, fun b p hb ho => ?_, fun b p hb ho hz => ?_, fun b p hb ho hz => ?_, fun b c p q hb hc hp hz hq he => ?_, fun b c p q hb hc hp hq he => ?_⟩
  · rw [g2.kept j (Or.inl hj)]; exact hm.kept j hj
  · rw [hget b] at hb
    unfold Ren.back
    by_cases hbk : b ∈ ks
    · obtain ⟨i, hi⟩ := List.getElem?_of_mem hbk
      simp only [idxN_of hd hi] at hb ⊢
      refine g2.none i ?_
      cases hmi : ms[i]? with
      | none => exact Or.inl rfl
      | some k =>
        rw [hmi] at hb
        simp only [Option.map_some] at hb
        rcases hb with hb | hb
        · cases hb
        · simp only [Option.some.injEq] at hb
          exact Or.inr (by rw [unrB_no.1 hb])
    · simp only [idxN_not hbk] at hb ⊢
      split
      · rename_i hlt
        rw [if_pos hlt] at hb
        exact hm.none b hb
      · rename_i hlt
        rw [if_neg hlt] at hb
        refine g2.none _ ?_
        cases hmi : ms[ks.length + (b - m.length)]? with
        | none => exact Or.inl rfl
        | some k =>
          rw [hmi] at hb
          simp only [Option.map_some] at hb
          rcases hb with hb | hb
          · cases hb
          · simp only [Option.some.injEq] at hb
            exact Or.inr (by rw [unrB_no.1 hb])
  · rcases cases3 hb with ⟨i, h1, h2, _⟩ | ⟨h1, h2, h3, _⟩
    · rw [h2, g2.dead i h1]; rfl
    · rw [h3]; exact hm.dead b h2
  · rcases cases3 hb with ⟨i, h1, h2, _⟩ | ⟨h1, h2, h3, _⟩
    · obtain ⟨k, h4, h5⟩ := g2.blk i p h1
      exact ⟨unrB ks m.length k, by rw [h2, h4]; rfl, BlkRel_back hd ha h5⟩
    · obtain ⟨k, h4, h5⟩ := hm.blk b p h2
      exact ⟨k, by rw [h3]; exact h4, h5.mono (g2.kept _ (hothk h1 h2)) hext⟩
  · rcases cases3 hb with ⟨i, h1, h2, _⟩ | ⟨h1, h2, h3, _⟩
    · exact fun hk => g2.own i p h1 ho (Or.inl hk)
    · exact hm.own b p h2 ho
  · rcases cases3 hb with ⟨i, h1, h2, _⟩ | ⟨h1, h2, h3, _⟩
    · exact g2.read i p h1 ho hz
    · exact hm.read b p h2 ho hz
  · rcases cases3 hb with ⟨i, h1, h2, _⟩ | ⟨h1, h2, h3, _⟩
    · exact fun hk => g2.vw i p h1 ho hz (Or.inl hk)
    · exact hm.vw b p h2 ho hz
  · rcases cases3 hb with ⟨i, h1, h2, _⟩ | ⟨h1, h2, h3, _⟩
    · rcases cases3 hc with ⟨j, k1, k2, k3⟩ | ⟨k1, k2, k3, _⟩
      · obtain ⟨s1, s2⟩ := g2.sep i j p q h1 k1 hp hz hq he
        rw [k2]
        cases hmj : ms[j]? with
        | none => rw [hmj] at s1; exact s1.elim
        | some k => rw [hmj] at s1; exact ⟨unrB_grow s1, s2⟩
      · exfalso
        refine g2.vw i p h1 hp hz ?_
        rw [← he]; exact hothk k1 k2
    · exact absurd (noV h2 hp) hz
  · rcases cases3 hb with ⟨i, h1, h2, h3⟩ | ⟨h1, h2, h3, _⟩
    · rcases cases3 hc with ⟨j, k1, k2, k3⟩ | ⟨k1, k2, k3, _⟩
      · have := g2.inj i j p q h1 k1 hp hq he
        subst this
        rw [← h3, ← k3]
      · exfalso
        refine g2.own i p h1 hp ?_
        rw [he]; exact hothk k1 k2
    · rcases cases3 hc with ⟨j, k1, k2, k3⟩ | ⟨k1, k2, k3, _⟩
      · exfalso
        refine g2.own j q k1 hq ?_
        rw [← he]; exact hothk h1 h2
      · exact hm.inj b c p q h2 k2 hp hq he
/-! ## Which blocks a call is handed -/
def dedupN : List Nat → List Nat → List Nat
  | [], _ => []
  | k :: l, seen => match hasN k seen with
    | true => dedupN l seen
    | false => k :: dedupN l (k :: seen)
def idsIn : List Value → List Nat
  | [] => []
  | v :: l => match adrOf v with
    | some b => b :: idsIn l
    | none => idsIn l
def catN : List Nat → List Nat → List Nat
  | [], l => l
  | k :: ks, l => k :: catN ks l
def cellIds (m : Mem) : List Nat → List Nat
  | [] => []
  | k :: l => match m[k]? with
    | some (.cells _ _ c) => catN (idsIn c) (cellIds m l)
    | _ => cellIds m l
def ksOf (args : List Value) (m : Mem) : List Nat := dedupN (catN (idsIn args) (cellIds m (idsIn args))) []
/-- What is told of a call where nothing is looked at any more as it was. -/
theorem MemSem.unview {P : Program} {f : FuncId} {args : List Value} {m m' : Mem} {v : Value} (h : MemSem P f args (killV m) v m') : MemSem P f args m v m' :=
  ⟨h.1, fun w0 keep r args' w ha hm => (h.2 w0 keep r.noV args' w (RL.mono (fun _ _ => R.ext r.noV_ext) ha) hm.unview).mono fun _ _ ⟨v', r', he, h1, h2, h3⟩ => ⟨v', r', he, h1, h2, r.noV_ext.trans h3⟩⟩
theorem MemSem.fresh {P : Program} {f : FuncId} {args : List Value} {m m' : Mem} {v : Value} (h : MemSem P f args (thaw (killV m)) v m') : MemSem P f args m v m' :=
  MemSem.unview ⟨h.1, fun w0 keep r args' w ha hm => h.2 w0 keep r args' w ha (hm.thawed (killV_none m))⟩
/-- What is told of a function that is handed some blocks alone, told of it among others. -/
def frameG (S : List Value → Mem → Option (Ans (Value × Mem))) (args : List Value) (m : Mem) : Option (Ans (Value × Mem)) :=
  forceN (ksOf args m) fun ks => match noDup ks && (allLt m.length ks && allB noViewB m) with
    | true => forceL (mapL (renV ks) args) fun ags => forceM (renM ks m ks) fun ms => match S ags ms with
      | some ans => some (ans.bind fun vm => match Nat.ble ks.length vm.2.length with
        | true => .out (unrV ks m.length vm.1, framed ks m vm.2)
        | false => .fail)
      | none => none
    | false => none
def frameF (S : List Value → Mem → Option (Ans (Value × Mem))) (args : List Value) (m : Mem) : Option (Ans (Value × Mem)) := forceM (thaw (killV m)) fun m => frameG S args m
theorem frameG_ok {P : Program} {f : FuncId} {S : List Value → Mem → Option (Ans (Value × Mem))} (h : ∀ args m ans v m', S args m = some ans → ans.res = some (v, m') → MemSem P f args m v m') {args : List Value} {m m' : Mem} {ans : Ans (Value × Mem)} {v : Value}
    (ha : frameG S args m = some ans) (hr : ans.res = some (v, m')) : MemSem P f args m v m' := by
  unfold frameG at ha
  rw [forceN_eq] at ha
  split at ha
  · rename_i hb
    rw [Bool.and_eq_true, Bool.and_eq_true] at hb
    rw [forceL_eq, forceM_eq] at ha
    split at ha
    · rename_i a2 hS
      simp only [Option.some.injEq] at ha
      subst ha
      obtain ⟨⟨u, mu⟩, h1, h2⟩ := Ans.bind_some hr
      simp only at h2
      split at h2
      · rename_i hle
        simp only [Ans.res, Option.some.injEq, Prod.mk.injEq] at h2
        obtain ⟨rfl, rfl⟩ := h2
        exact MemSem.frame _ hb.1 hb.2.1 (Nat.le_of_ble_eq_true hle) hb.2.2 (h _ _ _ _ _ hS h1)
      · simp [Ans.res] at h2
    · cases ha
  · cases ha
theorem frameF_ok {P : Program} {f : FuncId} {S : List Value → Mem → Option (Ans (Value × Mem))} (h : ∀ args m ans v m', S args m = some ans → ans.res = some (v, m') → MemSem P f args m v m') {args : List Value} {m m' : Mem} {ans : Ans (Value × Mem)} {v : Value}
    (ha : frameF S args m = some ans) (hr : ans.res = some (v, m')) : MemSem P f args m v m' := by
  unfold frameF at ha
  rw [forceM_eq] at ha
  exact (frameG_ok h ha hr).fresh
def Cx.addF (C : Cx) (f : FuncId) (S : List Value → Mem → Option (Ans (Value × Mem))) : Cx := C.addM f (frameF S)
theorem Cx.addF_ok {C : Cx} (hC : CxOk C) {f : FuncId} {S : List Value → Mem → Option (Ans (Value × Mem))} (h : ∀ args m ans v m', S args m = some ans → ans.res = some (v, m') → MemSem C.P f args m v m') : CxOk (C.addF f S) :=
  Cx.addM_ok hC fun _ _ _ _ _ ha hr => frameF_ok h ha hr
/-- A call that the executor runs. -/
theorem exFunA_ok {C : Cx} (hC : CxOk C) {n : Nat} {f : FuncId} {fn : Func} {args : List Value} {m m' : Mem} {v : Value} (hf : C.P.funcs[f]? = some fn) (hok : okFunc C.P f = true) (h : (exFunA (C.at f) n fn args m).res = some (v, m')) : MemSem C.P f args m v m' :=
  exFunA_sem (C := C.at f) (hC.at f) hf (okFunc_name hok hf) (Or.inl rfl) h

/-! ## What a call leaves, told shortly -/
def valL : Value → List Value
  | .tuple vs => vs.toList
  | v => [v]
/-- Blocks that were there keep their numbers; of those that were made the named ones are told. -/
def tidyA (B : Nat) (sp : List From) (vm : Value × Mem) : Ans (Value × Mem) :=
  forceN (keysOf ⟨valL vm.1, vm.2⟩ sp) fun ks => match noDup ks && idsTo B 0 ks with
    | true => forceV (renV ks vm.1) fun v => forceM (thaw (renM ks (killV vm.2) ks)) fun m => match allB noViewB (renM ks (killV vm.2) ks) with
      | true => .out (v, m)
      | false => .fail
    | false => .fail
theorem MemSem.tidy {P : Program} {f : FuncId} {args : List Value} {m m' m2 : Mem} {v v2 : Value} (h : MemSem P f args m v m') {sp : List From} (ht : (tidyA m.length sp (v, m')).res = some (v2, m2)) : MemSem P f args m v2 m2 := by
  refine ⟨h.1, fun w0 keep r args' w ha hm => (h.2 w0 keep r args' w ha hm).mono ?_⟩
  rintro e w' ⟨v', r', rfl, g1, g2, g3⟩
  unfold tidyA at ht
  rw [forceN_eq] at ht
  split at ht
  · rename_i hb
    rw [Bool.and_eq_true] at hb
    rw [forceV_eq, forceM_eq] at ht
    split at ht
    · rename_i hv
      simp only [Ans.res, Option.some.injEq, Prod.mk.injEq] at ht
      obtain ⟨rfl, rfl⟩ := ht
      have hx : Ext r r'.noV := g3.trans r'.noV_ext
      refine ⟨v', r'.noV.via (keysOf ⟨valL v, m'⟩ sp), rfl, R_via (R.ext r'.noV_ext g1), (MemRel_via g2.unview hb.1).thawed hv, fun b => ?_⟩
      by_cases hlt : b < m.length
      · have := idsTo_spec hb.2 (Nat.zero_le b) hlt
        simp only [Nat.sub_zero] at this
        have e1 : (r'.noV.via (keysOf ⟨valL v, m'⟩ sp)) b = r'.noV b := by simp [Ren.via, this]
        rw [e1]
        exact hx b
      · exact Or.inl (hm.none b (Or.inl (List.getElem?_eq_none (by omega))))
    · simp [Ans.res] at ht
  · simp [Ans.res] at ht
def exT (C : Cx) (n : Nat) (fn : Func) (args : List Value) (m : Mem) (sp : List From) : Option (Value × Mem) := ((exFunA C n fn args m).bind (tidyA m.length sp)).res
theorem exT_ok {C : Cx} (hC : CxOk C) {n : Nat} {f : FuncId} {fn : Func} {args : List Value} {m m' : Mem} {v : Value} {sp : List From} (hf : C.P.funcs[f]? = some fn) (hok : okFunc C.P f = true) (h : exT (C.at f) n fn args m sp = some (v, m')) : MemSem C.P f args m v m' := by
  unfold exT at h
  obtain ⟨⟨u, mu⟩, h1, h2⟩ := Ans.bind_some h
  exact (exFunA_sem (C := C.at f) (hC.at f) hf (okFunc_name hok hf) (Or.inl rfl) h1).tidy h2

/-! ## Rows that are alike as far as they go -/
def rowsLike (n : Nat) (f g : Nat → List Value) : Prop := ∀ i, i < n → f i = g i
/-- Blocks that tell the same. -/
inductive Like : Blk → Blk → Prop
  | refl (b : Blk) : Like b b
  | rows {own pl : Bool} {e n : Nat} {f g : Nat → List Value} (h : rowsLike n f g) : Like (.rows own pl e n f) (.rows own pl e n g)
  | grow {pl : Bool} {e n : Nat} {f g : Nat → List Value} (h : rowsLike n f g) : Like (.grow pl e n f) (.grow pl e n g)
theorem BlkRel.like {w : World} {r : Ren} {p : Place} {k k' : Blk} (h : BlkRel w r p k) (hl : Like k k') : BlkRel w r p k' := by
  cases hl with
  | refl => exact h
  | rows hf =>
    obtain ⟨h1, h2, h0, hp, cs, T, fz, h6, h3, h4, h5⟩ := h
    exact ⟨h1, h2, h0, fun hpl i hi => by rw [← hf i hi]; exact hp hpl i hi, cs, T, fz, h6, h3, h4, fun i hi => by rw [← hf i hi]; exact h5 i hi⟩
  | grow hf =>
    obtain ⟨h1, h2, h0, hp, cs, T, fz, h3, h4, h5⟩ := h
    exact ⟨h1, h2, h0, fun hpl i hi => by rw [← hf i hi]; exact hp hpl i hi, cs, T, fz, h3, h4, fun i hi => by rw [← hf i hi]; exact h5 i hi⟩
theorem Like.no {k k' : Blk} (h : Like k k') : k' = .no ↔ k = .no := by cases h <;> simp
theorem Like.isGrow {k k' : Blk} (h : Like k k') (hg : isGrow (some k)) : isGrow (some k') := by
  cases h with
  | refl => exact hg
  | rows hf => exact hg
  | grow hf => trivial
theorem Like.gone {k k' : Blk} (h : Like k k') : k' = .gone ↔ k = .gone := by cases h <;> simp
def LikeL : Mem → Mem → Prop
  | [], [] => True
  | a :: l, b :: l' => Like a b ∧ LikeL l l'
  | _, _ => False
theorem LikeL.get : ∀ {m m' : Mem}, LikeL m m' → ∀ (i : Nat), (m[i]? = none ∧ m'[i]? = none) ∨ ∃ k k', m[i]? = some k ∧ m'[i]? = some k' ∧ Like k k'
  | [], [], _, i => Or.inl ⟨by simp, by simp⟩
  | a :: l, b :: l', h, 0 => Or.inr ⟨a, b, rfl, rfl, h.1⟩
  | a :: l, b :: l', h, i + 1 => by simp only [List.getElem?_cons_succ]; exact LikeL.get h.2 i
  | [], _ :: _, h, _ => h.elim
  | _ :: _, [], h, _ => h.elim
theorem MemRel.like {w0 w : World} {keep : Keep} {r : Ren} {m m' : Mem} (h : MemRel w0 keep r m w) (hl : LikeL m m') : MemRel w0 keep r m' w := by
  refine ⟨h.os, h.tape, h.output, h.drawn, h.size, h.klt, h.kept, fun b hb => ?_, fun b hb => ?_, fun b p hb => ?_, h.own, h.read, h.vw, fun b c p q hb hc hp hz hq he => ?_, h.inj⟩
  · rcases hl.get b with ⟨h1, h2⟩ | ⟨k, k', h1, h2, h3⟩
    · exact h.none b (Or.inl h1)
    · rw [h2] at hb
      rcases hb with hb | hb
      · cases hb
      · simp only [Option.some.injEq] at hb
        exact h.none b (Or.inr (by rw [h1, h3.no.1 hb]))
  · rcases hl.get b with ⟨h1, h2⟩ | ⟨k, k', h1, h2, h3⟩
    · have := h.dead b hb; rw [h1] at this; cases this
    · have := h.dead b hb
      rw [h1] at this
      simp only [Option.some.injEq] at this
      rw [h2, h3.gone.2 this]
  · obtain ⟨k0, g1, g2⟩ := h.blk b p hb
    rcases hl.get b with ⟨h1, h2⟩ | ⟨k, k', h1, h2, h3⟩
    · rw [h1] at g1; cases g1
    · rw [h1] at g1
      simp only [Option.some.injEq] at g1
      subst g1
      exact ⟨k', h2, g2.like h3⟩
  · obtain ⟨g1, g2⟩ := h.sep b c p q hb hc hp hz hq he
    rcases hl.get c with ⟨h1, h2⟩ | ⟨k, k', h1, h2, h3⟩
    · rw [h1] at g1; exact g1.elim
    · rw [h1] at g1
      rw [h2]
      exact ⟨h3.isGrow g1, g2⟩
theorem MemSem.like {P : Program} {f : FuncId} {args : List Value} {m m2 m' : Mem} {v : Value} (h : MemSem P f args m2 v m') (hl : LikeL m m2) : MemSem P f args m v m' :=
  ⟨h.1, fun w0 keep r args' w ha hm => h.2 w0 keep r args' w ha (hm.like hl)⟩
/-- States that tell the same. -/
def StLike (s s' : St) : Prop := s.tmps = s'.tmps ∧ LikeL s.mem s'.mem
theorem LikeL.refl : ∀ (m : Mem), LikeL m m
  | [] => trivial
  | b :: m => ⟨.refl b, LikeL.refl m⟩
theorem StLike.refl (s : St) : StLike s s := ⟨rfl, LikeL.refl s.mem⟩
theorem Rel.like {w0 : World} {keep : Keep} {r0 : Ren} {s s' : St} {a : Act} {w : World} (h : Rel w0 keep r0 s a w) (hl : StLike s s') : Rel w0 keep r0 s' a w := by
  obtain ⟨r, hx, h1, h2, h3⟩ := h
  exact ⟨r, hx, h1, by rw [← hl.1]; exact h2, h3.like hl.2⟩
/-- A loop is told by its rounds, each up to what states tell. -/
theorem loop_rule2 {C : Cx} (hC : CxOk C) {f : FuncId} {B : Nat} {x : Code} (hin : InBody (C.into f B) x) (n : Nat) (mask mout : List Nat) (sp so : List From) {σ : Type} (H : σ → St) (μ : σ → Nat) (Inv : σ → Prop) (out : σ → Exit × St)
    (hstep : ∀ g, Inv g → (∃ g' st, roundR (C.into f B) n x mask mout sp so (H g) = some (.normal, st) ∧ StLike st (H g') ∧ Inv g' ∧ μ g' < μ g ∧ out g' = out g) ∨ (∃ st, roundR (C.into f B) n x mask mout sp so (H g) = some ((out g).1, st) ∧ StLike st (out g).2 ∧ (out g).1 ≠ .normal)) :
    ∀ g, Inv g → LoopSem C.P B x (H g) (out g).1 (out g).2 := by
  have leave : ∀ g st, roundR (C.into f B) n x mask mout sp so (H g) = some ((out g).1, st) → StLike st (out g).2 → (out g).1 ≠ .normal → LoopSem C.P B x (H g) (out g).1 (out g).2 := by
    intro g st h1 hl h2 Q w0 keep r0 a w hB hQ hr
    obtain ⟨⟨e1, s1⟩, h3, h4⟩ := Ans.bind_some h1
    refine LoopsTo.round ((exCode_sound hC n).1 f B x hin _ _ _ h3 _ w0 keep r0 a w hB ?_ hr)
    intro a' w' hr'
    obtain ⟨he, hs⟩ := clean_rel h4 hB hr'
    subst he
    have hs := hs.like hl
    revert h2 hQ hs
    cases (out g).1 <;> intro h2 hQ hs <;> first | exact absurd rfl h2 | exact hQ a' w' hs
  have key : ∀ k g, μ g ≤ k → Inv g → LoopSem C.P B x (H g) (out g).1 (out g).2 := by
    intro k
    induction k with
    | zero =>
      intro g hk hg
      rcases hstep g hg with ⟨g', st, _, _, _, hlt, _⟩ | ⟨st, h1, hl, h2⟩
      · omega
      · exact leave g st h1 hl h2
    | succ k ih =>
      intro g hk hg
      rcases hstep g hg with ⟨g', st, h1, hl, hg', hlt, ho⟩ | ⟨st, h1, hl, h2⟩
      · intro Q w0 keep r0 a w hB hQ hr
        obtain ⟨⟨e1, s1⟩, h3, h4⟩ := Ans.bind_some h1
        refine LoopsTo.round ((exCode_sound hC n).1 f B x hin _ _ _ h3 _ w0 keep r0 a w hB ?_ hr)
        intro a' w' hr'
        obtain ⟨he, hs⟩ := clean_rel h4 hB hr'
        subst he
        refine ih g' (by omega) hg' Q w0 keep r0 a' w' hB ?_ (hs.like hl)
        rw [ho]; exact hQ
      · exact leave g st h1 hl h2
  exact fun g hg => key (μ g) g (Nat.le_refl _) hg
theorem MemSem.likes {P : Program} {f : FuncId} {args : List Value} {m m' m2 : Mem} {v : Value} (h : MemSem P f args m v m') (hl : LikeL m' m2) : MemSem P f args m v m2 :=
  ⟨h.1, fun w0 keep r args' w ha hm => (h.2 w0 keep r args' w ha hm).mono fun _ _ ⟨v', r', he, h1, h2, h3⟩ => ⟨v', r', he, h1, h2.like hl, h3⟩⟩
theorem LoopSem.unview {P : Program} {B : Nat} {x : Code} {tm : List Value} {m : Mem} {s : St} {e : Exit} (h : LoopSem P B x ⟨tm, killV m⟩ e s) : LoopSem P B x ⟨tm, m⟩ e s := by
  intro Q w0 keep r0 a w hB hQ hr
  refine h Q w0 keep r0 a w hB hQ ?_
  obtain ⟨r, hx, h1, h2, h3⟩ := hr
  exact ⟨r.noV, hx.trans r.noV_ext, h1, RL.mono (fun _ _ => R.ext r.noV_ext) h2, h3.unview⟩
theorem LoopSem.likes {P : Program} {B : Nat} {x : Code} {st s s2 : St} {e : Exit} (h : LoopSem P B x st e s) (hl : StLike s s2) : LoopSem P B x st e s2 :=
  fun Q w0 keep r0 a w hB hQ hr => h Q w0 keep r0 a w hB (fun a w hs => hQ a w (hs.like hl)) hr
/-- Nothing is told any more of the memory behind a call. -/
def goneAll (n : Nat) : Mem := List.replicate n .gone
theorem MemSem.forget {P : Program} {f : FuncId} {args : List Value} {m m' : Mem} {v : Value} (h : MemSem P f args m v m') (hv : Vx.plain v = true) : MemSem P f args m v (goneAll m.length) := by
  refine ⟨h.1, fun w0 keep r args' w ha hm => (h.2 w0 keep r args' w ha hm).mono ?_⟩
  rintro e w' ⟨v', r', rfl, g1, g2, g3⟩
  refine ⟨v', fun b => if b < m.length then (match r' b with
    | none => none
    | some _ => some none) else none, rfl, (R_plain hv).2 ((R_plain hv).1 g1), ?_, fun b => ?_⟩
  · refine ⟨g2.os, g2.tape, g2.output, g2.drawn, g2.size, g2.klt, g2.kept, fun b hb => ?_, fun b hb => ?_, fun b p hb => ?_, fun b p hb => ?_, fun b p hb => ?_, fun b p hb => ?_, fun b c p q hb => ?_, fun b c p q hb => ?_⟩
    · split
      · rename_i hlt
        simp [goneAll, hlt] at hb
      · rfl
    · split at hb
      · rename_i hlt; simp [goneAll, hlt]
      · cases hb
    all_goals
      split at hb
      · split at hb <;> simp at hb
      · cases hb
  · by_cases hlt : b < m.length
    · simp only [if_pos hlt]
      rcases g3 b with h1 | h1 | ⟨⟨p, h1⟩, h2⟩ | ⟨p, h1, h2⟩
      · exact Or.inl h1
      · cases hr : r b with
        | none => exact Or.inl rfl
        | some q => rw [h1, hr]; exact Or.inr (Or.inr (Or.inl ⟨⟨q, rfl⟩, rfl⟩))
      · rw [h2]; exact Or.inr (Or.inr (Or.inl ⟨⟨p, h1⟩, rfl⟩))
      · rw [h2]; exact Or.inr (Or.inr (Or.inl ⟨⟨_, h1⟩, rfl⟩))
    · exact Or.inl (hm.none b (Or.inl (List.getElem?_eq_none (by omega))))
theorem LoopSem.fresh {P : Program} {B : Nat} {x : Code} {tm : List Value} {m : Mem} {s : St} {e : Exit} (h : LoopSem P B x ⟨tm, thaw (killV m)⟩ e s) : LoopSem P B x ⟨tm, m⟩ e s := by
  refine LoopSem.unview ?_
  intro Q w0 keep r0 a w hB hQ hr
  refine h Q w0 keep r0 a w hB hQ ?_
  obtain ⟨r, hx, h1, h2, h3⟩ := hr
  exact ⟨r, hx, h1, h2, h3.thawed (killV_none m)⟩
end Go.Proofs.Ytofblakbfmjgkaa.Vx


namespace Go.Proofs.Ytofblakbfmjgkaa.Vx
open Go Go.RowKit

def shiftR (i : Nat) (row : Nat → List Value) : Nat → List Value := match i with
  | 0 => row
  | i + 1 => fun j => row (i + 1 + j)
theorem shiftR_at (i : Nat) (row : Nat → List Value) (j : Nat) : shiftR i row j = row (i + j) := by cases i <;> simp [shiftR]
/-- Rows that can be lent. -/
def rowsAt : Option Blk → Option (Nat × Nat × (Nat → List Value))
  | some (.rows _ true e n row) => some (e, n, row)
  | some (.grow true e n row) => some (e, n, row)
  | _ => none
def sliceAt : Value → Option (Nat × Nat × Nat × Nat)
  | .slice (some a) n e => match a.off, a.spot with
    | 0, some i => some (a.block, i, n, e)
    | _, _ => none
  | _ => none
/-- Each slice that is handed in is a block of its own, which is only read. -/
def lendA (m : Mem) : List Value → Nat → Option (List Value × Mem × Bool)
  | [], _ => some ([], [], true)
  | v :: l, k => match sliceAt v with
    | some (b, i, n, e) => match rowsAt m[b]? with
      | some (e2, n2, row) => match Nat.beq e2 e with
        | true => match lendA m l (k + 1) with
          | some (ags, ms, c) => some (.slice (some ⟨k, 0, some 0⟩) n e :: ags, .rows false true e n (shiftR i row) :: ms, Nat.ble (i + n) n2 && c)
          | none => none
        | false => none
      | none => none
    | none => match plain v with
      | true => match lendA m l k with
        | some (ags, ms, c) => some (v :: ags, ms, c)
        | none => none
      | false => none
theorem sliceAt_spec {v : Value} {b i n e : Nat} (h : sliceAt v = some (b, i, n, e)) : v = .slice (some ⟨b, 0, some i⟩) n e := by
  cases v with
  | slice a n2 e2 =>
    cases a with
    | none => cases h
    | some a =>
      obtain ⟨b2, off, spot⟩ := a
      cases off with
      | succ o => cases h
      | zero =>
        cases spot with
        | none => cases h
        | some j =>
          simp only [sliceAt, Option.some.injEq, Prod.mk.injEq] at h
          obtain ⟨rfl, rfl, rfl, rfl⟩ := h
          rfl
  | _ => cases h
theorem rowsAt_rel {w : World} {r : Ren} {p : Place} {kk : Blk} {e n : Nat} {row : Nat → List Value} (hb : BlkRel w r p kk) (h : rowsAt (some kk) = some (e, n, row)) :
    p.esz = e ∧ p.n = n ∧ (∀ i, i < n → allL plain0 (row i) = true) ∧ ∃ cs T fz, w.heap[p.blk]? = some (.cells cs T fz) ∧ ∀ i, i < n → (row i).length = e ∧ CellsAt r cs (p.off + i * e) (row i) := by
  cases kk with
  | rows own pl e2 n2 row2 =>
    cases pl with
    | false => cases h
    | true =>
      simp only [rowsAt, Option.some.injEq, Prod.mk.injEq] at h
      obtain ⟨rfl, rfl, rfl⟩ := h
      obtain ⟨h1, h2, h0, hp, cs, T, fz, h6, h3, h4, h5⟩ := hb
      exact ⟨h2, h0, hp rfl, cs, T, fz, h3, h5⟩
  | grow pl e2 n2 row2 =>
    cases pl with
    | false => cases h
    | true =>
      simp only [rowsAt, Option.some.injEq, Prod.mk.injEq] at h
      obtain ⟨rfl, rfl, rfl⟩ := h
      obtain ⟨h1, h2, h0, hp, cs, T, fz, h3, h4, h5⟩ := hb
      exact ⟨h2, h0, hp rfl, cs, T, fz, h3, h5⟩
  | _ => cases h
theorem lend_ok {w0 w : World} {keep : Keep} {r : Ren} {m : Mem} (hm : MemRel w0 keep r m w) : ∀ (args : List Value) (k : Nat) {ags : List Value} {ms : Mem} {c : Bool} {args' : List Value}, lendA m args k = some (ags, ms, c) → c = true → RL (R r) args args' →
    ∃ ps : List Place, ps.length = ms.length ∧ (∀ (rl : Ren), (∀ (i : Nat) p, ps[i]? = some p → rl (k + i) = some (some p)) → RL (R rl) ags args') ∧ ∀ (i : Nat) p, ps[i]? = some p → p.own = false ∧ p.room = 0 ∧ (∃ b q, r b = some (some q) ∧ q.blk = p.blk) ∧ ∃ kk, ms[i]? = some kk ∧ ∀ rl : Ren, BlkRel w rl p kk
  | [], k, ags, ms, c, args', h, hc, ha => by
    simp only [lendA, Option.some.injEq, Prod.mk.injEq] at h
    obtain ⟨rfl, rfl, -⟩ := h
    exact ⟨[], rfl, fun _ _ => by cases args' with | nil => trivial | cons => exact ha.elim, fun i p hp => by simp at hp⟩
  | v :: l, k, ags, ms, c, [], h, hc, ha => ha.elim
  | v :: l, k, ags, ms, c, v' :: l', h, hc, ha => by
    simp only [lendA] at h
    split at h
    · rename_i b i n e hv
      have hv := sliceAt_spec hv
      subst hv
      split at h
      · rename_i e2 n2 row hrow
        split at h
        · rename_i he
          have he := Nat.eq_of_beq_eq_true he
          subst he
          split at h
          · rename_i ags1 ms1 c1 hl
            simp only [Option.some.injEq, Prod.mk.injEq] at h
            obtain ⟨rfl, rfl, rfl⟩ := h
            rw [Bool.and_eq_true] at hc
            obtain ⟨ps, h1, h2, h3⟩ := lend_ok hm l (k + 1) hl hc.2 ha.2
            have hle : i + n ≤ n2 := Nat.le_of_ble_eq_true hc.1
            have hv : R0 r (.slice (some ⟨b, 0, some i⟩) n e2) v' := ha.1
            unfold R0 at hv
            simp only at hv
            cases hr : r b with
            | none => rw [hr] at hv; exact hv.elim
            | some q =>
              cases q with
              | none =>
                rw [hm.dead b hr] at hrow
                cases hrow
              | some p =>
                rw [hr] at hv
                simp only at hv
                obtain ⟨cc, rfl, s1, s2, s3, s4, s5⟩ := hv
                obtain ⟨kk, hkb, hrel⟩ := hm.blk b p hr
                rw [hkb] at hrow
                obtain ⟨q1, q2, q3, cs, T, fz, q4, q5⟩ := rowsAt_rel hrel hrow
                refine ⟨⟨p.blk, p.off + i * e2, e2, n, 0, false⟩ :: ps, by simp [h1], fun rl hrl => ⟨?_, h2 rl fun j q hq => ?_⟩, fun j q hq => ?_⟩
                · have := hrl 0 _ rfl
                  simp only [Nat.add_zero] at this
                  have hg : R0 rl (.slice (some ⟨k, 0, some 0⟩) n e2) (.slice (some (p.addr ⟨b, 0, some i⟩)) n cc) := by
                    unfold R0
                    simp only [this]
                    refine ⟨cc, by simp [Place.addr, q1], s1, fun j hj => ?_, fun _ => rfl, fun _ => rfl, fun h => by cases h⟩
                    simp only [Option.some.injEq] at hj
                    subst hj
                    simp
                  exact hg
                · have := hrl (j + 1) q (by simpa using hq)
                  rw [← this]; congr 1; omega
                · cases j with
                  | zero =>
                    simp only [List.getElem?_cons_zero, Option.some.injEq] at hq
                    subst hq
                    refine ⟨rfl, rfl, ⟨b, p, hr, rfl⟩, _, rfl, fun rl => ⟨rfl, rfl, rfl, fun _ j hj => ?_, cs, T, fz, fun _ => rfl, q4, (fun h => by cases h), fun j hj => ?_⟩⟩
                    · rw [shiftR_at]; exact q3 _ (by omega)
                    · rw [shiftR_at]
                      refine ⟨(q5 _ (by omega)).1, fun t u hu => ?_⟩
                      have hpu := allL_iff.1 (q3 (i + j) (by omega)) u (List.mem_of_getElem? hu)
                      obtain ⟨u', g1, g2⟩ := (q5 (i + j) (by omega)).2 t u hu
                      refine ⟨u', ?_, (R0_plain hpu).2 ((R0_plain hpu).1 g2)⟩
                      simp only
                      rw [Nat.add_assoc p.off, ← Nat.add_mul]
                      exact g1
                  | succ j =>
                    simp only [List.getElem?_cons_succ] at hq ⊢
                    exact h3 j q hq
          · cases h
        · cases h
      · cases h
    · split at h
      · rename_i hp
        split at h
        · rename_i ags1 ms1 c1 hl
          simp only [Option.some.injEq, Prod.mk.injEq] at h
          obtain ⟨rfl, rfl, rfl⟩ := h
          obtain ⟨ps, h1, h2, h3⟩ := lend_ok hm l k hl hc ha.2
          exact ⟨ps, h1, fun rl hrl => ⟨(R_plain hp).2 ((R_plain hp).1 ha.1), h2 rl hrl⟩, h3⟩
        · cases h
      · cases h

def ownB : Blk → Bool
  | .cells own _ _ => own
  | .rows own _ _ _ _ => own
  | .view .. => false
  | _ => true
theorem ownB_own {w : World} {r : Ren} {p : Place} {k : Blk} (h : BlkRel w r p k) (ho : ownB k = true) : p.own = true := by
  cases k with
  | cells own e c => simp only [ownB] at ho; rw [h.1, ho]
  | rows own pl e n row => simp only [ownB] at ho; rw [h.1, ho]
  | grow pl e n row => exact h.1
  | view pl e n row => cases ho
  | iter s pos => exact h.1
  | mp u n es => exact h.1
  | no => exact h.elim
  | gone => exact h.elim
/-- What is made beside what is there. -/
theorem MemRel.join {w0 w w' : World} {keep kp : Keep} {r rn : Ren} {m mn : Mem} (hm : MemRel w0 keep r m w) (g : MemRel w kp rn mn w') (hk : ∀ j, keep j → kp j) (ho : ∀ b p, r b = some (some p) → kp p.blk) (hown : allB ownB mn = true) :
    MemRel w0 keep (r.back rn [] m.length) (m ++ mapB (unrB [] m.length) mn) w' ∧ Ext r (r.back rn [] m.length) := by
  have hlo : ∀ {b : Nat}, b < m.length → (r.back rn [] m.length) b = r b := fun {b} hb => by simp [Ren.back, idxN, hb]
  have hhi : ∀ {b : Nat}, ¬ b < m.length → (r.back rn [] m.length) b = rn (b - m.length) := fun {b} hb => by simp [Ren.back, idxN, hb]
  have mlo : ∀ {b : Nat}, b < m.length → (m ++ mapB (unrB [] m.length) mn)[b]? = m[b]? := fun {b} hb => List.getElem?_append_left hb
  have mhi : ∀ {b : Nat}, ¬ b < m.length → (m ++ mapB (unrB [] m.length) mn)[b]? = (mn[b - m.length]?).map (unrB [] m.length) := fun {b} hb => by
    rw [List.getElem?_append_right (by omega), mapB_get]
  have newO : ∀ {b : Nat} {p : Place}, rn b = some (some p) → p.own = true := fun {b p} hb => by
    obtain ⟨k, h1, h2⟩ := g.blk b p hb
    exact ownB_own h2 (allB_iff.1 hown k (List.mem_of_getElem? h1))
  have hext : Ext r (r.back rn [] m.length) := fun b => by
    by_cases hb : b < m.length
    · exact Or.inr (Or.inl (hlo hb))
    · exact Or.inl (hm.none b (Or.inl (List.getElem?_eq_none (by omega))))
  refine ⟨⟨g.os.trans hm.os, g.tape.trans hm.tape, g.output.trans hm.output, Nat.le_trans hm.drawn g.drawn, Nat.le_trans hm.size g.size, hm.klt, fun j hj => (g.kept j (hk j hj)).trans (hm.kept j hj), fun b hb => ?_, fun b hb => ?_, fun b p hb => ?_, fun b p hb hp => ?_, fun b p hb hp hz => ?_, fun b p hb hp hz => ?_, fun b c p q hb hc hp hz => ?_, fun b c p q hb hc hp hq he => ?_⟩, hext⟩
  · by_cases hl : b < m.length
    · rw [hlo hl]; rw [mlo hl] at hb; exact hm.none b hb
    · rw [hhi hl]
      rw [mhi hl] at hb
      refine g.none _ ?_
      cases hx : mn[b - m.length]? with
      | none => exact Or.inl rfl
      | some k =>
        rw [hx] at hb
        simp only [Option.map_some, Option.some.injEq, reduceCtorEq, false_or] at hb
        exact Or.inr (by rw [unrB_no.1 hb])
  · by_cases hl : b < m.length
    · rw [hlo hl] at hb; rw [mlo hl]; exact hm.dead b hb
    · rw [hhi hl] at hb
      rw [mhi hl, g.dead _ hb]
      rfl
  · by_cases hl : b < m.length
    · rw [hlo hl] at hb
      rw [mlo hl]
      obtain ⟨k, h1, h2⟩ := hm.blk b p hb
      exact ⟨k, h1, h2.mono (g.kept _ (ho b p hb)) hext⟩
    · rw [hhi hl] at hb
      rw [mhi hl]
      obtain ⟨k, h1, h2⟩ := g.blk _ p hb
      exact ⟨_, by rw [h1]; rfl, BlkRel_back (r := r) (ks := []) rfl rfl h2⟩
  · by_cases hl : b < m.length
    · rw [hlo hl] at hb; exact hm.own b p hb hp
    · rw [hhi hl] at hb; exact fun hk2 => g.own _ p hb hp (hk _ hk2)
  · by_cases hl : b < m.length
    · rw [hlo hl] at hb; exact hm.read b p hb hp hz
    · rw [hhi hl] at hb; rw [newO hb] at hp; cases hp
  · by_cases hl : b < m.length
    · rw [hlo hl] at hb; exact hm.vw b p hb hp hz
    · rw [hhi hl] at hb; rw [newO hb] at hp; cases hp
  · intro hq he
    by_cases hl : b < m.length
    · rw [hlo hl] at hb
      by_cases hl2 : c < m.length
      · rw [hlo hl2] at hc; rw [mlo hl2]; exact hm.sep b c p q hb hc hp hz hq he
      · rw [hhi hl2] at hc
        exact absurd (he ▸ ho b p hb) (g.own _ q hc hq)
    · rw [hhi hl] at hb; rw [newO hb] at hp; cases hp
  · by_cases hl : b < m.length
    · rw [hlo hl] at hb
      by_cases hl2 : c < m.length
      · rw [hlo hl2] at hc; exact hm.inj b c p q hb hc hp hq he
      · rw [hhi hl2] at hc
        exact absurd (he ▸ ho b p hb) (g.own _ q hc hq)
    · rw [hhi hl] at hb
      by_cases hl2 : c < m.length
      · rw [hlo hl2] at hc
        exact absurd (he ▸ ho c q hc) (g.own _ p hb hp)
      · rw [hhi hl2] at hc
        have := g.inj _ _ p q hb hc hp hq he
        omega

def fromN (k : Nat) : Nat → List Nat
  | 0 => []
  | n + 1 => k :: fromN (k + 1) n
def lendG (S : List Value → Mem → Option (Ans (Value × Mem))) (args : List Value) (m : Mem) : Option (Ans (Value × Mem)) := match lendA m args 0 with
  | some (ags, ms, c) => forceL ags fun ags => forceM ms fun ms => match S ags ms with
    | some ans => some (.br c (ans.bind fun vm => forceN (fromN ms.length (vm.2.length - ms.length)) fun ks => match noDup ks && allB noViewB m with
      | true => forceM (renM ks vm.2 ks) fun mn => match allB ownB mn with
        | true => .out (unrV [] m.length (renV ks vm.1), m ++ mapB (unrB [] m.length) mn)
        | false => .fail
      | false => .fail) .fail)
    | none => none
  | none => none
/-- A call that is lent what it reads: what was there is as it was. -/
theorem lend_call {P : Program} {f : FuncId} {args ags : List Value} {m ms mu : Mem} {c : Bool} {u : Value} (hA : lendA m args 0 = some (ags, ms, c)) (hc : c = true) (hS : MemSem P f ags ms u mu) {w0 : World} {keep : Keep} {r : Ren} {args' : List Value} {w : World} (hargs : RL (R r) args args') (hm : MemRel w0 keep r m w) {Q : Ending → World → Prop}
    (hQ : ∀ v' rs w' (kp : Keep), R rs u v' → MemRel w kp rs mu w' → (∀ j, keep j → kp j) → (∀ b p, r b = some (some p) → kp p.blk) → Q (.returned v') w') : Calls P f args'.toArray w Q := by
  obtain ⟨ps, hl, hR, hB⟩ := lend_ok hm args 0 hA hc hargs
  let rl : Ren := fun i => (ps[i]?).map some
  let K : Nat → Prop := fun j => keep j ∨ ∃ b p, r b = some (some p) ∧ p.blk = j
  let kp : Keep := ⟨K, K, fun _ h => h⟩
  have hrl : ∀ {i : Nat} {p : Place}, rl i = some (some p) → ps[i]? = some p := fun {i p} hi => by
    simp only [rl] at hi
    cases hx : ps[i]? with
    | none => rw [hx] at hi; cases hi
    | some q => rw [hx] at hi; simpa using hi
  have hsm : MemRel w kp rl ms w := by
    refine ⟨rfl, rfl, rfl, Nat.le_refl _, Nat.le_refl _, fun j hj => ?_, fun _ _ => rfl, fun b hb => ?_, fun b hb => ?_, fun b p hb => ?_, fun b p hb hp => ?_, fun b p hb hp hz => ?_, fun b p hb hp hz => ?_, fun b c p q hb hc hp hz => ?_, fun b c p q hb hc hp hq he => ?_⟩
    · rcases hj with hj | ⟨b, p, hb, rfl⟩
      · have := hm.klt j hj; have := hm.size; omega
      · obtain ⟨k, _, hk⟩ := hm.blk b p hb
        exact hk.lt
    · simp only [rl]
      cases hx : ps[b]? with
      | none => rfl
      | some p =>
        obtain ⟨_, _, _, kk, h5, h6⟩ := hB b p hx
        rw [h5] at hb
        rcases hb with hb | hb
        · cases hb
        · simp only [Option.some.injEq] at hb
          subst hb
          exact ((h6 rl) : False).elim
    · simp only [rl] at hb
      cases hx : ps[b]? with
      | none => rw [hx] at hb; cases hb
      | some p => rw [hx] at hb; cases hb
    · obtain ⟨_, _, _, kk, h5, h6⟩ := hB b p (hrl hb)
      exact ⟨kk, h5, h6 rl⟩
    · rw [(hB b p (hrl hb)).1] at hp; cases hp
    · exact Or.inr (hB b p (hrl hb)).2.2.1
    · exact absurd (hB b p (hrl hb)).2.1 hz
    · exact absurd (hB b p (hrl hb)).2.1 hz
    · rw [(hB b p (hrl hb)).1] at hp; cases hp
  refine (hS.2 w kp rl args' w (hR rl fun i p hp => by simp only [Nat.zero_add, rl, hp]; rfl) hsm).mono ?_
  rintro e w' ⟨v', rs, rfl, g1, g2, g3⟩
  exact hQ v' rs w' kp g1 g2 (fun j hj => Or.inl hj) (fun b p hb => Or.inr ⟨b, p, hb, rfl⟩)
theorem lendG_ok {P : Program} {f : FuncId} {S : List Value → Mem → Option (Ans (Value × Mem))} (h : ∀ args m ans v m', S args m = some ans → ans.res = some (v, m') → MemSem P f args m v m') {args : List Value} {m m' : Mem} {ans : Ans (Value × Mem)} {v : Value}
    (ha : lendG S args m = some ans) (hr : ans.res = some (v, m')) : MemSem P f args m v m' := by
  unfold lendG at ha
  split at ha
  rotate_left
  · cases ha
  rename_i ags ms c hA
  rw [forceL_eq, forceM_eq] at ha
  split at ha
  rotate_left
  · cases ha
  rename_i ans0 hS
  simp only [Option.some.injEq] at ha
  subst ha
  rcases Ans.br_some hr with ⟨hc, hr⟩ | ⟨_, hr⟩
  rotate_left
  · simp [Ans.res] at hr
  obtain ⟨⟨u, mu⟩, h1, h2⟩ := Ans.bind_some hr
  simp only at h2
  rw [forceN_eq] at h2
  split at h2
  rotate_left
  · simp [Ans.res] at h2
  rename_i hb
  rw [Bool.and_eq_true] at hb
  rw [forceM_eq] at h2
  split at h2
  rotate_left
  · simp [Ans.res] at h2
  rename_i hown
  simp only [Ans.res, Option.some.injEq, Prod.mk.injEq] at h2
  obtain ⟨rfl, rfl⟩ := h2
  have hS := h _ _ _ _ _ hS h1
  refine ⟨hS.1, fun w0 keep r args' w hargs hm => lend_call hA hc hS hargs hm fun v' rs w' kp g1 g2 k1 k2 => ?_⟩
  obtain ⟨j1, j2⟩ := MemRel.join hm (MemRel_via g2 hb.1) k1 k2 hown
  exact ⟨v', _, rfl, R_back (r := r) (ks := []) rfl rfl (R_via (ks := fromN ms.length (mu.length - ms.length)) g1), j1, j2⟩
def lendF (S : List Value → Mem → Option (Ans (Value × Mem))) (args : List Value) (m : Mem) : Option (Ans (Value × Mem)) := forceM (thaw (killV m)) fun m => lendG S args m
theorem lendF_ok {P : Program} {f : FuncId} {S : List Value → Mem → Option (Ans (Value × Mem))} (h : ∀ args m ans v m', S args m = some ans → ans.res = some (v, m') → MemSem P f args m v m') {args : List Value} {m m' : Mem} {ans : Ans (Value × Mem)} {v : Value}
    (ha : lendF S args m = some ans) (hr : ans.res = some (v, m')) : MemSem P f args m v m' := by
  unfold lendF at ha
  rw [forceM_eq] at ha
  exact (lendG_ok h ha hr).fresh
/-- A function that reads what it is handed, and makes what it answers. -/
def Cx.addE (C : Cx) (f : FuncId) (S : List Value → Mem → Option (Ans (Value × Mem))) : Cx := C.addM f (lendF S)
theorem Cx.addE_ok {C : Cx} (hC : CxOk C) {f : FuncId} {S : List Value → Mem → Option (Ans (Value × Mem))} (h : ∀ args m ans v m', S args m = some ans → ans.res = some (v, m') → MemSem C.P f args m v m') : CxOk (C.addE f S) :=
  Cx.addM_ok hC fun _ _ _ _ _ ha hr => lendF_ok h ha hr
/-- What is told of a function, told where it is lent what it reads. -/
def Cx.lend (C : Cx) (f : FuncId) : Cx := C.addM f (lendF fun args m => C.tbm f args m)
theorem Cx.lend_ok {C : Cx} (hC : CxOk C) (f : FuncId) : CxOk (C.lend f) :=
  Cx.addM_ok hC fun _ _ _ _ _ ha hr => lendF_ok (fun args m ans v m' h hr => hC.tbm f args m ans v m' h hr) ha hr
/-- A call that makes nothing and changes nothing. -/
def lendP (S : List Value → Mem → Option (Ans (Value × Mem))) (args : List Value) (m : Mem) : Option (Ans (Value × Mem)) := match lendA m args 0 with
  | some (ags, ms, c) => forceL ags fun ags => forceM ms fun ms => match S ags ms with
    | some ans => some (.br c (ans.bind fun vm => match plain vm.1 with
      | true => .out (vm.1, m)
      | false => .fail) .fail)
    | none => none
  | none => none
theorem lendP_spec {S : List Value → Mem → Option (Ans (Value × Mem))} {args : List Value} {m m' : Mem} {ans : Ans (Value × Mem)} {v : Value} (ha : lendP S args m = some ans) (hr : ans.res = some (v, m')) :
    m' = m ∧ ∃ ags ms mu a0, lendA m args 0 = some (ags, ms, true) ∧ S ags ms = some a0 ∧ a0.res = some (v, mu) ∧ plain v = true := by
  unfold lendP at ha
  split at ha
  rotate_left
  · cases ha
  rename_i ags ms c hA
  rw [forceL_eq, forceM_eq] at ha
  split at ha
  rotate_left
  · cases ha
  rename_i ans0 hS
  simp only [Option.some.injEq] at ha
  subst ha
  rcases Ans.br_some hr with ⟨hc, hr⟩ | ⟨_, hr⟩
  rotate_left
  · simp [Ans.res] at hr
  obtain ⟨⟨u, mu⟩, h1, h2⟩ := Ans.bind_some hr
  simp only at h2
  split at h2
  · rename_i hp
    simp only [Ans.res, Option.some.injEq, Prod.mk.injEq] at h2
    obtain ⟨rfl, rfl⟩ := h2
    exact ⟨rfl, ags, ms, mu, ans0, by rw [hA, hc], hS, h1, hp⟩
  · simp [Ans.res] at h2
theorem lendP_ok {P : Program} {f : FuncId} {S : List Value → Mem → Option (Ans (Value × Mem))} (h : ∀ args m ans v m', S args m = some ans → ans.res = some (v, m') → MemSem P f args m v m') {args : List Value} {m m' : Mem} {ans : Ans (Value × Mem)} {v : Value}
    (ha : lendP S args m = some ans) (hr : ans.res = some (v, m')) : MemSem P f args m v m' := by
  obtain ⟨rfl, ags, ms, mu, a0, hA, hS, h1, hp⟩ := lendP_spec ha hr
  have hS := h _ _ _ _ _ hS h1
  refine ⟨hS.1, fun w0 keep r args' w hargs hm => lend_call hA rfl hS hargs hm fun v' rs w' kp g1 g2 k1 k2 => ?_⟩
  obtain ⟨j1, j2⟩ := MemRel.join hm (MemRel_via (ks := []) g2 rfl) k1 k2 rfl
  simp only [renM, mapB, List.append_nil] at j1
  exact ⟨v', _, rfl, (R_plain hp).2 ((R_plain hp).1 g1), j1, j2⟩
theorem lendA_set {m : Mem} {q : Nat} {k : Blk} (hq : m[q]? = some .no) : ∀ (args : List Value) (i : Nat) (x : List Value × Mem × Bool), lendA m args i = some x → lendA (m.set q k) args i = some x
  | [], _, _, h => h
  | v :: l, i, x, h => by
    simp only [lendA] at h ⊢
    split at h
    · rename_i b j n e hv
      split at h
      · rename_i e2 n2 row hrow
        have hne : q ≠ b := fun e => by subst e; rw [hq] at hrow; cases hrow
        rw [List.getElem?_set_ne hne, hrow]
        simp only
        split at h
        · rename_i he
          try simp only [he]
          split at h
          · rename_i a1 m1 c1 hl
            rw [lendA_set hq l (i + 1) _ hl]
            exact h
          · cases h
        · cases h
      · cases h
    · split at h
      · rename_i hp
        try simp only [hp]
        split at h
        · rename_i a1 m1 c1 hl
          rw [lendA_set hq l i _ hl]
          exact h
        · cases h
      · cases h
theorem allB_set {p : Blk → Bool} {m : Mem} {q : Nat} {k : Blk} (h : allB p m = true) (hk : p k = true) : allB p (m.set q k) = true := allB_iff.2 fun x hx => by
  rcases List.mem_or_eq_of_mem_set hx with h1 | h1
  · exact allB_iff.1 h x h1
  · rw [h1]; exact hk
theorem lendG_new {S : List Value → Mem → Option (Ans (Value × Mem))} {args : List Value} {m m' : Mem} {ans : Ans (Value × Mem)} {v : Value} (ha : lendG S args m = some ans) (hr : ans.res = some (v, m')) : ∃ new, m' = m ++ new ∧ ∀ (q : Nat) k, noViewB k = true → m[q]? = some .no → ∃ ans', lendG S args (m.set q k) = some ans' ∧ ans'.res = some (v, m.set q k ++ new) := by
  unfold lendG at ha
  split at ha
  rotate_left
  · cases ha
  rename_i ags ms c hA
  rw [forceL_eq, forceM_eq] at ha
  split at ha
  rotate_left
  · cases ha
  rename_i a0 hS
  simp only [Option.some.injEq] at ha
  subst ha
  rcases Ans.br_some hr with ⟨hc, hr⟩ | ⟨_, hr⟩
  rotate_left
  · simp [Ans.res] at hr
  obtain ⟨⟨u, mu⟩, h1, h2⟩ := Ans.bind_some hr
  simp only at h2
  rw [forceN_eq] at h2
  split at h2
  rotate_left
  · simp [Ans.res] at h2
  rename_i hb
  rw [forceM_eq] at h2
  split at h2
  rotate_left
  · simp [Ans.res] at h2
  rename_i hown
  simp only [Ans.res, Option.some.injEq, Prod.mk.injEq] at h2
  obtain ⟨rfl, rfl⟩ := h2
  refine ⟨_, rfl, fun q k hk hq => ?_⟩
  unfold lendG
  rw [lendA_set hq args 0 _ hA]
  simp only [forceL_eq, forceM_eq, forceN_eq, hS]
  refine ⟨_, rfl, ?_⟩
  rw [Bool.and_eq_true] at hb
  subst hc
  simp only [Ans.res]
  rw [Ans.res_bind, h1]
  simp only [Option.bind_some, hb.1, allB_set hb.2 hk, Bool.and_self, hown, List.length_set]
  rfl
theorem lendP_rd {S : List Value → Mem → Option (Ans (Value × Mem))} {args : List Value} {m m' : Mem} {ans : Ans (Value × Mem)} {v : Value} (ha : lendP S args m = some ans) (hr : ans.res = some (v, m')) :
    m' = m ∧ ∀ (q : Nat) k, m[q]? = some .no → ∃ ans', lendP S args (m.set q k) = some ans' ∧ ans'.res = some (v, m.set q k) := by
  obtain ⟨e, ags, ms, mu, a0, hA, hS, h1, hp⟩ := lendP_spec ha hr
  refine ⟨e, fun q k hq => ?_⟩
  unfold lendP
  rw [lendA_set hq args 0 _ hA]
  simp only [forceL_eq, forceM_eq, hS]
  refine ⟨_, rfl, ?_⟩
  simp only [Ans.res]
  rw [Ans.res_bind, h1]
  simp only [Option.bind_some, hp]
  rfl
end Go.Proofs.Ytofblakbfmjgkaa.Vx


namespace Go.Proofs.Ytofblakbfmjgkaa.Vx
open Go Go.RowKit
/-- One road of a tree; on the others nothing is told. -/
def pickA {α : Type} : List Bool → Ans α → Ans α
  | true :: p, .br b t _ => .br b (pickA p t) .fail
  | false :: p, .br b _ f => .br b .fail (pickA p f)
  | _, x => x
theorem pickA_ok {α : Type} {a : α} : ∀ (p : List Bool) (x : Ans α), (pickA p x).res = some a → x.res = some a
  | [], x, h => by cases x <;> exact h
  | true :: p, .br b t f, h => by
    rcases Ans.br_some h with ⟨hb, h1⟩ | ⟨hb, h1⟩
    · subst hb; exact pickA_ok p t h1
    · simp [Ans.res] at h1
  | false :: p, .br b t f, h => by
    rcases Ans.br_some h with ⟨hb, h1⟩ | ⟨hb, h1⟩
    · simp [Ans.res] at h1
    · subst hb; exact pickA_ok p f h1
  | true :: p, .out a, h => h
  | false :: p, .out a, h => h
  | true :: p, .fail, h => h
  | false :: p, .fail, h => h
/-- No error; yes. -/
def asm1 : Value → Bool × Value
  | .int k e => (e == 0, .int k 0)
  | .bool b => (b, .bool true)
  | v => (true, v)
def asmV : Value → Bool × Value
  | .tuple vs => match vs.toList with
    | [a, b] => ((asm1 b).1, .tuple #[a, (asm1 b).2])
    | [a, b, c] => ((asm1 c).1, .tuple #[a, b, (asm1 c).2])
    | _ => (true, .tuple vs)
  | v => asm1 v
theorem asm1_ok {v : Value} (h : (asm1 v).1 = true) : (asm1 v).2 = v := by
  cases v with
  | int k e => simp only [asm1] at h ⊢; rw [(beq_iff_eq.1 h)]
  | bool b => simp only [asm1] at h ⊢; rw [h]
  | _ => rfl
theorem asmV_ok {v : Value} (h : (asmV v).1 = true) : (asmV v).2 = v := by
  cases v with
  | tuple vs =>
    unfold asmV at h ⊢
    simp only at h ⊢
    split at h
    · rename_i a b he
      rw [asm1_ok h]
      congr 1
      rw [← he]
    · rename_i a b c he
      rw [asm1_ok h]
      congr 1
      rw [← he]
    · rfl
  | int k e => exact asm1_ok (v := .int k e) h
  | bool b => exact asm1_ok (v := .bool b) h
  | _ => rfl
def asmA (x : Ans (Value × Mem)) : Ans (Value × Mem) := x.bind fun vm => .br (asmV vm.1).1 (.out ((asmV vm.1).2, vm.2)) .fail
theorem asmA_ok {x : Ans (Value × Mem)} {v : Value} {m : Mem} (h : (asmA x).res = some (v, m)) : x.res = some (v, m) := by
  obtain ⟨⟨u, mu⟩, h1, h2⟩ := Ans.bind_some h
  rcases Ans.br_some h2 with ⟨hb, h3⟩ | ⟨_, h3⟩
  · simp only [Ans.res, Option.some.injEq, Prod.mk.injEq] at h3
    obtain ⟨rfl, rfl⟩ := h3
    rw [h1, asmV_ok hb]
  · simp [Ans.res] at h3
/-- A function of which one road is wanted, with no error; it is lent what it reads. -/
def Cx.good (C : Cx) (f : FuncId) (p : List Bool) : Cx := C.addM f (lendF fun args m => match C.tbm f args m with
  | some ans => some (asmA (pickA p ans))
  | none => none)
theorem Cx.good_ok {C : Cx} (hC : CxOk C) (f : FuncId) (p : List Bool) : CxOk (C.good f p) :=
  Cx.addM_ok hC fun _ _ _ _ _ ha hr => lendF_ok (fun args m ans v m' h hr => by
    split at h
    · rename_i a0 h0
      simp only [Option.some.injEq] at h
      subst h
      exact hC.tbm f args m a0 v m' h0 (pickA_ok p a0 (asmA_ok hr))
    · cases h) ha hr
/-- The same, with what it answers as it is. -/
def Cx.road (C : Cx) (f : FuncId) (p : List Bool) : Cx := C.addM f (lendF fun args m => match C.tbm f args m with
  | some ans => some (pickA p ans)
  | none => none)
theorem Cx.road_ok {C : Cx} (hC : CxOk C) (f : FuncId) (p : List Bool) : CxOk (C.road f p) :=
  Cx.addM_ok hC fun _ _ _ _ _ ha hr => lendF_ok (fun args m ans v m' h hr => by
    split at h
    · rename_i a0 h0
      simp only [Option.some.injEq] at h
      subst h
      exact hC.tbm f args m a0 v m' h0 (pickA_ok p a0 hr)
    · cases h) ha hr
/-- A function that only looks (1), or that makes something beside what is there (2). -/
def Cx.roadS (C : Cx) (f : FuncId) (p : List Bool) (args : List Value) (m : Mem) : Option (Ans (Value × Mem)) := match C.tbm f args m with
  | some ans => some (pickA p ans)
  | none => none
theorem Cx.roadS_ok {C : Cx} (hC : CxOk C) {f : FuncId} {p : List Bool} (args : List Value) (m : Mem) (ans : Ans (Value × Mem)) (v : Value) (m' : Mem) (h : C.roadS f p args m = some ans) (hr : ans.res = some (v, m')) : MemSem C.P f args m v m' := by
  unfold Cx.roadS at h
  split at h
  · rename_i a0 h0
    simp only [Option.some.injEq] at h
    subst h
    exact hC.tbm f args m a0 v m' h0 (pickA_ok p a0 hr)
  · cases h
def Cx.putRd (C : Cx) (f : FuncId) (z : Nat) (F : List Value → Mem → Option (Ans (Value × Mem))) : Cx := { C with
  tbm := fun g args m => match Nat.beq g f with
    | true => F args m
    | false => C.tbm g args m
  rd := fun g => match Nat.beq g f with
    | true => z
    | false => C.rd g
  inl := fun g => match Nat.beq g f with
    | true => none
    | false => C.inl g }
theorem Cx.putRd_ok {C : Cx} (hC : CxOk C) {f : FuncId} {z : Nat} {F : List Value → Mem → Option (Ans (Value × Mem))} (h0 : ∀ args m ans v m', F args m = some ans → ans.res = some (v, m') → MemSem C.P f args m v m')
    (h1 : z = 1 → ∀ args m ans v m', F args m = some ans → ans.res = some (v, m') → m' = m ∧ ∀ (q : Nat) k, m[q]? = some .no → ∃ ans', F args (m.set q k) = some ans' ∧ ans'.res = some (v, m.set q k))
    (h2 : z = 2 → ∀ args m ans v m', F args m = some ans → ans.res = some (v, m') → ∃ new, m' = m ++ new ∧ ∀ (q : Nat) k, noViewB k = true → m[q]? = some .no → ∃ ans', F args (m.set q k) = some ans' ∧ ans'.res = some (v, m.set q k ++ new)) : CxOk (C.putRd f z F) := by
  refine ⟨hC.mixed, hC.tbl, ?_, hC.keys, fun g fn hg => ?_, hC.lp, ?_, ?_⟩
  rotate_left
  · simp only [Cx.putRd] at hg
    cases hb : Nat.beq g f with
    | true => simp only [hb] at hg; cases hg
    | false => simp only [hb] at hg; exact hC.inl g fn hg
  rotate_right
  · intro g args m ans v m' ha hr
    simp only [Cx.putRd] at ha
    cases hg : Nat.beq g f with
    | false => simp only [hg] at ha; exact hC.tbm g args m ans v m' ha hr
    | true =>
      have hgf := Nat.eq_of_beq_eq_true hg
      subst hgf
      simp only [hg] at ha
      exact h0 args m ans v m' ha hr
  · intro g hg args m ans v m' ha hr
    simp only [Cx.putRd] at hg ha ⊢
    cases hb : Nat.beq g f with
    | false => simp only [hb] at hg ha ⊢; exact hC.rd g hg args m ans v m' ha hr
    | true => simp only [hb] at hg ha ⊢; exact h1 hg args m ans v m' ha hr
  · intro g hg args m ans v m' ha hr
    simp only [Cx.putRd] at hg ha ⊢
    cases hb : Nat.beq g f with
    | false => simp only [hb] at hg ha ⊢; exact hC.rd2 g hg args m ans v m' ha hr
    | true => simp only [hb] at hg ha ⊢; exact h2 hg args m ans v m' ha hr
def Cx.looks (C : Cx) (f : FuncId) (p : List Bool) : Cx := C.putRd f 1 (lendP (C.roadS f p))
theorem Cx.looks_ok {C : Cx} (hC : CxOk C) (f : FuncId) (p : List Bool) : CxOk (C.looks f p) :=
  Cx.putRd_ok hC (fun _ _ _ _ _ ha hr => lendP_ok (Cx.roadS_ok hC) ha hr) (fun _ _ _ _ _ _ ha hr => lendP_rd ha hr) (fun h => by cases h)
def Cx.makes (C : Cx) (f : FuncId) (p : List Bool) : Cx := C.putRd f 2 (lendG (C.roadS f p))
theorem Cx.makes_ok {C : Cx} (hC : CxOk C) (f : FuncId) (p : List Bool) : CxOk (C.makes f p) :=
  Cx.putRd_ok hC (fun _ _ _ _ _ ha hr => lendG_ok (Cx.roadS_ok hC) ha hr) (fun h => by cases h) (fun _ _ _ _ _ _ ha hr => lendG_new ha hr)
end Go.Proofs.Ytofblakbfmjgkaa.Vx


namespace Go.Proofs.Ytofblakbfmjgkaa.Vx
open Go Go.RowKit
theorem CodeSem.seq {P : Program} {B : Nat} {x y : Code} {st s s' : St} {e : Exit} (h1 : CodeSem P B x st .normal s) (h2 : CodeSem P B y s e s') : CodeSem P B (.seq x y) st e s' := fun Q w0 keep r0 a w hB hQ hr =>
  wp_seq (h1 _ w0 keep r0 a w hB (fun a' w' hr' => h2 Q w0 keep r0 a' w' hB hQ hr') hr)
theorem CodeSem.like {P : Program} {B : Nat} {x : Code} {st st2 s : St} {e : Exit} (h : CodeSem P B x st2 e s) (hl : StLike st st2) : CodeSem P B x st e s := fun Q w0 keep r0 a w hB hQ hr =>
  h Q w0 keep r0 a w hB hQ (hr.like hl)
def seqDrop : Nat → Code → Code
  | 0, c => c
  | k + 1, .seq _ y => seqDrop k y
  | _ + 1, _ => .skip
theorem seqDrop_loops : ∀ (k : Nat) (c : Code), ∀ x ∈ loopsIn (seqDrop k c), x ∈ loopsIn c
  | 0, c, x, h => h
  | k + 1, c, x, h => by
    cases c with
    | seq p q => simp only [seqDrop] at h; simp only [loopsIn, List.mem_append]; exact Or.inr (seqDrop_loops k q x h)
    | _ => simp [seqDrop, loopsIn] at h
/-- So many statements, one behind the other. -/
def exSeq (n : Nat) (C : Cx) : Nat → Code → St → Ans St
  | 0, _, st => .out st
  | k + 1, c, st => match c with
    | .seq x y => (exCode n C x st).bind fun es => match es.1 with
      | .normal => exSeq n C k y es.2
      | _ => .fail
    | _ => .fail
theorem exSeq_sound {C : Cx} (hC : CxOk C) {n f B : Nat} {e : Exit} {s' : St} : ∀ (k : Nat) (c : Code) (st s : St), InBody (C.into f B) c → (exSeq n (C.into f B) k c st).res = some s → CodeSem C.P B (seqDrop k c) s e s' → CodeSem C.P B c st e s'
  | 0, c, st, s, _, h, h2 => by
    simp only [exSeq, Ans.res, Option.some.injEq] at h
    subst h
    exact h2
  | k + 1, c, st, s, hin, h, h2 => by
    cases c with
    | seq x y =>
      simp only [exSeq] at h
      obtain ⟨⟨e1, s1⟩, h1, h3⟩ := Ans.bind_some h
      have hx := (exCode_sound hC n).1 f B x (hin.sub fun z hz => by simp [loopsIn, hz]) st e1 s1 h1
      simp only at h3
      cases e1 with
      | normal => exact hx.seq (exSeq_sound hC k y s1 s (hin.sub fun z hz => by simp [loopsIn, hz]) h3 h2)
      | _ => simp [Ans.res] at h3
    | _ => simp [exSeq, Ans.res] at h
/-- A piece: so many statements, and what is told on behind them (slots, blocks). -/
def segR (C : Cx) (n k : Nat) (c : Code) (mask : List Nat) (sp : List From) (st : St) : Option St := ((exSeq n C k c st).bind fun s => (cleanA mask mask sp sp C.fb (.ret, s)).bind fun es => .out es.2).res
theorem seg_rule {C : Cx} (hC : CxOk C) {f B n k : Nat} {c : Code} {mask : List Nat} {sp : List From} {st s s' : St} {e : Exit} (hin : InBody (C.into f B) c) (h : segR (C.into f B) n k c mask sp st = some s) (h2 : CodeSem C.P B (seqDrop k c) s e s') : CodeSem C.P B c st e s' := by
  unfold segR at h
  obtain ⟨s1, h3, h4⟩ := Ans.bind_some h
  obtain ⟨⟨e2, s2⟩, h5, h6⟩ := Ans.bind_some h4
  simp only [Ans.res, Option.some.injEq] at h6
  subst h6
  exact exSeq_sound hC k c st s1 hin h3 fun Q w0 keep r0 a w hB hQ hr => h2 Q w0 keep r0 a w hB hQ (clean_rel h5 hB hr).2
/-- The last piece. -/
theorem end_rule {C : Cx} (hC : CxOk C) {f B n : Nat} {c : Code} {mask : List Nat} {sp : List From} {st s : St} {e : Exit} (hin : InBody (C.into f B) c) (h : roundR (C.into f B) n c mask mask sp sp st = some (e, s)) : CodeSem C.P B c st e s := by
  obtain ⟨⟨e1, s1⟩, h3, h4⟩ := Ans.bind_some h
  intro Q w0 keep r0 a w hB hQ hr
  refine (exCode_sound hC n).1 f B c hin _ _ _ h3 _ w0 keep r0 a w hB ?_ hr
  intro a' w' hr'
  obtain ⟨he, hs⟩ := clean_rel h4 hB hr'
  subst he
  exact hQ a' w' hs
def bodyOf (P : Program) (f : Nat) : Code := match P.funcs[f]? with
  | some fn => match fn.body with
    | some b => b
    | none => .skip
  | none => .skip
theorem bodyOf_in {C : Cx} {f B k : Nat} {fn : Func} {b : Code} (hf : C.P.funcs[f]? = some fn) (hb : fn.body = some b) : InBody (C.into f B) (seqDrop k b) :=
  Or.inl ⟨fn, b, hf, hb, seqDrop_loops k b⟩
theorem seqDrop_drop (k l : Nat) : ∀ (c : Code), seqDrop l (seqDrop k c) = seqDrop (k + l) c := by
  induction k with
  | zero => intro c; rw [Nat.zero_add]; rfl
  | succ k ih =>
    intro c
    rw [Nat.succ_add]
    cases c with
    | seq p q => simp only [seqDrop]; exact ih q
    | _ => simp only [seqDrop]; cases l <;> rfl
/-- No error but this one. -/
def wantV (z : Int) : Value → Bool × Value
  | .int k e => (e == z, .int k z)
  | v => (true, v)
theorem wantV_ok {z : Int} {v : Value} (h : (wantV z v).1 = true) : (wantV z v).2 = v := by
  cases v with
  | int k e => simp only [wantV] at h ⊢; rw [(beq_iff_eq.1 h)]
  | _ => rfl
def wantA (z : Int) (x : Ans (Value × Mem)) : Ans (Value × Mem) := x.bind fun vm => .br (wantV z vm.1).1 (.out ((wantV z vm.1).2, vm.2)) .fail
theorem wantA_ok {z : Int} {x : Ans (Value × Mem)} {v : Value} {m : Mem} (h : (wantA z x).res = some (v, m)) : x.res = some (v, m) := by
  obtain ⟨⟨u, mu⟩, h1, h2⟩ := Ans.bind_some h
  rcases Ans.br_some h2 with ⟨hb, h3⟩ | ⟨_, h3⟩
  · simp only [Ans.res, Option.some.injEq, Prod.mk.injEq] at h3
    obtain ⟨rfl, rfl⟩ := h3
    rw [h1, wantV_ok hb]
  · simp [Ans.res] at h3
/-- A function of which one road is wanted, with this answer. -/
def Cx.want (C : Cx) (f : FuncId) (p : List Bool) (z : Int) : Cx := C.addM f (lendF fun args m => match C.tbm f args m with
  | some ans => some (wantA z (pickA p ans))
  | none => none)
theorem Cx.want_ok {C : Cx} (hC : CxOk C) (f : FuncId) (p : List Bool) (z : Int) : CxOk (C.want f p z) :=
  Cx.addM_ok hC fun _ _ _ _ _ ha hr => lendF_ok (fun args m ans v m' h hr => by
    split at h
    · rename_i a0 h0
      simp only [Option.some.injEq] at h
      subst h
      exact hC.tbm f args m a0 v m' h0 (pickA_ok p a0 (wantA_ok hr))
    · cases h) ha hr
end Go.Proofs.Ytofblakbfmjgkaa.Vx


namespace Go.Proofs.Ytofblakbfmjgkaa.Vx
open Go Go.RowKit
theorem CodeSem.loop {P : Program} {B : Nat} {x : Code} {st s : St} {e : Exit} (h : LoopSem P B x st e s) : CodeSem P B (.loop x) st e s := fun Q w0 keep r0 a w hB hQ hr => (h Q w0 keep r0 a w hB hQ hr).wp
theorem CodeSem.block {P : Program} {B id : Nat} {x : Code} {st s : St} (h : CodeSem P B x st (.exit id) s) : CodeSem P B (.block id x) st .normal s := fun Q w0 keep r0 a w hB hQ hr =>
  wp_block (h _ w0 keep r0 a w hB (fun a' w' hr' => by
    simp only [Exit.inBlock]
    rw [if_pos trivial]
    exact hQ a' w' hr') hr)
/-- The k-th statement. -/
def stmt (k : Nat) (c : Code) : Code := match seqDrop k c with
  | .seq x _ => x
  | _ => .skip
def hasStmt (k : Nat) (c : Code) : Bool := match seqDrop k c with
  | .seq _ _ => true
  | _ => false
theorem stmt_rule {P : Program} {B k : Nat} {c : Code} {st s s' : St} {e : Exit} (hk : hasStmt k c = true) (h1 : CodeSem P B (stmt k c) st .normal s) (h2 : CodeSem P B (seqDrop (k + 1) c) s e s') : CodeSem P B (seqDrop k c) st e s' := by
  unfold hasStmt at hk
  unfold stmt at h1
  have e2 := seqDrop_drop k 1 c
  cases hc : seqDrop k c with
  | seq x y =>
    rw [hc] at h1 e2
    simp only [seqDrop] at e2
    rw [← e2] at h2
    exact h1.seq h2
  | _ => rw [hc] at hk; cases hk
/-- A 'for': what is ahead of it, then the loop. -/
def forHead : Code → Code
  | .seq x _ => x
  | _ => .skip
def forBody : Code → Code
  | .seq _ (.block _ (.loop x)) => x
  | _ => .skip
def isFor (id : Nat) : Code → Bool
  | .seq _ (.block i (.loop _)) => Nat.beq i id
  | _ => false
theorem for_rule {P : Program} {B id : Nat} {c : Code} {st s s' : St} (hf : isFor id c = true) (h1 : CodeSem P B (forHead c) st .normal s) (h2 : LoopSem P B (forBody c) s (.exit id) s') : CodeSem P B c st .normal s' := by
  unfold isFor at hf
  split at hf
  · rename_i x i y
    have := Nat.eq_of_beq_eq_true hf
    subst this
    exact h1.seq (CodeSem.block (CodeSem.loop h2))
  · cases hf
theorem for_in {C : Cx} {f B id k : Nat} {fn : Func} {b : Code} (hf : C.P.funcs[f]? = some fn) (hb : fn.body = some b) (hs : isFor id (stmt k b) = true) : InBody (C.into f B) (forHead (stmt k b)) ∧ InBody (C.into f B) (forBody (stmt k b)) := by
  have h0 : ∀ x ∈ loopsIn (stmt k b), x ∈ loopsIn b := fun x hx => by
    refine seqDrop_loops k b x ?_
    unfold stmt at hx
    cases hc : seqDrop k b with
    | seq p q => rw [hc] at hx; simp only at hx; simp [loopsIn, hx]
    | _ => rw [hc] at hx; simp [loopsIn] at hx
  unfold isFor at hs
  split at hs
  · rename_i x i y hst
    rw [hst] at h0 ⊢
    refine ⟨Or.inl ⟨fn, b, hf, hb, fun z hz => h0 z (by simp only [forHead] at hz; simp [loopsIn, hz])⟩, Or.inl ⟨fn, b, hf, hb, fun z hz => h0 z (by simp only [forBody] at hz; simp [loopsIn, hz])⟩⟩
  · cases hs
/-- A function that only looks, with no error, or yes. -/
def Cx.looksG (C : Cx) (f : FuncId) (p : List Bool) : Cx := C.putRd f 1 (lendP fun args m => match C.tbm f args m with
  | some ans => some (asmA (pickA p ans))
  | none => none)
theorem Cx.looksG_ok {C : Cx} (hC : CxOk C) (f : FuncId) (p : List Bool) : CxOk (C.looksG f p) :=
  Cx.putRd_ok hC (fun _ _ _ _ _ ha hr => lendP_ok (fun args m ans v m' h hr => by
    split at h
    · rename_i a0 h0
      simp only [Option.some.injEq] at h
      subst h
      exact hC.tbm f args m a0 v m' h0 (pickA_ok p a0 (asmA_ok hr))
    · cases h) ha hr) (fun _ _ _ _ _ _ ha hr => lendP_rd ha hr) (fun h => by cases h)
end Go.Proofs.Ytofblakbfmjgkaa.Vx


namespace Go.Proofs.Ytofblakbfmjgkaa.Vx
open Go Go.RowKit
theorem CodeSem.out {P : Program} {B : Nat} {x y : Code} {st s : St} {e : Exit} (h : CodeSem P B x st e s) (he : e ≠ .normal) : CodeSem P B (.seq x y) st e s := fun Q w0 keep r0 a w hB hQ hr =>
  wp_seq (h _ w0 keep r0 a w hB (fun a' w' hr' => by cases e <;> first | exact absurd rfl he | exact hQ a' w' hr') hr)
theorem CodeSem.condT {P : Program} {B : Nat} {t : Tmp} {x y : Code} {st s : St} {e : Exit} (ht : st.tmps[t]? = some (.bool true)) (h : CodeSem P B x st e s) : CodeSem P B (.cond (.tmp t) x y) st e s := fun Q w0 keep r0 a w hB hQ hr => by
  obtain ⟨r, hx, hr'⟩ := hr
  have he : a.eval (.tmp t) = .bool true := by
    have := eval_R hr' (.tmp t)
    simp only [ev, ht, Option.getD_some] at this
    exact R_bool this
  exact wp_cond_true he (h Q w0 keep r0 a w hB hQ ⟨r, hx, hr'⟩)
theorem CodeSem.condF {P : Program} {B : Nat} {t : Tmp} {x y : Code} {st s : St} {e : Exit} (ht : st.tmps[t]? = some (.bool false)) (h : CodeSem P B y st e s) : CodeSem P B (.cond (.tmp t) x y) st e s := fun Q w0 keep r0 a w hB hQ hr => by
  obtain ⟨r, hx, hr'⟩ := hr
  have he : a.eval (.tmp t) = .bool false := by
    have := eval_R hr' (.tmp t)
    simp only [ev, ht, Option.getD_some] at this
    exact R_bool this
  exact wp_cond_false he (h Q w0 keep r0 a w hB hQ ⟨r, hx, hr'⟩)
theorem CodeSem.blockN {P : Program} {B id : Nat} {x : Code} {st s : St} (h : CodeSem P B x st .normal s) : CodeSem P B (.block id x) st .normal s := fun _ w0 keep r0 a w hB hQ hr =>
  wp_block (h _ w0 keep r0 a w hB (fun a' w' hr' => hQ a' w' hr') hr)
theorem CodeSem.blockR {P : Program} {B id : Nat} {x : Code} {st s : St} (h : CodeSem P B x st .ret s) : CodeSem P B (.block id x) st .ret s := fun _ w0 keep r0 a w hB hQ hr =>
  wp_block (h _ w0 keep r0 a w hB (fun a' w' hr' => hQ a' w' hr') hr)
/-- A loop is told by what its body comes to. -/
theorem loop_code {P : Program} {B : Nat} {x : Code} {σ : Type} (H : σ → St) (μ : σ → Nat) (Inv : σ → Prop) (out : σ → Exit × St)
    (hstep : ∀ g, Inv g → (∃ g', CodeSem P B x (H g) .normal (H g') ∧ Inv g' ∧ μ g' < μ g ∧ out g' = out g) ∨ (CodeSem P B x (H g) (out g).1 (out g).2 ∧ (out g).1 ≠ .normal)) :
    ∀ g, Inv g → LoopSem P B x (H g) (out g).1 (out g).2 := by
  have leave : ∀ g, CodeSem P B x (H g) (out g).1 (out g).2 → (out g).1 ≠ .normal → LoopSem P B x (H g) (out g).1 (out g).2 := by
    intro g h1 h2 Q w0 keep r0 a w hB hQ hr
    refine LoopsTo.round (h1 _ w0 keep r0 a w hB ?_ hr)
    intro a' w' hr'
    revert h2 hQ hr'
    cases (out g).1 <;> intro h2 hQ hr' <;> first | exact absurd rfl h2 | exact hQ a' w' hr'
  have key : ∀ k g, μ g ≤ k → Inv g → LoopSem P B x (H g) (out g).1 (out g).2 := by
    intro k
    induction k with
    | zero =>
      intro g hk hg
      rcases hstep g hg with ⟨g', _, _, hlt, _⟩ | ⟨h1, h2⟩
      · omega
      · exact leave g h1 h2
    | succ k ih =>
      intro g hk hg
      rcases hstep g hg with ⟨g', h1, hg', hlt, ho⟩ | ⟨h1, h2⟩
      · intro Q w0 keep r0 a w hB hQ hr
        refine LoopsTo.round (h1 _ w0 keep r0 a w hB ?_ hr)
        intro a' w' hr'
        refine ih g' (by omega) hg' Q w0 keep r0 a' w' hB ?_ hr'
        rw [ho]; exact hQ
      · exact leave g h1 h2
  exact fun g hg => key (μ g) g (Nat.le_refl _) hg
/-- States that tell the same, behind code. -/
theorem CodeSem.likes {P : Program} {B : Nat} {x : Code} {st s s2 : St} {e : Exit} (h : CodeSem P B x st e s) (hl : StLike s s2) : CodeSem P B x st e s2 := fun Q w0 keep r0 a w hB hQ hr =>
  h Q w0 keep r0 a w hB (fun a' w' hr' => hQ a' w' (hr'.like hl)) hr
/-- A piece of code that is run, cleaned: at its end or where it leaves. -/
theorem run_code {C : Cx} (hC : CxOk C) {f B n : Nat} {c : Code} {mask : List Nat} {sp : List From} {st s : St} {e : Exit} (hin : InBody (C.into f B) c) (h : roundR (C.into f B) n c mask mask sp sp st = some (e, s)) : CodeSem C.P B c st e s := end_rule hC hin h
/-- Parts of code. -/
def cL : Code → Code
  | .seq x _ => x
  | .block _ x => x
  | .loop x => x
  | .cond _ x _ => x
  | _ => .skip
def cR : Code → Code
  | .seq _ y => y
  | .cond _ _ y => y
  | _ => .skip
theorem cL_loops (c : Code) : ∀ x ∈ loopsIn (cL c), x ∈ loopsIn c := by
  cases c <;> simp [cL, loopsIn] <;> intro x h <;> simp [h]
theorem cR_loops (c : Code) : ∀ x ∈ loopsIn (cR c), x ∈ loopsIn c := by
  cases c <;> simp [cR, loopsIn] <;> intro x h <;> simp [h]
theorem InBody.left {C : Cx} {c : Code} (h : InBody C c) : InBody C (cL c) := h.sub (cL_loops c)
theorem InBody.right {C : Cx} {c : Code} (h : InBody C c) : InBody C (cR c) := h.sub (cR_loops c)
end Go.Proofs.Ytofblakbfmjgkaa.Vx
