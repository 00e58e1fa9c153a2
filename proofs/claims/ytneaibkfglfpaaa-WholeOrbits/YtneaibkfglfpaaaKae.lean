/-
  Loops: slots that are told no more, blocks that are dropped, and the rule by which a loop is told. Nothing here is trusted.
-/
import Derived.Test.YtneaibkfglfpaaaKad

namespace Go.Proofs.Ytneaibkfglfpaaa.Vx
open Go Go.RowKit

def hasN (i : Nat) : List Nat → Bool
  | [] => false
  | j :: l => match Nat.beq j i with
    | true => true
    | false => hasN i l
/-- Only the listed slots are told on. -/
def keepL (live : List Nat) : Nat → List Value → List Value
  | _, [] => []
  | i, x :: l => match hasN i live with
    | true => x :: keepL live (i + 1) l
    | false => unk :: keepL live (i + 1) l
/-- Where a block of a state that is told anew is found: it bears the same number · a slot leads to it · a cell of a block does. -/
inductive From where
  | fix (n : Nat)
  | slot (t : Nat)
  | cell (b j : Nat)
  /-- as 'cell', if the block is none of the first so many -/
  | cellN (b j k : Nat)
def farOff : Nat := 1000000
def adrO (d : Nat) : Option Value → Nat
  | some v => match adrOf v with
    | some b => b
    | none => farOff + d
  | none => farOff + d
def From.get (st : St) : From → Nat
  | .fix n => n
  | .slot t => adrO (50000 + t) st.tmps[t]?
  | .cell b j => match st.mem[b]? with
    | some (.cells _ _ c) => adrO (100 * b + j) c[j]?
    | _ => farOff + (100 * b + j)
  | .cellN b j k => match st.mem[b]? with
    | some (.cells _ _ c) => match Nat.blt (adrO (100 * b + j) c[j]?) k with
      | true => farOff + (100 * b + j)
      | false => adrO (100 * b + j) c[j]?
    | _ => farOff + (100 * b + j)
/-- The place of a number in a list. -/
def idxN (b : Nat) : List Nat → Nat → Option Nat
  | [], _ => none
  | k :: ks, i => match Nat.beq k b with
    | true => some i
    | false => idxN b ks (i + 1)
def ren0 (ks : List Nat) : Value → Value
  | .pointer (some a) => match idxN a.block ks 0 with
    | some i => .pointer (some ⟨i, a.off, a.spot⟩)
    | none => unk
  | .slice (some a) n e => match idxN a.block ks 0 with
    | some i => .slice (some ⟨i, a.off, a.spot⟩) n e
    | none => unk
  | .map (some b) => match idxN b ks 0 with
    | some i => .map (some i)
    | none => unk
  | v => v
def mapL (f : Value → Value) : List Value → List Value
  | [] => []
  | x :: l => f x :: mapL f l
def ren1 (ks : List Nat) : Value → Value
  | .agg cs => .agg (mapL (ren0 ks) cs.toList).toArray
  | v => ren0 ks v
def renV (ks : List Nat) : Value → Value
  | .tuple vs => .tuple (mapL (ren1 ks) vs.toList).toArray
  | v => ren1 ks v
def renB (ks : List Nat) : Blk → Blk
  | .cells own e c => .cells own e (mapL (ren0 ks) c)
  | .rows own pl e n row => match pl with
    | true => .rows own true e n row
    | false => .rows own false e n fun i => mapL (ren0 ks) (row i)
  | .grow pl e n row => match pl with
    | true => .grow true e n row
    | false => .grow false e n fun i => mapL (ren0 ks) (row i)
  | .view pl e n row => match pl with
    | true => .view true e n row
    | false => .view false e n fun i => mapL (ren0 ks) (row i)
  | b => b
def renM (ks : List Nat) (m : Mem) : List Nat → Mem
  | [] => []
  | b :: l => (match m[b]? with
    | some k => renB ks k
    | none => .no) :: renM ks m l
def noDup : List Nat → Bool
  | [] => true
  | k :: l => !hasN k l && noDup l
def idsTo (B : Nat) : Nat → List Nat → Bool
  | i, [] => Nat.ble B i
  | i, k :: l => match Nat.blt i B with
    | true => Nat.beq k i && idsTo B (i + 1) l
    | false => true
def keysOf (st : St) : List From → List Nat
  | [] => []
  | x :: l => x.get st :: keysOf st l
def forceN {β : Type} : List Nat → (List Nat → β) → β
  | [], k => k []
  | x :: xs, k => forceN xs fun ys => k (x :: ys)
theorem forceN_eq {β : Type} : ∀ (l : List Nat) (k : List Nat → β), forceN l k = k l
  | [], _ => rfl
  | x :: xs, k => by simp only [forceN]; rw [forceN_eq xs]
def cleanB (mask : List Nat) (sp : List From) (B : Nat) (es : Exit × St) : Ans (Exit × St) :=
  forceN (keysOf es.2 sp) fun ks => match noDup ks && idsTo B 0 ks with
    | true => forceL (mapL (renV ks) (keepL mask 0 es.2.tmps)) fun tm => forceM (renM ks es.2.mem ks) fun m => match allB noViewB m with
      | true => forceM (thaw m) fun m => .out (es.1, ⟨tm, m⟩)
      | false => .out (es.1, ⟨tm, m⟩)
    | false => .fail
/-- Behind a round that goes on, and behind one that leaves. -/
def cleanA (mask out : List Nat) (sp so : List From) (B : Nat) (es : Exit × St) : Ans (Exit × St) := match es.1 with
  | .normal => cleanB mask sp B es
  | _ => cleanB out so B (es.1, ⟨es.2.tmps, killV es.2.mem⟩)

theorem hasN_iff {i : Nat} : ∀ {l : List Nat}, hasN i l = true ↔ i ∈ l
  | [] => by simp [hasN]
  | j :: l => by
    simp only [hasN, List.mem_cons]
    cases hb : Nat.beq j i with
    | true => simp [Nat.eq_of_beq_eq_true hb]
    | false =>
      have : j ≠ i := fun e => by subst e; simp at hb
      simp only [hasN_iff]
      exact ⟨Or.inr, fun h => h.resolve_left fun e => this e.symm⟩
theorem keepL_rel {r : Ren} (live : List Nat) : ∀ (i : Nat) {l l' : List Value}, RL (R r) l l' → RL (R r) (keepL live i l) l'
  | _, [], [], _ => trivial
  | i, x :: l, y :: l', h => by
    simp only [keepL]
    cases hasN i live with
    | false => exact ⟨R_unk r y, keepL_rel live (i + 1) h.2⟩
    | true => exact ⟨h.1, keepL_rel live (i + 1) h.2⟩
  | _, [], _ :: _, h => h.elim
  | _, _ :: _, [], h => h.elim

def Ren.via (r : Ren) (ks : List Nat) : Ren := fun i => match ks[i]? with
  | some b => r b
  | none => none
theorem idxN_spec {b : Nat} : ∀ {ks : List Nat} {i j : Nat}, idxN b ks i = some j → i ≤ j ∧ ks[j - i]? = some b
  | [], i, j, h => by simp [idxN] at h
  | k :: ks, i, j, h => by
    simp only [idxN] at h
    split at h
    · rename_i hb
      simp only [Option.some.injEq] at h
      subst h
      exact ⟨Nat.le_refl _, by simp [Nat.eq_of_beq_eq_true hb]⟩
    · obtain ⟨h1, h2⟩ := idxN_spec h
      refine ⟨by omega, ?_⟩
      rw [show j - i = (j - (i + 1)) + 1 by omega, List.getElem?_cons_succ]
      exact h2
theorem via_idx {r : Ren} {ks : List Nat} {b i : Nat} (h : idxN b ks 0 = some i) : (r.via ks) i = r b := by
  have := (idxN_spec h).2
  simp only [Nat.sub_zero] at this
  simp [Ren.via, this]
theorem R0_via {r : Ren} {ks : List Nat} {v v' : Value} (h : R0 r v v') : R0 (r.via ks) (ren0 ks v) v' := by
  unfold R0 at h
  cases v with
  | pointer a => cases a with
    | none => exact h
    | some a =>
      simp only [ren0]
      split
      · rename_i i hi
        unfold R0
        simp only [via_idx (r := r) hi]
        exact h
      · exact R_unk (r.via ks) v'
  | slice a n c => cases a with
    | none => exact h
    | some a =>
      simp only [ren0]
      split
      · rename_i i hi
        unfold R0
        simp only [via_idx (r := r) hi]
        exact h
      · exact R_unk (r.via ks) v'
  | map a => cases a with
    | none => exact h
    | some a =>
      simp only [ren0]
      split
      · rename_i i hi
        unfold R0
        simp only [via_idx (r := r) hi]
        exact h
      · exact R_unk (r.via ks) v'
  | iface t u => cases u <;> exact h
  | _ => exact h
theorem RL_mapL {Q S : Value → Value → Prop} {f : Value → Value} (hq : ∀ v v', Q v v' → S (f v) v') : ∀ {l l' : List Value}, RL Q l l' → RL S (mapL f l) l'
  | [], [], _ => trivial
  | _ :: _, _ :: _, h => ⟨hq _ _ h.1, RL_mapL hq h.2⟩
  | [], _ :: _, h => h.elim
  | _ :: _, [], h => h.elim
theorem R1_via {r : Ren} {ks : List Nat} {v v' : Value} (h : R1 r v v') : R1 (r.via ks) (ren1 ks v) v' := by
  cases v with
  | agg cs => obtain ⟨cs', rfl, h⟩ := h; exact ⟨cs', rfl, by simpa using RL_mapL (f := ren0 ks) (fun _ _ h => R0_via h) h⟩
  | _ =>
    unfold R1 at h
    have := R0_via (ks := ks) h
    revert this
    simp only [ren1]
    generalize hz : ren0 ks _ = z
    intro this
    cases z with
    | agg cs =>
      exfalso
      unfold ren0 at hz
      split at hz
      · split at hz <;> simp [unk] at hz
      · split at hz <;> simp [unk] at hz
      · split at hz <;> simp [unk] at hz
      · simp at hz
    | _ => exact this
theorem R_via {r : Ren} {ks : List Nat} {v v' : Value} (h : R r v v') : R (r.via ks) (renV ks v) v' := by
  cases v with
  | tuple cs => obtain ⟨cs', rfl, h⟩ := h; exact ⟨cs', rfl, by simpa using RL_mapL (f := ren1 ks) (fun _ _ h => R1_via h) h⟩
  | agg cs => exact R1_via (ks := ks) (v := .agg cs) h
  | _ =>
    unfold R at h
    have := R1_via (ks := ks) h
    revert this
    simp only [renV]
    generalize hz : ren1 ks _ = z
    intro this
    cases z with
    | tuple cs =>
      exfalso
      unfold ren1 at hz
      split at hz
      · simp at hz
      · unfold ren0 at hz
        split at hz
        · split at hz <;> simp [unk] at hz
        · split at hz <;> simp [unk] at hz
        · split at hz <;> simp [unk] at hz
        · simp at hz
    | _ => exact this
theorem mapL_get {f : Value → Value} : ∀ {l : List Value} {i : Nat} {v : Value}, (mapL f l)[i]? = some v → ∃ u, l[i]? = some u ∧ v = f u
  | [], i, v, h => by simp [mapL] at h
  | x :: l, 0, v, h => by simp [mapL] at h; exact ⟨x, rfl, h.symm⟩
  | x :: l, i + 1, v, h => by simp only [mapL, List.getElem?_cons_succ] at h ⊢; exact mapL_get h
theorem mapL_length {f : Value → Value} : ∀ (l : List Value), (mapL f l).length = l.length
  | [] => rfl
  | x :: l => by simp [mapL, mapL_length l]
theorem CellsAt_via {r : Ren} {ks : List Nat} {cs : Array Value} {off : Nat} {c : List Value} (h : CellsAt r cs off c) : CellsAt (r.via ks) cs off (mapL (ren0 ks) c) := fun k v hk => by
  obtain ⟨u, hu, rfl⟩ := mapL_get hk
  obtain ⟨v', h1, h2⟩ := h k u hu
  exact ⟨v', h1, R0_via h2⟩
theorem plain_via {r : Ren} {ks : List Nat} {v v' : Value} (hp : plain0 v = true) (h : R0 r v v') : R0 (r.via ks) v v' := (R0_plain hp).2 ((R0_plain hp).1 h)
theorem rows_via {r : Ren} {ks : List Nat} {cs : Array Value} {off esz n : Nat} {row : Nat → List Value} (h5 : ∀ i, i < n → (row i).length = esz ∧ CellsAt r cs (off + i * esz) (row i)) :
    ((∀ i, i < n → allL plain0 (row i) = true) → ∀ i, i < n → (row i).length = esz ∧ CellsAt (r.via ks) cs (off + i * esz) (row i)) ∧ ∀ i, i < n → (mapL (ren0 ks) (row i)).length = esz ∧ CellsAt (r.via ks) cs (off + i * esz) (mapL (ren0 ks) (row i)) := by
  refine ⟨fun hp i hi => ⟨(h5 i hi).1, fun k v hk => ?_⟩, fun i hi => ⟨by rw [mapL_length]; exact (h5 i hi).1, CellsAt_via (h5 i hi).2⟩⟩
  obtain ⟨v', g1, g2⟩ := (h5 i hi).2 k v hk
  exact ⟨v', g1, plain_via (allL_iff.1 (hp i hi) v (List.mem_of_getElem? hk)) g2⟩
theorem BlkRel_via {w : World} {r : Ren} {ks : List Nat} {p : Place} {k : Blk} (h : BlkRel w r p k) : BlkRel w (r.via ks) p (renB ks k) := by
  cases k with
  | cells own esz c =>
    obtain ⟨h1, h2, cs, T, fz, h6, h3, h4, h5⟩ := h
    exact ⟨h1, h2, cs, T, fz, h6, h3, h4, CellsAt_via h5⟩
  | rows own pl esz n row =>
    obtain ⟨h1, h2, h0, hp, cs, T, fz, h6, h3, h4, h5⟩ := h
    cases pl with
    | true => exact ⟨h1, h2, h0, hp, cs, T, fz, h6, h3, h4, (rows_via h5).1 (hp rfl)⟩
    | false => exact ⟨h1, h2, h0, (fun h => by cases h), cs, T, fz, h6, h3, h4, (rows_via h5).2⟩
  | grow pl esz n row =>
    obtain ⟨h1, h2, h0, hp, cs, T, fz, h3, h4, h5⟩ := h
    cases pl with
    | true => exact ⟨h1, h2, h0, hp, cs, T, fz, h3, h4, (rows_via h5).1 (hp rfl)⟩
    | false => exact ⟨h1, h2, h0, (fun h => by cases h), cs, T, fz, h3, h4, (rows_via h5).2⟩
  | view pl esz n row =>
    obtain ⟨h1, h2, h0, hp, cs, T, fz, h3, h4, h5⟩ := h
    cases pl with
    | true => exact ⟨h1, h2, h0, hp, cs, T, fz, h3, h4, (rows_via h5).1 (hp rfl)⟩
    | false => exact ⟨h1, h2, h0, (fun h => by cases h), cs, T, fz, h3, h4, (rows_via h5).2⟩
  | _ => exact h
theorem renM_get {ks : List Nat} {m : Mem} : ∀ (l : List Nat) (i : Nat), (renM ks m l)[i]? = (l[i]?).map fun b => match m[b]? with
    | some k => renB ks k
    | none => .no
  | [], i => by simp [renM]
  | b :: l, 0 => by simp [renM]
  | b :: l, i + 1 => by simp only [renM, List.getElem?_cons_succ]; exact renM_get l i
theorem noDup_inj : ∀ {l : List Nat}, noDup l = true → ∀ {i j b : Nat}, l[i]? = some b → l[j]? = some b → i = j
  | [], _, i, j, b, h, _ => by simp at h
  | k :: l, hd, i, j, b, hi, hj => by
    simp only [noDup, Bool.and_eq_true, Bool.not_eq_true'] at hd
    have hn : k ∉ l := fun hm => by rw [hasN_iff.2 hm] at hd; cases hd.1
    cases i with
    | zero => cases j with
      | zero => rfl
      | succ j =>
        simp at hi hj
        subst hi
        exact absurd (List.mem_of_getElem? hj) hn
    | succ i => cases j with
      | zero =>
        simp at hi hj
        subst hj
        exact absurd (List.mem_of_getElem? hi) hn
      | succ j =>
        simp only [List.getElem?_cons_succ] at hi hj
        rw [noDup_inj hd.2 hi hj]
theorem renB_no {ks : List Nat} {k : Blk} : renB ks k = .no ↔ k = .no := by
  cases k with
  | rows own pl e n row => cases pl <;> simp [renB]
  | grow pl e n row => cases pl <;> simp [renB]
  | view pl e n row => cases pl <;> simp [renB]
  | _ => simp [renB]
theorem renB_grow {ks : List Nat} {k : Blk} (h : isGrow (some k)) : isGrow (some (renB ks k)) := by
  cases k with
  | grow pl e n row => cases pl <;> trivial
  | _ => exact h.elim
theorem MemRel_via {w0 : World} {keep : Keep} {r : Ren} {m : Mem} {w : World} {ks : List Nat} (h : MemRel w0 keep r m w) (hd : noDup ks = true) : MemRel w0 keep (r.via ks) (renM ks m ks) w := by
  have hv : ∀ {i : Nat} {q : Option Place}, (r.via ks) i = some q → ∃ b, ks[i]? = some b ∧ r b = some q := fun {i q} hq => by
    unfold Ren.via at hq
    split at hq
    · rename_i b hb; exact ⟨b, hb, hq⟩
    · cases hq
  refine ⟨h.os, h.tape, h.output, h.drawn, h.size, h.klt, h.kept, fun i hm => ?_, fun i hq => ?_, fun i p hq => ?_, fun i p hq => ?_, fun i p hq => ?_, fun i p hq => ?_, fun i j p q hi hj hp hz hq he => ?_, fun i j p q hi hj ho hq he => ?_⟩
  · unfold Ren.via
    cases hb : ks[i]? with
    | none => rfl
    | some b =>
      rw [renM_get, hb] at hm
      simp only [Option.map_some] at hm
      rcases hm with hm | hm
      · cases hm
      · simp only [Option.some.injEq] at hm
        cases hmb : m[b]? with
        | none => exact h.none b (Or.inl hmb)
        | some k =>
          rw [hmb] at hm
          exact h.none b (Or.inr (by rw [hmb, renB_no.1 hm]))
  · obtain ⟨b, hb, hr⟩ := hv hq
    rw [renM_get, hb]
    simp only [Option.map_some, h.dead b hr, renB]
  · obtain ⟨b, hb, hr⟩ := hv hq
    obtain ⟨k, h1, h2⟩ := h.blk b p hr
    refine ⟨renB ks k, ?_, BlkRel_via h2⟩
    rw [renM_get, hb]
    simp only [Option.map_some, h1]
  · obtain ⟨b, hb, hr⟩ := hv hq
    exact h.own b p hr
  · obtain ⟨b, hb, hr⟩ := hv hq
    exact h.read b p hr
  · obtain ⟨b, hb, hr⟩ := hv hq
    exact h.vw b p hr
  · obtain ⟨b, hb, hr⟩ := hv hi
    obtain ⟨c, hc, hs⟩ := hv hj
    obtain ⟨g1, g2⟩ := h.sep b c p q hr hs hp hz hq he
    rw [renM_get, hc]
    simp only [Option.map_some]
    cases hm : m[c]? with
    | none => rw [hm] at g1; exact g1.elim
    | some k => rw [hm] at g1; exact ⟨renB_grow g1, g2⟩
  · obtain ⟨b, hb, hr⟩ := hv hi
    obtain ⟨c, hc, hs⟩ := hv hj
    have := h.inj b c p q hr hs ho hq he
    subst this
    exact noDup_inj hd hb hc
theorem idsTo_spec {B : Nat} : ∀ {l : List Nat} {i b : Nat}, idsTo B i l = true → i ≤ b → b < B → l[b - i]? = some b
  | [], i, b, h, h1, h2 => by
    have := Nat.le_of_ble_eq_true h
    omega
  | k :: l, i, b, h, h1, h2 => by
    simp only [idsTo] at h
    rw [show Nat.blt i B = true by simp [Nat.blt_eq]; omega] at h
    simp only [Bool.and_eq_true] at h
    have hk : k = i := Nat.eq_of_beq_eq_true h.1
    by_cases hib : i = b
    · subst hib; subst hk; simp
    · have := idsTo_spec h.2 (show i + 1 ≤ b by omega) h2
      rw [show b - i = (b - (i + 1)) + 1 by omega, List.getElem?_cons_succ]
      exact this
theorem cleanB_rel {mask : List Nat} {sp : List From} {B : Nat} {e e' : Exit} {s s' : St} (h : (cleanB mask sp B (e, s)).res = some (e', s')) {w0 : World} {keep : Keep} {r0 : Ren} {a : Act} {w : World} (h0 : ∀ b, B ≤ b → r0 b = none) (hr : Rel w0 keep r0 s a w) : e' = e ∧ Rel w0 keep r0 s' a w := by
  unfold cleanB at h
  rw [forceN_eq] at h
  split at h
  · rename_i hb
    rw [Bool.and_eq_true] at hb
    rw [forceL_eq, forceM_eq] at h
    obtain ⟨r, hx, h1, h2, h3⟩ := hr
    have hext : Ext r0 (r.via (keysOf s sp)) := fun b => by
      by_cases hlt : b < B
      · have := idsTo_spec hb.2 (Nat.zero_le b) hlt
        simp only [Nat.sub_zero] at this
        have e1 : (r.via (keysOf s sp)) b = r b := by simp [Ren.via, this]
        rw [e1]
        exact hx b
      · exact Or.inl (h0 b (by omega))
    have hm := MemRel_via h3 hb.1
    have htm : RL (R (r.via (keysOf s sp))) (mapL (renV (keysOf s sp)) (keepL mask 0 s.tmps)) a.tmps.toList := RL_mapL (f := renV (keysOf s sp)) (fun _ _ h => R_via h) (keepL_rel mask 0 h2)
    split at h
    · rename_i hv
      rw [forceM_eq] at h
      simp only [Ans.res, Option.some.injEq, Prod.mk.injEq] at h
      obtain ⟨rfl, rfl⟩ := h
      exact ⟨rfl, r.via (keysOf s sp), hext, h1, htm, hm.thawed hv⟩
    · simp only [Ans.res, Option.some.injEq, Prod.mk.injEq] at h
      obtain ⟨rfl, rfl⟩ := h
      exact ⟨rfl, r.via (keysOf s sp), hext, h1, htm, hm⟩
  · simp [Ans.res] at h
theorem clean_rel {mask out : List Nat} {sp so : List From} {B : Nat} {e e' : Exit} {s s' : St} (h : (cleanA mask out sp so B (e, s)).res = some (e', s')) {w0 : World} {keep : Keep} {r0 : Ren} {a : Act} {w : World} (h0 : ∀ b, B ≤ b → r0 b = none) (hr : Rel w0 keep r0 s a w) : e' = e ∧ Rel w0 keep r0 s' a w := by
  unfold cleanA at h
  have hr2 : Rel w0 keep r0 ⟨s.tmps, killV s.mem⟩ a w := by
    obtain ⟨r, hx, h1, h2, h3⟩ := hr
    exact ⟨r.noV, hx.trans r.noV_ext, h1, RL.mono (fun _ _ => R.ext r.noV_ext) h2, h3.unview⟩
  cases e <;> first | exact cleanB_rel h h0 hr | exact cleanB_rel h h0 hr2

/-- One round. -/
def roundR (C : Cx) (n : Nat) (x : Code) (mask mout : List Nat) (sp so : List From) (st : St) : Option (Exit × St) := ((exCode n C x st).bind (cleanA mask mout sp so C.fb)).res
/-- A loop is told by its rounds: each leads on to a state of the same kind with less ahead of it, or out. -/
theorem loop_rule {C : Cx} (hC : CxOk C) {f : FuncId} {B : Nat} {x : Code} (hin : InBody (C.into f B) x) (n : Nat) (mask mout : List Nat) (sp so : List From) {σ : Type} (H : σ → St) (μ : σ → Nat) (Inv : σ → Prop) (out : σ → Exit × St)
    (hstep : ∀ g, Inv g → (∃ g', roundR (C.into f B) n x mask mout sp so (H g) = some (.normal, H g') ∧ Inv g' ∧ μ g' < μ g ∧ out g' = out g) ∨ (roundR (C.into f B) n x mask mout sp so (H g) = some (out g) ∧ (out g).1 ≠ .normal)) :
    ∀ g, Inv g → LoopSem C.P B x (H g) (out g).1 (out g).2 := by
  have leave : ∀ g, roundR (C.into f B) n x mask mout sp so (H g) = some (out g) → (out g).1 ≠ .normal → LoopSem C.P B x (H g) (out g).1 (out g).2 := by
    intro g h1 h2 Q w0 keep r0 a w hB hQ hr
    obtain ⟨⟨e1, s1⟩, h3, h4⟩ := Ans.bind_some h1
    refine LoopsTo.round ((exCode_sound hC n).1 f B x hin _ _ _ h3 _ w0 keep r0 a w hB ?_ hr)
    intro a' w' hr'
    obtain ⟨he, hs⟩ := clean_rel h4 hB hr'
    subst he
    revert h2 hQ hs
    cases (out g).1 <;> intro h2 hQ hs <;> first | exact absurd rfl h2 | exact hQ a' w' hs
  have key : ∀ k g, μ g ≤ k → Inv g → LoopSem C.P B x (H g) (out g).1 (out g).2 := by
    intro k
    induction k with
    | zero =>
      intro g hk hg
      rcases hstep g hg with ⟨g', _, _, hlt, _⟩ | ⟨h1, h2⟩
      · omega
      · exact leave g h1 h2
    | succ k ih =>
      intro g hk hg
      rcases hstep g hg with ⟨g', h1, hg', hlt, ho⟩ | ⟨h1, h2⟩
      · intro Q w0 keep r0 a w hB hQ hr
        obtain ⟨⟨e1, s1⟩, h3, h4⟩ := Ans.bind_some h1
        refine LoopsTo.round ((exCode_sound hC n).1 f B x hin _ _ _ h3 _ w0 keep r0 a w hB ?_ hr)
        intro a' w' hr'
        obtain ⟨he, hs⟩ := clean_rel h4 hB hr'
        subst he
        refine ih g' (by omega) hg' Q w0 keep r0 a' w' hB ?_ hs
        rw [ho]; exact hQ
      · exact leave g h1 h2
  exact fun g hg => key (μ g) g (Nat.le_refl _) hg

theorem loopsIn_trans : ∀ (b : Code) (x y : Code), x ∈ loopsIn b → y ∈ loopsIn x → y ∈ loopsIn b := by
  intro b
  induction b with
  | seq p q ihp ihq =>
    intro x y hx hy
    simp only [loopsIn, List.mem_append] at hx ⊢
    rcases hx with h | h
    · exact Or.inl (ihp x y h hy)
    · exact Or.inr (ihq x y h hy)
  | cond c p q ihp ihq =>
    intro x y hx hy
    simp only [loopsIn, List.mem_append] at hx ⊢
    rcases hx with h | h
    · exact Or.inl (ihp x y h hy)
    · exact Or.inr (ihq x y h hy)
  | block id p ih =>
    intro x y hx hy
    simp only [loopsIn] at hx ⊢
    exact ih x y hx hy
  | loop p ih =>
    intro x y hx hy
    simp only [loopsIn, List.mem_cons] at hx ⊢
    rcases hx with rfl | h
    · exact Or.inr hy
    · exact Or.inr (ih x y h hy)
  | _ => intro x y hx hy; simp [loopsIn] at hx
theorem loopsOf_in {C : Cx} {f k B : Nat} {x : Code} (h : loopsOf C.P f k = [x]) : InBody (C.into f B) x := by
  unfold loopsOf at h
  split at h
  · rename_i fn hf
    split at h
    · rename_i b hb
      have hx : x ∈ loopsIn b := (List.mem_filter.1 (show x ∈ (loopsIn b).filter fun x => Nat.beq (loopKey x) k by rw [h]; simp)).1
      exact Or.inl ⟨fn, b, hf, hb, fun y hy => loopsIn_trans b x y hx hy⟩
    · cases h
  · cases h
/-- What is told of a state of which less is known holds of the state. -/
theorem LoopSem.clean {P : Program} {B : Nat} {x : Code} {st s : St} {e : Exit} {mask : List Nat} (h : LoopSem P B x ⟨keepL mask 0 st.tmps, st.mem⟩ e s) : LoopSem P B x st e s := by
  intro Q w0 keep r0 a w hB hQ hr
  refine h Q w0 keep r0 a w hB hQ ?_
  obtain ⟨r, hx, h1, h2, h3⟩ := hr
  exact ⟨r, hx, h1, keepL_rel mask 0 h2, h3⟩

def lookN (i : Nat) : List (Nat × Value) → Option Value
  | [] => none
  | (j, v) :: l => match Nat.beq j i with
    | true => some v
    | false => lookN i l
def tmpsOf (vs : List (Nat × Value)) : Nat → Nat → List Value
  | _, 0 => []
  | i, n + 1 => (match lookN i vs with
    | some v => v
    | none => unk) :: tmpsOf vs (i + 1) n
theorem lookN_spec {i : Nat} : ∀ {vs : List (Nat × Value)} {v : Value}, lookN i vs = some v → (i, v) ∈ vs ∧ hasN i (vs.map (·.1)) = true
  | [], v, h => by simp [lookN] at h
  | (j, u) :: vs, v, h => by
    simp only [lookN] at h
    cases hb : Nat.beq j i with
    | true =>
      simp only [hb, Option.some.injEq] at h
      subst h
      have : j = i := Nat.eq_of_beq_eq_true hb
      subst this
      exact ⟨by simp, by simp [hasN]⟩
    | false =>
      simp only [hb] at h
      obtain ⟨h1, h2⟩ := lookN_spec h
      exact ⟨by simp [h1], by simp only [List.map_cons, hasN, hb]; exact h2⟩
theorem lookN_none {i : Nat} : ∀ {vs : List (Nat × Value)}, lookN i vs = none → hasN i (vs.map (·.1)) = false
  | [], _ => rfl
  | (j, u) :: vs, h => by
    simp only [lookN] at h
    cases hb : Nat.beq j i with
    | true => simp [hb] at h
    | false =>
      simp only [hb] at h
      simp only [List.map_cons, hasN, hb]
      exact lookN_none h
theorem keep_eq (vs : List (Nat × Value)) : ∀ (l : List Value) (i : Nat), (∀ x ∈ vs, i ≤ x.1 → l[x.1 - i]? = some x.2) → keepL (vs.map (·.1)) i l = tmpsOf vs i l.length
  | [], i, _ => rfl
  | x :: l, i, h => by
    simp only [keepL, List.length_cons, tmpsOf]
    have ih : keepL (vs.map (·.1)) (i + 1) l = tmpsOf vs (i + 1) l.length := keep_eq vs l (i + 1) fun y hy hi => by
      have := h y hy (by omega)
      rw [show y.1 - i = (y.1 - (i + 1)) + 1 by omega, List.getElem?_cons_succ] at this
      exact this
    cases hl : lookN i vs with
    | some v =>
      obtain ⟨h1, h2⟩ := lookN_spec hl
      have := h (i, v) h1 (Nat.le_refl _)
      simp only [Nat.sub_self, List.getElem?_cons_zero, Option.some.injEq] at this
      simp only [h2, ih, this]
    | none => simp only [lookN_none hl, ih]
/-- A state that is told by some of its slots, and its blocks. -/
def stOf (N : Nat) (vs : List (Nat × Value)) (m : Mem) : St := ⟨tmpsOf vs 0 N, m⟩
/-- Is this state so long, with so many blocks? -/
def sized (st : St) (N M : Nat) : Bool := Nat.beq st.tmps.length N && Nat.beq st.mem.length M
theorem stOf_keep {st : St} {N M : Nat} (hs : sized st N M = true) (vs : List (Nat × Value)) (hv : ∀ x ∈ vs, st.tmps[x.1]? = some x.2) {m : Mem} (hm : st.mem = m) : (⟨keepL (vs.map (·.1)) 0 st.tmps, st.mem⟩ : St) = stOf N vs m := by
  unfold sized at hs
  rw [Bool.and_eq_true] at hs
  unfold stOf
  rw [← Nat.eq_of_beq_eq_true hs.1, ← hm, keep_eq vs st.tmps 0 (fun x hx _ => by simpa using hv x hx)]
end Go.Proofs.Ytneaibkfglfpaaa.Vx


namespace Go.Proofs.Ytneaibkfglfpaaa.Vx
open Go

def nth : List Int → Nat → Int
  | [], _ => 0
  | x :: _, 0 => x
  | _ :: l, k + 1 => nth l k

def chainO (mk : List Int → Value) : List (Bool × List Int) → List Int → Option Value
  | [], d => some (mk d)
  | (t, r) :: ts, d => match t with
    | true => some (mk r)
    | false => chainO mk ts d

def chainL : List (Bool × List Int) → List Int → List Int
  | [], d => d
  | (t, r) :: ts, d => match t with
    | true => r
    | false => chainL ts d

theorem chain_eq (mk : List Int → Value) : ∀ (ts : List (Bool × List Int)) (d : List Int), chainO mk ts d = some (mk (chainL ts d))
  | [], _ => rfl
  | (true, _) :: _, _ => rfl
  | (false, _) :: ts, d => chain_eq mk ts d

def mk1 (l : List Int) : Value := .int .i64 (nth l 0)
def mkIe (l : List Int) : Value := .tuple #[.int .i64 (nth l 0), .int .i64 (nth l 1)]
def mkVe (l : List Int) : Value := .tuple #[.agg #[.int .i64 (nth l 0), .int .i64 (nth l 1), .int .i64 (nth l 2)], .int .i64 (nth l 3)]
def mkMe (l : List Int) : Value := .tuple #[.agg #[.int .i64 (nth l 0), .int .i64 (nth l 1), .int .i64 (nth l 2), .int .i64 (nth l 3), .int .i64 (nth l 4), .int .i64 (nth l 5), .int .i64 (nth l 6), .int .i64 (nth l 7), .int .i64 (nth l 8)], .int .i64 (nth l 9)]

/-- The number of 64 bits that is left of a whole number. -/
def W (n : Int) : Int := IntKind.wrap .i64 n

theorem W_eq (n : Int) : W n = (n + 9223372036854775808) % 18446744073709551616 - 9223372036854775808 := by
  unfold W IntKind.wrap
  simp only [IntKind.bits, IntKind.signed]
  have h1 : ((2 : Int) ^ 64) = 18446744073709551616 := rfl
  have h2 : ((2 : Int) ^ (64 - 1)) = 9223372036854775808 := rfl
  simp only [h1, h2, Bool.true_and, decide_eq_true_eq]
  split <;> omega

theorem W_id {n : Int} (h1 : -9223372036854775808 ≤ n) (h2 : n ≤ 9223372036854775807) : W n = n := by rw [W_eq]; omega
theorem W_W (n : Int) : W (W n) = W n := by simp only [W_eq]; omega
theorem W_congr {m n : Int} : W m = W n ↔ (m - n) % 18446744073709551616 = 0 := by simp only [W_eq]; omega
theorem W_sub_self (n : Int) : (W n - n) % 18446744073709551616 = 0 := by rw [W_eq]; omega
theorem W_addl (m n : Int) : W (W m + n) = W (m + n) := by simp only [W_eq]; omega
theorem W_addr (m n : Int) : W (m + W n) = W (m + n) := by simp only [W_eq]; omega
theorem W_subl (m n : Int) : W (W m - n) = W (m - n) := by simp only [W_eq]; omega
theorem W_subr (m n : Int) : W (m - W n) = W (m - n) := by simp only [W_eq]; omega
theorem W_mull (m n : Int) : W (W m * n) = W (m * n) := by
  rw [W_congr, ← Int.sub_mul]
  obtain ⟨k, hk⟩ := Int.dvd_of_emod_eq_zero (W_sub_self m)
  rw [hk, Int.mul_assoc]
  exact Int.mul_emod_right _ _
theorem W_mulr (m n : Int) : W (m * W n) = W (m * n) := by rw [Int.mul_comm, W_mull, Int.mul_comm]
end Go.Proofs.Ytneaibkfglfpaaa.Vx


namespace Go.Proofs.Ytneaibkfglfpaaa.Vx
open Go

structure M3 where
  (a b c d e f g h i : Int)
structure V3 where
  (x y z : Int)

theorem M3.ext' {m n : M3} (h : m.a = n.a ∧ m.b = n.b ∧ m.c = n.c ∧ m.d = n.d ∧ m.e = n.e ∧ m.f = n.f ∧ m.g = n.g ∧ m.h = n.h ∧ m.i = n.i) : m = n := by
  cases m; cases n; simp only [M3.mk.injEq]; exact h
theorem V3.ext' {m n : V3} (h : m.x = n.x ∧ m.y = n.y ∧ m.z = n.z) : m = n := by
  cases m; cases n; simp only [V3.mk.injEq]; exact h

def M3.mul (m n : M3) : M3 :=
  ⟨m.a * n.a + m.b * n.d + m.c * n.g, m.a * n.b + m.b * n.e + m.c * n.h, m.a * n.c + m.b * n.f + m.c * n.i,
   m.d * n.a + m.e * n.d + m.f * n.g, m.d * n.b + m.e * n.e + m.f * n.h, m.d * n.c + m.e * n.f + m.f * n.i,
   m.g * n.a + m.h * n.d + m.i * n.g, m.g * n.b + m.h * n.e + m.i * n.h, m.g * n.c + m.h * n.f + m.i * n.i⟩
def M3.one : M3 := ⟨1, 0, 0, 0, 1, 0, 0, 0, 1⟩
def M3.zero : M3 := ⟨0, 0, 0, 0, 0, 0, 0, 0, 0⟩
def M3.det (m : M3) : Int := m.a * (m.e * m.i - m.f * m.h) + m.b * (m.f * m.g - m.d * m.i) + m.c * (m.d * m.h - m.e * m.g)
def M3.adj (m : M3) : M3 :=
  ⟨m.e * m.i - m.f * m.h, m.h * m.c - m.i * m.b, m.b * m.f - m.c * m.e, m.f * m.g - m.d * m.i, m.i * m.a - m.g * m.c, m.c * m.d - m.a * m.f, m.d * m.h - m.e * m.g, m.g * m.b - m.h * m.a, m.a * m.e - m.b * m.d⟩
def M3.smul (k : Int) (m : M3) : M3 := ⟨m.a * k, m.b * k, m.c * k, m.d * k, m.e * k, m.f * k, m.g * k, m.h * k, m.i * k⟩
def M3.tr (m : M3) : Int := m.a + m.e + m.i
def M3.neg (m : M3) : M3 := ⟨-m.a, -m.b, -m.c, -m.d, -m.e, -m.f, -m.g, -m.h, -m.i⟩
def M3.inv (m : M3) : M3 := m.adj.smul m.det
def M3.app (m : M3) (v : V3) : V3 := ⟨m.a * v.x + m.b * v.y + m.c * v.z, m.d * v.x + m.e * v.y + m.f * v.z, m.g * v.x + m.h * v.y + m.i * v.z⟩
def V3.zero : V3 := ⟨0, 0, 0⟩
def V3.add (u v : V3) : V3 := ⟨u.x + v.x, u.y + v.y, u.z + v.z⟩
def V3.neg (u : V3) : V3 := ⟨-u.x, -u.y, -u.z⟩
def V3.md (m : Int) (u : V3) : V3 := ⟨u.x % m, u.y % m, u.z % m⟩

theorem M3.mul_assoc (m n o : M3) : (m.mul n).mul o = m.mul (n.mul o) := by
  refine M3.ext' ⟨?_, ?_, ?_, ?_, ?_, ?_, ?_, ?_, ?_⟩ <;> (simp only [M3.mul]; grind)
theorem M3.one_mul (m : M3) : M3.one.mul m = m := by
  refine M3.ext' ⟨?_, ?_, ?_, ?_, ?_, ?_, ?_, ?_, ?_⟩ <;> (simp only [M3.mul, M3.one]; omega)
theorem M3.mul_one (m : M3) : m.mul M3.one = m := by
  refine M3.ext' ⟨?_, ?_, ?_, ?_, ?_, ?_, ?_, ?_, ?_⟩ <;> (simp only [M3.mul, M3.one]; omega)
theorem M3.det_mul (m n : M3) : (m.mul n).det = m.det * n.det := by
  simp only [M3.det, M3.mul]; grind
theorem M3.adj_mul (m : M3) : m.adj.mul m = M3.one.smul m.det := by
  refine M3.ext' ⟨?_, ?_, ?_, ?_, ?_, ?_, ?_, ?_, ?_⟩ <;> (simp only [M3.mul, M3.adj, M3.smul, M3.det, M3.one]; grind)
theorem M3.smul_mul (k : Int) (m n : M3) : (m.smul k).mul n = (m.mul n).smul k := by
  refine M3.ext' ⟨?_, ?_, ?_, ?_, ?_, ?_, ?_, ?_, ?_⟩ <;> (simp only [M3.mul, M3.smul]; grind)
theorem M3.smul_smul (k l : Int) (m : M3) : (m.smul k).smul l = m.smul (k * l) := by
  refine M3.ext' ⟨?_, ?_, ?_, ?_, ?_, ?_, ?_, ?_, ?_⟩ <;> (simp only [M3.smul]; grind)
theorem M3.smul_one (m : M3) : m.smul 1 = m := by
  refine M3.ext' ⟨?_, ?_, ?_, ?_, ?_, ?_, ?_, ?_, ?_⟩ <;> (simp only [M3.smul]; omega)

/-- The determinant is 1 or -1. -/
def M3.U (m : M3) : Prop := m.det = 1 ∨ m.det = -1
theorem M3.U.sq {m : M3} (h : m.U) : m.det * m.det = 1 := by rcases h with h | h <;> rw [h] <;> rfl
theorem M3.inv_mul {m : M3} (h : m.U) : m.inv.mul m = M3.one := by
  unfold M3.inv; rw [M3.smul_mul, M3.adj_mul, M3.smul_smul, h.sq, M3.smul_one]
theorem M3.det_one : M3.one.det = 1 := by decide
theorem M3.U_one : M3.one.U := Or.inl M3.det_one
theorem M3.U_mul {m n : M3} (hm : m.U) (hn : n.U) : (m.mul n).U := by
  unfold M3.U
  rw [M3.det_mul]
  rcases hm with h | h <;> rcases hn with k | k <;> rw [h, k] <;> decide
theorem M3.app_mul (m n : M3) (v : V3) : (m.mul n).app v = m.app (n.app v) := by
  refine V3.ext' ⟨?_, ?_, ?_⟩ <;> (simp only [M3.mul, M3.app]; grind)
theorem M3.app_one (v : V3) : M3.one.app v = v := by
  refine V3.ext' ⟨?_, ?_, ?_⟩ <;> (simp only [M3.app, M3.one]; omega)
theorem M3.app_add (m : M3) (u v : V3) : m.app (u.add v) = (m.app u).add (m.app v) := by
  refine V3.ext' ⟨?_, ?_, ?_⟩ <;> (simp only [M3.app, V3.add]; grind)
def M3.pow (m : M3) : Nat → M3
  | 0 => M3.one
  | n + 1 => m.mul (m.pow n)
end Go.Proofs.Ytneaibkfglfpaaa.Vx


namespace Go.Proofs.Ytneaibkfglfpaaa.Vx
open Go

def eq3 (a b c d e f : Int) : Bool := (a == d) && ((b == e) && ((c == f) && true))
def eq9 (a b c d e f g h i j k l m n o p q r : Int) : Bool := eq3 a b c j k l && (eq3 d e f m n o && (eq3 g h i p q r && true))

/-- within (43): three numbers against a bound. -/
def withinT (a b c n : Int) : List (Bool × List Int) :=
  [(decide (a < W (0 - n)), [4]), (decide (a > n), [4]), (decide (b < W (0 - n)), [4]), (decide (b > n), [4]), (decide (c < W (0 - n)), [4]), (decide (c > n), [4])]
def withinR (a b c n : Int) : Int := nth (chainL (withinT a b c n) [0]) 0
/-- Check (24). -/
def checkT (a b c d e f g h i : Int) : List (Bool × List Int) :=
  [(withinR a b c 1000 != 0, [withinR a b c 1000]), (withinR d e f 1000 != 0, [withinR d e f 1000]), (withinR g h i 1000 != 0, [withinR g h i 1000])]
def chk (a b c d e f g h i : Int) : Int := nth (chainL (checkT a b c d e f g h i) [0]) 0
def dotR (a b c d e f : Int) : Int := W (W (W (a * d) + W (b * e)) + W (c * f))
def prodL (a b c d e f g h i j k l m n o p q r : Int) : List Int :=
  [dotR a b c j m p, dotR a b c k n q, dotR a b c l o r, dotR d e f j m p, dotR d e f k n q, dotR d e f l o r, dotR g h i j m p, dotR g h i k n q, dotR g h i l o r]

/-- The document's Mat (13) and Column (15). -/
def rangeT (n : Int) : List Int → List (Bool × List Int)
  | [] => []
  | a :: l => (decide (a < -n), [4]) :: (decide (a > n), [4]) :: rangeT n l
def minR (a b c d : Int) : Int := W (W (a * b) - W (c * d))
def detR (a b c d e f g h i : Int) : Int := W (W (W (a * minR e i f h) + W (b * minR f g d i)) + W (c * minR d h e g))
/-- cmp.Compare (47), Compare (33), the document's (34). -/
def cmpT (a b : Int) : List (Bool × List Int) := [(decide (a < b), [-1]), (decide (a > b), [1])]
def cmpR (a b : Int) : Int := nth (chainL (cmpT a b) [0]) 0
def compT : List Int → List Int → List (Bool × List Int)
  | a :: l, b :: m => (cmpR a b != 0, [cmpR a b]) :: compT l m
  | _, _ => []
def dcompT : List Int → List Int → List (Bool × List Int)
  | a :: l, b :: m => (decide (a < b), [-1]) :: (decide (a > b), [1]) :: dcompT l m
  | _, _ => []
def zeros9 (e : Int) : List Int := [0, 0, 0, 0, 0, 0, 0, 0, 0, e]
/-- Inverse (29). -/
def invL (a b c d e f g h i : Int) : List Int :=
  [W (minR e i f h * detR a b c d e f g h i), W (minR h c i b * detR a b c d e f g h i), W (minR b f c e * detR a b c d e f g h i), W (minR f g d i * detR a b c d e f g h i), W (minR i a g c * detR a b c d e f g h i), W (minR c d a f * detR a b c d e f g h i), W (minR d h e g * detR a b c d e f g h i), W (minR g b h a * detR a b c d e f g h i), W (minR a e b d * detR a b c d e f g h i)]
def invE (a b c d e f g h i : Int) : List Int :=
  chainL [(chk a b c d e f g h i != 0, zeros9 (chk a b c d e f g h i)), (detR a b c d e f g h i != 1 && detR a b c d e f g h i != -1, zeros9 3)] (invL a b c d e f g h i ++ [0])
end Go.Proofs.Ytneaibkfglfpaaa.Vx


namespace Go.Proofs.Ytneaibkfglfpaaa.Vx
open Go

/-- The first test that holds answers false. -/
def guardF : List Bool → Option Value → Option Value
  | [], k => k
  | t :: ts, k => match t with
    | true => some (.bool false)
    | false => guardF ts k
def inB (n : Int) (l : List Int) : Bool := l.all fun x => decide (-n ≤ x) && decide (x ≤ n)

theorem range_eq (n : Int) : ∀ (l : List Int), nth (chainL (rangeT n l) [0]) 0 = bif inB n l then 0 else 4
  | [] => rfl
  | a :: l => by
    have ih := range_eq n l
    unfold inB at ih ⊢
    simp only [rangeT, List.all_cons]
    by_cases h1 : a < -n
    · have : decide (-n ≤ a) = false := by simp; omega
      simp [chainL, h1, this, nth]
    · by_cases h2 : a > n
      · have : decide (a ≤ n) = false := by simp; omega
        simp [chainL, h1, h2, this, nth]
      · have e1 : decide (-n ≤ a) = true := by simp; omega
        have e2 : decide (a ≤ n) = true := by simp; omega
        simp only [chainL, h1, h2, decide_false, e1, e2, Bool.true_and]
        exact ih

theorem within_eq (a b c n : Int) (h0 : 0 ≤ n) (h1 : n ≤ 9223372036854775807) : withinR a b c n = bif inB n [a, b, c] then 0 else 4 := by
  have : withinT a b c n = rangeT n [a, b, c] := by
    unfold withinT
    rw [show W (0 - n) = -n from by rw [W_id (by omega) (by omega)]; omega]
    rfl
  unfold withinR
  rw [this, range_eq]

theorem chk_eq (a b c d e f g h i : Int) : chk a b c d e f g h i = bif inB 1000 [a, b, c, d, e, f, g, h, i] then 0 else 4 := by
  have hs : inB 1000 [a, b, c, d, e, f, g, h, i] = (inB 1000 [a, b, c] && (inB 1000 [d, e, f] && inB 1000 [g, h, i])) := by
    unfold inB; simp only [List.all_cons, List.all_nil, Bool.and_true]
    simp only [Bool.and_assoc]
  rw [hs]
  unfold chk checkT
  rw [within_eq a b c 1000 (by omega) (by omega), within_eq d e f 1000 (by omega) (by omega), within_eq g h i 1000 (by omega) (by omega)]
  cases inB 1000 [a, b, c] <;> cases inB 1000 [d, e, f] <;> cases inB 1000 [g, h, i] <;> rfl

def rdot (a b c d e f : Int) : Int := W (W (W (0 + W (a * d)) + W (b * e)) + W (c * f))
theorem rdot_eq (a b c d e f : Int) : rdot a b c d e f = dotR a b c d e f := by
  unfold rdot dotR
  rw [Int.zero_add, W_W]
def det (a b c d e f g h i : Int) : Int := a * (e * i - f * h) + b * (f * g - d * i) + c * (d * h - e * g)
theorem detR_eq (a b c d e f g h i : Int) : detR a b c d e f g h i = W (det a b c d e f g h i) := by
  unfold detR minR det
  simp only [W_addl, W_addr, W_subl, W_subr, W_mulr]
end Go.Proofs.Ytneaibkfglfpaaa.Vx


namespace Go.Proofs.Ytneaibkfglfpaaa.Vx
open Go

theorem bd_mul {m n x y : Int} (hx : -m ≤ x ∧ x ≤ m) (hy : -n ≤ y ∧ y ≤ n) : -(m * n) ≤ x * y ∧ x * y ≤ m * n := by
  have h1 := Int.mul_nonneg (show 0 ≤ m - x by omega) (show 0 ≤ n + y by omega)
  have h2 := Int.mul_nonneg (show 0 ≤ m + x by omega) (show 0 ≤ n - y by omega)
  have h3 := Int.mul_nonneg (show 0 ≤ m - x by omega) (show 0 ≤ n - y by omega)
  have h4 := Int.mul_nonneg (show 0 ≤ m + x by omega) (show 0 ≤ n + y by omega)
  have e1 : (m - x) * (n + y) + (m + x) * (n - y) = 2 * (m * n) - 2 * (x * y) := by grind
  have e2 : (m - x) * (n - y) + (m + x) * (n + y) = 2 * (m * n) + 2 * (x * y) := by grind
  omega

theorem tmod_bd (x n : Int) (hn : 0 < n) : -(n - 1) ≤ Int.tmod x n ∧ Int.tmod x n ≤ n - 1 := by
  have h1 := Int.tmod_lt_of_pos x hn
  have h2 := Int.tmod_lt_of_pos (-x) hn
  rw [Int.neg_tmod] at h2
  omega

theorem inB_iff {n : Int} {l : List Int} : inB n l = true ↔ ∀ x ∈ l, -n ≤ x ∧ x ≤ n := by
  unfold inB
  simp [List.all_eq_true]

theorem dotR_W (a b c d e f : Int) : dotR a b c d e f = W (a * d + b * e + c * f) := by
  unfold dotR
  simp only [W_addl, W_addr]
theorem minR_W (a b c d : Int) : minR a b c d = W (a * b - c * d) := by
  unfold minR
  simp only [W_subl, W_subr]

theorem det_mul (a b c d e f g h i j k l m n o p q r : Int) :
    det (a * j + b * m + c * p) (a * k + b * n + c * q) (a * l + b * o + c * r) (d * j + e * m + f * p) (d * k + e * n + f * q) (d * l + e * o + f * r) (g * j + h * m + i * p) (g * k + h * n + i * q) (g * l + h * o + i * r) = det a b c d e f g h i * det j k l m n o p q r := by
  unfold det; grind

end Go.Proofs.Ytneaibkfglfpaaa.Vx


namespace Go.Proofs.Ytneaibkfglfpaaa.Vx
open Go

structure O3 where
  (r : M3) (t : V3)
structure P3 where
  (m : Int) (x : V3)
def O3.zero : O3 := ⟨M3.zero, V3.zero⟩
def P3.zero : P3 := ⟨0, V3.zero⟩

def vI (n : Int) : Value := .int .i64 n
def M3.v (m : M3) : Value := .agg #[.int .i64 m.a, .int .i64 m.b, .int .i64 m.c, .int .i64 m.d, .int .i64 m.e, .int .i64 m.f, .int .i64 m.g, .int .i64 m.h, .int .i64 m.i]
def V3.v (u : V3) : Value := .agg #[.int .i64 u.x, .int .i64 u.y, .int .i64 u.z]
def O3.v (o : O3) : Value := .agg #[.int .i64 o.r.a, .int .i64 o.r.b, .int .i64 o.r.c, .int .i64 o.r.d, .int .i64 o.r.e, .int .i64 o.r.f, .int .i64 o.r.g, .int .i64 o.r.h, .int .i64 o.r.i, .int .i64 o.t.x, .int .i64 o.t.y, .int .i64 o.t.z]
def P3.v (p : P3) : Value := .agg #[.int .i64 p.m, .int .i64 p.x.x, .int .i64 p.x.y, .int .i64 p.x.z]
def p2 (a b : Value) : Value := .tuple #[a, b]

def M3.eqB (m n : M3) : Bool := eq9 m.a m.b m.c m.d m.e m.f m.g m.h m.i n.a n.b n.c n.d n.e n.f n.g n.h n.i
def V3.eqB (u v : V3) : Bool := eq3 u.x u.y u.z v.x v.y v.z
def O3.eqB (o p : O3) : Bool := o.r.eqB p.r && (o.t.eqB p.t && true)
def P3.eqB (p q : P3) : Bool := (p.m == q.m) && (p.x.eqB q.x && true)
theorem M3.eqB_iff {m n : M3} : m.eqB n = true ↔ m = n := by
  cases m; cases n
  simp only [M3.eqB, eq9, eq3, Bool.and_eq_true, beq_iff_eq, M3.mk.injEq, and_true, and_assoc]
theorem V3.eqB_iff {m n : V3} : m.eqB n = true ↔ m = n := by
  cases m; cases n
  simp only [V3.eqB, eq3, Bool.and_eq_true, beq_iff_eq, V3.mk.injEq, and_true]
theorem O3.eqB_iff {m n : O3} : m.eqB n = true ↔ m = n := by
  cases m; cases n
  simp only [O3.eqB, Bool.and_eq_true, M3.eqB_iff, V3.eqB_iff, O3.mk.injEq, and_true]
theorem P3.eqB_iff {m n : P3} : m.eqB n = true ↔ m = n := by
  cases m; cases n
  simp only [P3.eqB, Bool.and_eq_true, V3.eqB_iff, P3.mk.injEq, and_true, beq_iff_eq]
theorem M3.eqB_refl (m : M3) : m.eqB m = true := M3.eqB_iff.2 rfl
theorem V3.eqB_refl (m : V3) : m.eqB m = true := V3.eqB_iff.2 rfl
theorem O3.eqB_refl (m : O3) : m.eqB m = true := O3.eqB_iff.2 rfl
theorem P3.eqB_refl (m : P3) : m.eqB m = true := P3.eqB_iff.2 rfl
theorem M3.eqB_false {m n : M3} : m.eqB n = false ↔ m ≠ n := by rw [Ne, ← M3.eqB_iff, Bool.not_eq_true]
theorem V3.eqB_false {m n : V3} : m.eqB n = false ↔ m ≠ n := by rw [Ne, ← V3.eqB_iff, Bool.not_eq_true]
theorem O3.eqB_false {m n : O3} : m.eqB n = false ↔ m ≠ n := by rw [Ne, ← O3.eqB_iff, Bool.not_eq_true]
theorem P3.eqB_false {m n : P3} : m.eqB n = false ↔ m ≠ n := by rw [Ne, ← P3.eqB_iff, Bool.not_eq_true]

def M3.l (m : M3) : List Int := [m.a, m.b, m.c, m.d, m.e, m.f, m.g, m.h, m.i]
def V3.l (m : V3) : List Int := [m.x, m.y, m.z]
def M3.ok (m : M3) : Bool := inB 1000 m.l
def V3.ok (v : V3) : Bool := inB 2147483648 v.l
def M3.Bd (n : Int) (m : M3) : Prop := (-n ≤ m.a ∧ m.a ≤ n) ∧ (-n ≤ m.b ∧ m.b ≤ n) ∧ (-n ≤ m.c ∧ m.c ≤ n) ∧ (-n ≤ m.d ∧ m.d ≤ n) ∧ (-n ≤ m.e ∧ m.e ≤ n) ∧ (-n ≤ m.f ∧ m.f ≤ n) ∧ (-n ≤ m.g ∧ m.g ≤ n) ∧ (-n ≤ m.h ∧ m.h ≤ n) ∧ (-n ≤ m.i ∧ m.i ≤ n)
def V3.Bd (n : Int) (m : V3) : Prop := (-n ≤ m.x ∧ m.x ≤ n) ∧ (-n ≤ m.y ∧ m.y ≤ n) ∧ (-n ≤ m.z ∧ m.z ≤ n)
theorem M3.ok_iff {m : M3} : m.ok = true ↔ m.Bd 1000 := by
  unfold M3.ok M3.l M3.Bd
  rw [inB_iff]
  simp only [List.mem_cons, List.not_mem_nil, or_false, forall_eq_or_imp, forall_eq]
theorem V3.ok_iff {m : V3} : m.ok = true ↔ m.Bd 2147483648 := by
  unfold V3.ok V3.l V3.Bd
  rw [inB_iff]
  simp only [List.mem_cons, List.not_mem_nil, or_false, forall_eq_or_imp, forall_eq]
theorem M3.Bd.mono {m : M3} {k n : Int} (h : m.Bd k) (hk : k ≤ n) : m.Bd n := by unfold M3.Bd at *; omega
theorem V3.Bd.mono {m : V3} {k n : Int} (h : m.Bd k) (hk : k ≤ n) : m.Bd n := by unfold V3.Bd at *; omega
/-- Products of three with three. -/
theorem dot_bd {m n a b c d e f : Int} (ha : -m ≤ a ∧ a ≤ m) (hb : -m ≤ b ∧ b ≤ m) (hc : -m ≤ c ∧ c ≤ m) (hd : -n ≤ d ∧ d ≤ n) (he : -n ≤ e ∧ e ≤ n) (hf : -n ≤ f ∧ f ≤ n) :
    -(3 * (m * n)) ≤ a * d + b * e + c * f ∧ a * d + b * e + c * f ≤ 3 * (m * n) := by
  have h1 := bd_mul ha hd
  have h2 := bd_mul hb he
  have h3 := bd_mul hc hf
  omega
theorem min_bd {m n a b c d : Int} (ha : -m ≤ a ∧ a ≤ m) (hb : -n ≤ b ∧ b ≤ n) (hc : -m ≤ c ∧ c ≤ m) (hd : -n ≤ d ∧ d ≤ n) :
    -(2 * (m * n)) ≤ a * b - c * d ∧ a * b - c * d ≤ 2 * (m * n) := by
  have h1 := bd_mul ha hb
  have h2 := bd_mul hc hd
  omega
theorem M3.Bd.mul {m n : M3} {k l : Int} (hm : m.Bd k) (hn : n.Bd l) : (m.mul n).Bd (3 * (k * l)) := by
  obtain ⟨a, b, c, d, e, f, g, h, i⟩ := hm
  obtain ⟨a', b', c', d', e', f', g', h', i'⟩ := hn
  exact ⟨dot_bd a b c a' d' g', dot_bd a b c b' e' h', dot_bd a b c c' f' i', dot_bd d e f a' d' g', dot_bd d e f b' e' h', dot_bd d e f c' f' i', dot_bd g h i a' d' g', dot_bd g h i b' e' h', dot_bd g h i c' f' i'⟩
theorem M3.Bd.app {m : M3} {v : V3} {k l : Int} (hm : m.Bd k) (hn : v.Bd l) : (m.app v).Bd (3 * (k * l)) := by
  obtain ⟨a, b, c, d, e, f, g, h, i⟩ := hm
  obtain ⟨x, y, z⟩ := hn
  exact ⟨dot_bd a b c x y z, dot_bd d e f x y z, dot_bd g h i x y z⟩
theorem M3.Bd.adj {m : M3} {k : Int} (hm : m.Bd k) : m.adj.Bd (2 * (k * k)) := by
  obtain ⟨a, b, c, d, e, f, g, h, i⟩ := hm
  exact ⟨min_bd e i f h, min_bd h c i b, min_bd b f c e, min_bd f g d i, min_bd i a g c, min_bd c d a f, min_bd d h e g, min_bd g b h a, min_bd a e b d⟩
theorem M3.Bd.det {m : M3} {k : Int} (hm : m.Bd k) : -(3 * (k * (2 * (k * k)))) ≤ m.det ∧ m.det ≤ 3 * (k * (2 * (k * k))) := by
  obtain ⟨a, b, c, d, e, f, g, h, i⟩ := hm
  exact dot_bd a b c (min_bd e i f h) (min_bd f g d i) (min_bd d h e g)
theorem M3.Bd.inv {m : M3} {k : Int} (hm : m.Bd k) (hu : m.U) : m.inv.Bd (2 * (k * k)) := by
  have h := hm.adj
  unfold M3.Bd M3.inv M3.smul at *
  simp only
  rcases hu with e | e <;> rw [e] <;> omega

/-- A number wrapped round that lies within. -/
theorem W_in {n : Int} (h : -9000000000000000000 ≤ n ∧ n ≤ 9000000000000000000) : W n = n := W_id (by omega) (by omega)

def M3.ck (m : M3) : Int := bif m.ok then 0 else 4
theorem chk_ck (m : M3) : chk m.a m.b m.c m.d m.e m.f m.g m.h m.i = m.ck := chk_eq _ _ _ _ _ _ _ _ _
def unitB (d : Int) : Bool := d == 1 || d == -1
theorem unitB_iff {d : Int} : unitB d = true ↔ (d = 1 ∨ d = -1) := by simp [unitB]
/-- What keeps a matrix from being in form. -/
def M3.form (m : M3) : Int := bif m.ok then (bif unitB m.det then 0 else 3) else 4
theorem M3.form_zero {m : M3} : m.form = 0 ↔ m.ok = true ∧ m.U := by
  unfold M3.form M3.U
  rw [← unitB_iff]
  cases m.ok <;> cases unitB m.det <;> simp

def tWithin (v : V3) (n : Int) : Option Value := chainO mk1 (withinT v.x v.y v.z n) [0]
def fWithin (v : V3) (n : Int) : Value := vI (withinR v.x v.y v.z n)
theorem tWithin_eq (v : V3) (n : Int) : tWithin v n = some (fWithin v n) := by
  unfold tWithin fWithin
  rw [chain_eq]; rfl
def tCheck (m : M3) : Option Value := chainO mk1 (checkT m.a m.b m.c m.d m.e m.f m.g m.h m.i) [0]
def fCheck (m : M3) : Value := vI m.ck
theorem tCheck_eq (m : M3) : tCheck m = some (fCheck m) := by
  unfold tCheck fCheck
  rw [chain_eq, ← chk_ck]; rfl
def tBoth (m : M3) (v : V3) : Option Value := chainO mk1 [(m.ck != 0, [m.ck])] [withinR v.x v.y v.z 2147483648]
def fBoth (m : M3) (v : V3) : Value := vI (bif m.ok && v.ok then 0 else 4)
theorem tBoth_eq (m : M3) (v : V3) : tBoth m v = some (fBoth m v) := by
  unfold tBoth fBoth
  rw [chain_eq, within_eq _ _ _ _ (by omega) (by omega)]
  change some (mk1 (chainL [(m.ck != 0, [m.ck])] [bif v.ok then 0 else 4])) = _
  unfold M3.ck
  cases m.ok <;> cases v.ok <;> rfl
def prodW (m n : M3) : List Int := prodL m.a m.b m.c m.d m.e m.f m.g m.h m.i n.a n.b n.c n.d n.e n.f n.g n.h n.i
theorem dotR_in {a b c d e f : Int} (h : -9000000000000000000 ≤ a * d + b * e + c * f ∧ a * d + b * e + c * f ≤ 9000000000000000000) : dotR a b c d e f = a * d + b * e + c * f := by rw [dotR_W, W_in h]
theorem prodW_eq {m n : M3} (h : (m.mul n).Bd 9000000000000000000) : prodW m n = (m.mul n).l := by
  obtain ⟨h0, h1, h2, h3, h4, h5, h6, h7, h8⟩ := h
  simp only [prodW, prodL, M3.l]
  rw [dotR_in h0, dotR_in h1, dotR_in h2, dotR_in h3, dotR_in h4, dotR_in h5, dotR_in h6, dotR_in h7, dotR_in h8]
  rfl
def tMul (m n : M3) : Option Value := chainO mkMe [(m.ck != 0, zeros9 m.ck), (n.ck != 0, zeros9 n.ck)] (prodW m n ++ [0])
def M3.mulF (m n : M3) : M3 := bif m.ok && n.ok then m.mul n else M3.zero
def fMul (m n : M3) : Value := p2 (m.mulF n).v (vI (bif m.ok && n.ok then 0 else 4))
theorem tMul_eq (m n : M3) : tMul m n = some (fMul m n) := by
  unfold tMul fMul M3.mulF
  rw [chain_eq]
  unfold M3.ck
  cases h1 : m.ok <;> cases h2 : n.ok <;> simp only [cond_true, cond_false, Bool.and_true, Bool.and_false, chainL, bne_self_eq_false]
  · rfl
  · rfl
  · rfl
  · rw [prodW_eq (((M3.ok_iff.1 h1).mul (M3.ok_iff.1 h2)).mono (by omega))]; rfl
def appW (m : M3) (v : V3) : List Int := [dotR m.a m.b m.c v.x v.y v.z, dotR m.d m.e m.f v.x v.y v.z, dotR m.g m.h m.i v.x v.y v.z]
theorem appW_eq {m : M3} {v : V3} (h : (m.app v).Bd 9000000000000000000) : appW m v = (m.app v).l := by
  obtain ⟨h0, h1, h2⟩ := h
  simp only [appW, V3.l]
  rw [dotR_in h0, dotR_in h1, dotR_in h2]
  rfl
def tApply (m : M3) (v : V3) : Option Value := chainO mkVe [((bif m.ok && v.ok then 0 else 4 : Int) != 0, [0, 0, 0, bif m.ok && v.ok then 0 else 4])] (appW m v ++ [0])
def M3.appF (m : M3) (v : V3) : V3 := bif m.ok && v.ok then m.app v else V3.zero
def fApply (m : M3) (v : V3) : Value := p2 (m.appF v).v (vI (bif m.ok && v.ok then 0 else 4))
theorem tApply_eq (m : M3) (v : V3) : tApply m v = some (fApply m v) := by
  unfold tApply fApply M3.appF
  rw [chain_eq]
  cases h1 : m.ok <;> cases h2 : v.ok <;> simp only [cond_true, cond_false, Bool.and_true, Bool.and_false, chainL, bne_self_eq_false]
  · rfl
  · rfl
  · rfl
  · rw [appW_eq (((M3.ok_iff.1 h1).app (V3.ok_iff.1 h2)).mono (by omega))]; rfl
def detW (m : M3) : Int := detR m.a m.b m.c m.d m.e m.f m.g m.h m.i
theorem detW_W (m : M3) : detW m = W m.det := detR_eq _ _ _ _ _ _ _ _ _
theorem detW_eq {m : M3} (h : m.ok = true) : detW m = m.det := by
  rw [detW_W, W_in]
  have := (M3.ok_iff.1 h).det
  omega
def tDet (m : M3) : Option Value := chainO mkIe [(m.ck != 0, [0, m.ck])] [detW m, 0]
def fDet (m : M3) : Value := p2 (vI (bif m.ok then m.det else 0)) (vI m.ck)
theorem tDet_eq (m : M3) : tDet m = some (fDet m) := by
  unfold tDet fDet
  rw [chain_eq]
  unfold M3.ck
  cases h : m.ok
  · rfl
  · rw [detW_eq h]; rfl
def invW (m : M3) : List Int := invL m.a m.b m.c m.d m.e m.f m.g m.h m.i
theorem minR_in {a b c d : Int} (h : -9000000000000000000 ≤ a * b - c * d ∧ a * b - c * d ≤ 9000000000000000000) : minR a b c d = a * b - c * d := by rw [minR_W, W_in h]
theorem invW_eq {m : M3} (h : m.ok = true) (hu : m.U) : invW m = m.inv.l := by
  have hb := M3.ok_iff.1 h
  have hd : detR m.a m.b m.c m.d m.e m.f m.g m.h m.i = m.det := detW_eq h
  obtain ⟨h0, h1, h2, h3, h4, h5, h6, h7, h8⟩ := hb.adj.mono (show 2 * (1000 * 1000) ≤ 9000000000000000000 by omega)
  have hw := (hb.inv hu).mono (show 2 * (1000 * 1000) ≤ 9000000000000000000 by omega)
  obtain ⟨k0, k1, k2, k3, k4, k5, k6, k7, k8⟩ := hw
  simp only [invW, invL, hd]
  simp only [M3.adj] at h0 h1 h2 h3 h4 h5 h6 h7 h8
  rw [minR_in h0, minR_in h1, minR_in h2, minR_in h3, minR_in h4, minR_in h5, minR_in h6, minR_in h7, minR_in h8]
  simp only [M3.inv, M3.smul, M3.adj] at k0 k1 k2 k3 k4 k5 k6 k7 k8
  rw [W_in k0, W_in k1, W_in k2, W_in k3, W_in k4, W_in k5, W_in k6, W_in k7, W_in k8]
  rfl
def tInverse (m : M3) : Option Value :=
  match m.ck != 0 with
  | true => some (mkMe (zeros9 m.ck))
  | false => match detW m != 1 with
    | true => match detW m != -1 with
      | true => some (mkMe (zeros9 3))
      | false => some (mkMe (invW m ++ [0]))
    | false => some (mkMe (invW m ++ [0]))
def M3.invF (m : M3) : M3 := bif m.form == 0 then m.inv else M3.zero
def fInverse (m : M3) : Value := p2 m.invF.v (vI m.form)
theorem tInverse_eq (m : M3) : tInverse m = some (fInverse m) := by
  unfold tInverse fInverse M3.invF M3.form M3.ck
  cases h : m.ok
  · rfl
  · simp only [cond_true, bne_self_eq_false, detW_eq h]
    by_cases h1 : m.det = 1
    · rw [invW_eq h (Or.inl h1), h1]; rfl
    · by_cases h2 : m.det = -1
      · rw [invW_eq h (Or.inr h2), h2]; rfl
      · have e1 : (m.det != 1) = true := by simpa using h1
        have e2 : (m.det != -1) = true := by simpa using h2
        have e3 : unitB m.det = false := by simp [unitB, h1, h2]
        rw [e1, e2, e3]; rfl
/-- The first of 1, 2, 3, 4, 6 that makes a power the identity; 0: none. -/
def M3.ordI (m : M3) : Int :=
  bif m.eqB M3.one then 1 else bif (m.pow 2).eqB M3.one then 2 else bif (m.pow 3).eqB M3.one then 3 else bif (m.pow 4).eqB M3.one then 4 else bif (m.pow 6).eqB M3.one then 6 else 0
def lM (l : List Int) : M3 := ⟨nth l 0, nth l 1, nth l 2, nth l 3, nth l 4, nth l 5, nth l 6, nth l 7, nth l 8⟩
def M3.ordF (m : M3) : Int := bif m.form == 0 then m.ordI else 0
def M3.ordE (m : M3) : Int := bif m.form == 0 then (bif m.ordI == 0 then 9 else 0) else m.form
def md (n m : Int) : Int := match decide (Int.tmod n m < 0) with
  | true => W (Int.tmod n m + m)
  | false => Int.tmod n m
theorem md_emod (n m : Int) (h0 : 0 < m) (h1 : m ≤ 1000) : md n m = n % m := by
  unfold md
  have h := Int.tmod_add_mul_tdiv n m
  have hb := tmod_bd n m h0
  have e2 : (n.tmod m) % m = n % m := by
    conv => rhs; rw [← h]
    rw [Int.add_mul_emod_self_left]
  by_cases hn : n.tmod m < 0
  · have : decide (n.tmod m < 0) = true := by simpa using hn
    rw [this]
    simp only
    rw [W_in (by omega), ← e2]
    have : (n.tmod m + m) % m = n.tmod m % m := Int.add_emod_right _ _
    rw [← this, Int.emod_eq_of_lt (by omega) (by omega)]
  · have : decide (n.tmod m < 0) = false := by simpa using hn
    rw [this]
    simp only
    rw [← e2, Int.emod_eq_of_lt (by omega) (by omega)]
/-- A number that is divided by: above 0, and not too great. -/
def modB (m : Int) : Bool := decide (0 < m) && decide (m ≤ 1000)
theorem modB_iff {m : Int} : modB m = true ↔ 0 < m ∧ m ≤ 1000 := by simp [modB]
def tResidue (n m : Int) : Option Value := match m == 0 with
  | true => none
  | false => match decide (Int.tmod n m < 0) with
    | true => some (.int .i64 (W (Int.tmod n m + m)))
    | false => some (.int .i64 (Int.tmod n m))
theorem tResidue_eq {n m : Int} (h : modB m = true) : tResidue n m = some (vI (n % m)) := by
  obtain ⟨h0, h1⟩ := modB_iff.1 h
  have e : (m == 0) = false := by simp; omega
  rw [← md_emod n m h0 h1]
  unfold tResidue md vI
  rw [e]
  cases decide (Int.tmod n m < 0) <;> rfl
def V3.a24 (u v : V3) : V3 := ⟨(u.x % 24 + v.x % 24) % 24, (u.y % 24 + v.y % 24) % 24, (u.z % 24 + v.z % 24) % 24⟩
theorem V3.a24_eq (u v : V3) : u.a24 v = (u.add v).md 24 := by
  unfold V3.a24 V3.add V3.md
  simp only [V3.mk.injEq]
  omega
theorem mod24_in (x y : Int) : W (x % 24 + y % 24) = x % 24 + y % 24 := W_in (by omega)
def tAdd (u v : V3) : Option Value := some (V3.v ⟨W (u.x % 24 + v.x % 24) % 24, W (u.y % 24 + v.y % 24) % 24, W (u.z % 24 + v.z % 24) % 24⟩)
def fAdd (u v : V3) : Value := ((u.add v).md 24).v
theorem tAdd_eq (u v : V3) : tAdd u v = some (fAdd u v) := by
  unfold tAdd fAdd
  rw [mod24_in, mod24_in, mod24_in, ← V3.a24_eq]; rfl
def tNeg (u : V3) : Option Value := some (V3.v ⟨W (0 - u.x % 24) % 24, W (0 - u.y % 24) % 24, W (0 - u.z % 24) % 24⟩)
def fNeg (u : V3) : Value := (u.neg.md 24).v
theorem tNeg_eq (u : V3) : tNeg u = some (fNeg u) := by
  unfold tNeg fNeg
  rw [W_in (by omega), W_in (by omega), W_in (by omega)]
  have : u.neg.md 24 = ⟨(0 - u.x % 24) % 24, (0 - u.y % 24) % 24, (0 - u.z % 24) % 24⟩ := by
    unfold V3.neg V3.md; simp only [V3.mk.injEq]; omega
  rw [this]
def V3.smul (n : Int) (u : V3) : V3 := ⟨n * u.x, n * u.y, n * u.z⟩
def isF (m : Int) : Bool := (m == 24) || ((m == 48) || ((m == 96) || (m == 192)))
theorem isF_iff {m : Int} : isF m = true ↔ m = 24 ∨ m = 48 ∨ m = 96 ∨ m = 192 := by simp [isF]
theorem isF_modB {m : Int} (h : isF m = true) : modB m = true := by
  rw [modB_iff]; rcases isF_iff.1 h with rfl | rfl | rfl | rfl <;> omega
def tFine (m : Int) : Option Value := match m == 24 with
  | true => some (.bool true)
  | false => match m == 48 with
    | true => some (.bool true)
    | false => match m == 96 with
      | true => some (.bool true)
      | false => some (.bool (m == 192))
def fFine (m : Int) : Value := .bool (isF m)
theorem tFine_eq (m : Int) : tFine m = some (fFine m) := by
  unfold tFine fFine isF
  cases m == 24 <;> cases m == 48 <;> cases m == 96 <;> rfl
/-- Go on where this holds. -/
def onO (b : Bool) (k : Option Value) : Option Value := match b with
  | true => k
  | false => none
theorem onO_true {b : Bool} (h : b = true) (k : Option Value) : onO b k = k := by subst h; rfl
def P3.form (p : P3) : Bool := isF p.m && p.x.eqB (p.x.md p.m)
def tPForm (p : P3) : Option Value := match isF p.m with
  | true => onO (modB p.m) (onO (modB p.m) (onO (modB p.m) (some (.bool (p.x.eqB (p.x.md p.m))))))
  | false => some (.bool false)
def fPForm (p : P3) : Value := .bool p.form
theorem tPForm_eq (p : P3) : tPForm p = some (fPForm p) := by
  unfold tPForm fPForm P3.form
  cases h : isF p.m with
  | true => simp only [onO_true (isF_modB h), Bool.true_and]
  | false => rfl
theorem P3.form_spec {p : P3} (h : p.form = true) : (p.m = 24 ∨ p.m = 48 ∨ p.m = 96 ∨ p.m = 192) ∧ (0 ≤ p.x.x ∧ p.x.x < p.m) ∧ (0 ≤ p.x.y ∧ p.x.y < p.m) ∧ (0 ≤ p.x.z ∧ p.x.z < p.m) := by
  unfold P3.form at h
  rw [Bool.and_eq_true] at h
  have hm := isF_iff.1 h.1
  have hx := V3.eqB_iff.1 h.2
  refine ⟨hm, ?_⟩
  have e1 : p.x.x = p.x.x % p.m := congrArg V3.x hx
  have e2 : p.x.y = p.x.y % p.m := congrArg V3.y hx
  have e3 : p.x.z = p.x.z % p.m := congrArg V3.z hx
  rcases hm with e | e | e | e <;> rw [e] at e1 e2 e3 ⊢ <;> omega
def tPlace (m : Int) (v : V3) : Option Value := match !(isF m) with
  | true => some (p2 P3.zero.v (vI 1))
  | false => onO (modB m) (onO (modB m) (onO (modB m) (some (p2 (P3.v ⟨m, v.md m⟩) (vI 0)))))
def P3.place (m : Int) (v : V3) : P3 := bif isF m then ⟨m, v.md m⟩ else P3.zero
def fPlace (m : Int) (v : V3) : Value := p2 (P3.place m v).v (vI (bif isF m then 0 else 1))
theorem tPlace_eq (m : Int) (v : V3) : tPlace m v = some (fPlace m v) := by
  unfold tPlace fPlace P3.place
  cases h : isF m with
  | true => simp only [Bool.not_true, onO_true (isF_modB h), cond_true]
  | false => rfl
def shW (m x t : Int) : Int := W (x + W (t % 24 * W (Int.tdiv m 24))) % m
def tShift (p : P3) (t : V3) : Option Value := match !p.form with
  | true => some (p2 P3.zero.v (vI 3))
  | false => onO (modB p.m) (onO (modB p.m) (onO (modB p.m) (some (p2 (P3.v ⟨p.m, ⟨shW p.m p.x.x t.x, shW p.m p.x.y t.y, shW p.m p.x.z t.z⟩⟩) (vI 0)))))
def P3.shift (p : P3) (t : V3) : P3 := ⟨p.m, (p.x.add (t.smul (p.m / 24))).md p.m⟩
def fShift (p : P3) (t : V3) : Value := p2 (bif p.form then p.shift t else P3.zero).v (vI (bif p.form then 0 else 3))
theorem shW_eq {m x : Int} (t : Int) (hm : m = 24 ∨ m = 48 ∨ m = 96 ∨ m = 192) (hx : 0 ≤ x ∧ x < m) : shW m x t = (x + m / 24 * t) % m := by
  unfold shW
  rcases hm with rfl | rfl | rfl | rfl
  · rw [show W (Int.tdiv 24 24) = 1 from rfl, W_in (n := t % 24 * 1) (by omega), W_in (by omega)]; omega
  · rw [show W (Int.tdiv 48 24) = 2 from rfl, W_in (n := t % 24 * 2) (by omega), W_in (by omega)]; omega
  · rw [show W (Int.tdiv 96 24) = 4 from rfl, W_in (n := t % 24 * 4) (by omega), W_in (by omega)]; omega
  · rw [show W (Int.tdiv 192 24) = 8 from rfl, W_in (n := t % 24 * 8) (by omega), W_in (by omega)]; omega
theorem tShift_eq (p : P3) (t : V3) : tShift p t = some (fShift p t) := by
  unfold tShift fShift
  cases h : p.form with
  | true =>
    obtain ⟨hm, h1, h2, h3⟩ := P3.form_spec h
    have hmod : modB p.m = true := modB_iff.2 (by omega)
    simp only [Bool.not_true, onO_true hmod, cond_true]
    rw [shW_eq _ hm h1, shW_eq _ hm h2, shW_eq _ hm h3]
    rfl
  | false => rfl
end Go.Proofs.Ytneaibkfglfpaaa.Vx


namespace Go.Proofs.Ytneaibkfglfpaaa.Vx
open Go

def O3.cells (o : O3) : List Value := [.int .i64 o.r.a, .int .i64 o.r.b, .int .i64 o.r.c, .int .i64 o.r.d, .int .i64 o.r.e, .int .i64 o.r.f, .int .i64 o.r.g, .int .i64 o.r.h, .int .i64 o.r.i, .int .i64 o.t.x, .int .i64 o.t.y, .int .i64 o.t.z]
def V3.cells (o : V3) : List Value := [.int .i64 o.x, .int .i64 o.y, .int .i64 o.z]
def M3.cells (m : M3) : List Value := [.int .i64 m.a, .int .i64 m.b, .int .i64 m.c, .int .i64 m.d, .int .i64 m.e, .int .i64 m.f, .int .i64 m.g, .int .i64 m.h, .int .i64 m.i]
def i64s : List Value → Option (List Int)
  | [] => some []
  | .int .i64 n :: l => match i64s l with
    | some r => some (n :: r)
    | none => none
  | _ => none
theorem i64s_spec : ∀ {l : List Value} {r : List Int}, i64s l = some r → l = r.map (.int .i64)
  | [], r, h => by simp [i64s] at h; subst h; rfl
  | v :: l, r, h => by
    unfold i64s at h
    split at h
    · rename_i heq; cases heq
    · rename_i n l' heq
      simp only [List.cons.injEq] at heq
      obtain ⟨rfl, rfl⟩ := heq
      split at h
      · rename_i q hq
        simp only [Option.some.injEq] at h
        subst h
        rw [List.map_cons, ← i64s_spec hq]
      · cases h
    · cases h
def opCells (l : List Value) : Option O3 := match i64s l with
  | some [a, b, c, d, e, f, g, h, i, x, y, z] => some ⟨⟨a, b, c, d, e, f, g, h, i⟩, ⟨x, y, z⟩⟩
  | _ => none
theorem opCells_spec {l : List Value} {o : O3} (h : opCells l = some o) : l = o.cells := by
  unfold opCells at h
  split at h
  · rename_i hq
    simp only [Option.some.injEq] at h
    subst h
    rw [i64s_spec hq]; rfl
  · cases h
end Go.Proofs.Ytneaibkfglfpaaa.Vx


namespace Go.Proofs.Ytneaibkfglfpaaa.Vx
open Go Go.RowKit

/-- The number, among M blocks, of the i-th of those that were handed over, or of one that was made behind them. -/
def unr (ks : List Nat) (M i : Nat) : Nat := match ks[i]? with
  | some b => b
  | none => M + (i - ks.length)
def unr0 (ks : List Nat) (M : Nat) : Value → Value
  | .pointer (some a) => .pointer (some ⟨unr ks M a.block, a.off, a.spot⟩)
  | .slice (some a) n e => .slice (some ⟨unr ks M a.block, a.off, a.spot⟩) n e
  | .map (some b) => .map (some (unr ks M b))
  | v => v
def unr1 (ks : List Nat) (M : Nat) : Value → Value
  | .agg cs => .agg (mapL (unr0 ks M) cs.toList).toArray
  | v => unr0 ks M v
def unrV (ks : List Nat) (M : Nat) : Value → Value
  | .tuple vs => .tuple (mapL (unr1 ks M) vs.toList).toArray
  | v => unr1 ks M v
def unrB (ks : List Nat) (M : Nat) : Blk → Blk
  | .cells own e c => .cells own e (mapL (unr0 ks M) c)
  | .rows own pl e n row => match pl with
    | true => .rows own true e n row
    | false => .rows own false e n fun i => mapL (unr0 ks M) (row i)
  | .grow pl e n row => match pl with
    | true => .grow true e n row
    | false => .grow false e n fun i => mapL (unr0 ks M) (row i)
  | .view pl e n row => match pl with
    | true => .view true e n row
    | false => .view false e n fun i => mapL (unr0 ks M) (row i)
  | b => b
def mapB (f : Blk → Blk) : Mem → Mem
  | [] => []
  | b :: l => f b :: mapB f l
def setK (f : Blk → Blk) (m : Mem) : List Nat → Mem → Mem
  | k :: ks, b :: bs => setK f (m.set k (f b)) ks bs
  | _, _ => m
def framed (ks : List Nat) (m ms : Mem) : Mem := setK (unrB ks m.length) m ks ms ++ mapB (unrB ks m.length) (ms.drop ks.length)
def allLt (M : Nat) : List Nat → Bool
  | [] => true
  | k :: ks => Nat.blt k M && allLt M ks

theorem allLt_iff {M : Nat} : ∀ {ks : List Nat}, allLt M ks = true → ∀ {i b : Nat}, ks[i]? = some b → b < M
  | [], _, i, b, h => by simp at h
  | k :: ks, hl, 0, b, h => by
    simp only [allLt, Bool.and_eq_true] at hl
    simp at h
    subst h
    exact Nat.blt_eq.mp hl.1
  | k :: ks, hl, i + 1, b, h => by
    simp only [allLt, Bool.and_eq_true] at hl
    simp only [List.getElem?_cons_succ] at h
    exact allLt_iff hl.2 h
theorem mapB_get {f : Blk → Blk} : ∀ (l : Mem) (i : Nat), (mapB f l)[i]? = (l[i]?).map f
  | [], i => by simp [mapB]
  | b :: l, 0 => by simp [mapB]
  | b :: l, i + 1 => by simp only [mapB, List.getElem?_cons_succ]; exact mapB_get l i
theorem setK_length {f : Blk → Blk} : ∀ (ks : List Nat) (bs m : Mem), (setK f m ks bs).length = m.length
  | [], [], m => rfl
  | [], _ :: _, m => rfl
  | k :: ks, [], m => rfl
  | k :: ks, b :: bs, m => by simp only [setK]; rw [setK_length ks bs]; simp
theorem setK_not {f : Blk → Blk} {c : Nat} : ∀ (ks : List Nat) (bs m : Mem), c ∉ ks → (setK f m ks bs)[c]? = m[c]?
  | [], [], m, _ => rfl
  | [], _ :: _, m, _ => rfl
  | k :: ks, [], m, _ => rfl
  | k :: ks, b :: bs, m, h => by
    simp only [List.mem_cons, not_or] at h
    simp only [setK]
    rw [setK_not ks bs _ h.2, List.getElem?_set_ne (fun e => h.1 e.symm)]
theorem setK_at {f : Blk → Blk} {c : Nat} : ∀ (ks : List Nat) (bs m : Mem) (i : Nat), noDup ks = true → allLt m.length ks = true → ks.length ≤ bs.length → ks[i]? = some c → (setK f m ks bs)[c]? = (bs[i]?).map f
  | [], bs, m, i, _, _, _, h => by simp at h
  | k :: ks, [], m, i, _, _, hl, h => by simp at hl
  | k :: ks, b :: bs, m, i, hd, ha, hl, h => by
    simp only [noDup, Bool.and_eq_true, Bool.not_eq_true'] at hd
    simp only [allLt, Bool.and_eq_true] at ha
    have hn : k ∉ ks := fun hm => by rw [hasN_iff.2 hm] at hd; cases hd.1
    have hk : k < m.length := Nat.blt_eq.mp ha.1
    simp only [setK]
    cases i with
    | zero =>
      simp at h
      subst h
      rw [setK_not ks bs _ hn, List.getElem?_set_self hk]
      simp
    | succ i =>
      simp only [List.getElem?_cons_succ] at h ⊢
      exact setK_at ks bs _ i hd.2 (by simpa using ha.2) (by simpa using hl) h
theorem idxN_of {ks : List Nat} (hd : noDup ks = true) {i b : Nat} (h : ks[i]? = some b) : idxN b ks 0 = some i := by
  have key : ∀ (l : List Nat) (j : Nat), b ∈ l → ∃ q, idxN b l j = some q := by
    intro l
    induction l with
    | nil => intro j hm; cases hm
    | cons x l ih =>
      intro j hm
      simp only [idxN]
      cases hb : Nat.beq x b with
      | true => exact ⟨_, rfl⟩
      | false =>
        rcases List.mem_cons.1 hm with rfl | hm
        · simp at hb
        · exact ih _ hm
  obtain ⟨q, hq⟩ := key ks 0 (List.mem_of_getElem? h)
  have := (idxN_spec hq).2
  simp only [Nat.sub_zero] at this
  rw [hq, noDup_inj hd this h]
theorem idxN_not {b : Nat} : ∀ {l : List Nat} {j : Nat}, b ∉ l → idxN b l j = none
  | [], _, _ => rfl
  | x :: l, j, h => by
    simp only [List.mem_cons, not_or] at h
    simp only [idxN]
    rw [show Nat.beq x b = false by
      cases hb : Nat.beq x b with
      | false => rfl
      | true => exact absurd (Nat.eq_of_beq_eq_true hb).symm h.1]
    exact idxN_not h.2

/-- Where blocks lie behind a call that was handed some of them. -/
def Ren.back (r rs : Ren) (ks : List Nat) (M : Nat) : Ren := fun b => match idxN b ks 0 with
  | some i => rs i
  | none => if b < M then r b else rs (ks.length + (b - M))
theorem back_unr {r rs : Ren} {ks : List Nat} {M : Nat} (hd : noDup ks = true) (ha : allLt M ks = true) (i : Nat) : (r.back rs ks M) (unr ks M i) = rs i := by
  unfold Ren.back unr
  cases hi : ks[i]? with
  | some b => simp only [idxN_of hd hi]
  | none =>
    have hl : ks.length ≤ i := List.getElem?_eq_none_iff.1 hi
    have hn : (M + (i - ks.length)) ∉ ks := fun hm => by
      obtain ⟨j, hj⟩ := List.getElem?_of_mem hm
      have := allLt_iff ha hj
      omega
    simp only [idxN_not hn]
    rw [if_neg (by omega)]
    congr 1; omega
theorem R1_nagg {r : Ren} {v v' : Value} (hn : ∀ cs, v ≠ .agg cs) : R1 r v v' ↔ R0 r v v' := by
  cases v with
  | agg cs => exact absurd rfl (hn cs)
  | _ => exact Iff.rfl
theorem unr1_nagg {ks : List Nat} {M : Nat} {v : Value} (hn : ∀ cs, v ≠ .agg cs) : unr1 ks M v = unr0 ks M v := by
  cases v with
  | agg cs => exact absurd rfl (hn cs)
  | _ => rfl
theorem unr0_nagg {ks : List Nat} {M : Nat} {v : Value} (hn : ∀ cs, v ≠ .agg cs) : ∀ cs, unr0 ks M v ≠ .agg cs := by
  intro cs
  cases v with
  | agg cs => exact absurd rfl (hn cs)
  | pointer a => cases a <;> simp [unr0]
  | slice a n c => cases a <;> simp [unr0]
  | map a => cases a <;> simp [unr0]
  | _ => simp [unr0]
theorem unrV_ntup {ks : List Nat} {M : Nat} {v : Value} (hn : ∀ cs, v ≠ .tuple cs) : unrV ks M v = unr1 ks M v := by
  cases v with
  | tuple cs => exact absurd rfl (hn cs)
  | _ => rfl
theorem unr1_ntup {ks : List Nat} {M : Nat} {v : Value} (hn : ∀ cs, v ≠ .tuple cs) : ∀ cs, unr1 ks M v ≠ .tuple cs := by
  intro cs
  cases v with
  | tuple cs => exact absurd rfl (hn cs)
  | pointer a => cases a <;> simp [unr1, unr0]
  | slice a n c => cases a <;> simp [unr1, unr0]
  | map a => cases a <;> simp [unr1, unr0]
  | _ => simp [unr1, unr0]
section
variable {r rs : Ren} {ks : List Nat} {M : Nat} (hd : noDup ks = true) (ha : allLt M ks = true)
include hd ha
theorem R0_back {v v' : Value} (h : R0 rs v v') : R0 (r.back rs ks M) (unr0 ks M v) v' := by
  unfold R0 at h
  cases v with
  | pointer a => cases a with
    | none => exact h
    | some a => simp only [unr0]; unfold R0; simp only [back_unr (r := r) (rs := rs) hd ha]; exact h
  | slice a n c => cases a with
    | none => exact h
    | some a => simp only [unr0]; unfold R0; simp only [back_unr (r := r) (rs := rs) hd ha]; exact h
  | map a => cases a with
    | none => exact h
    | some a => simp only [unr0]; unfold R0; simp only [back_unr (r := r) (rs := rs) hd ha]; exact h
  | iface t u => cases u <;> exact h
  | _ => exact h
theorem R1_back {v v' : Value} (h : R1 rs v v') : R1 (r.back rs ks M) (unr1 ks M v) v' := by
  by_cases hn : ∃ cs, v = .agg cs
  · obtain ⟨cs, rfl⟩ := hn
    obtain ⟨cs', rfl, h⟩ := h
    exact ⟨cs', rfl, by simpa using RL_mapL (f := unr0 ks M) (fun _ _ h => R0_back hd ha h) h⟩
  · have h0 := (R1_nagg fun cs e => hn ⟨cs, e⟩).1 h
    rw [unr1_nagg fun cs e => hn ⟨cs, e⟩]
    exact (R1_nagg (unr0_nagg fun cs e => hn ⟨cs, e⟩)).2 (R0_back hd ha h0)
theorem R_back {v v' : Value} (h : R rs v v') : R (r.back rs ks M) (unrV ks M v) v' := by
  by_cases hn : ∃ cs, v = .tuple cs
  · obtain ⟨cs, rfl⟩ := hn
    obtain ⟨cs', rfl, h⟩ := h
    exact ⟨cs', rfl, by simpa using RL_mapL (f := unr1 ks M) (fun _ _ h => R1_back hd ha h) h⟩
  · have h0 := (R1_R fun cs e => hn ⟨cs, e⟩).1 h
    rw [unrV_ntup fun cs e => hn ⟨cs, e⟩]
    exact (R1_R (unr1_ntup fun cs e => hn ⟨cs, e⟩)).2 (R1_back hd ha h0)
theorem CellsAt_back {cs : Array Value} {off : Nat} {c : List Value} (h : CellsAt rs cs off c) : CellsAt (r.back rs ks M) cs off (mapL (unr0 ks M) c) := fun k v hk => by
  obtain ⟨u, hu, rfl⟩ := mapL_get hk
  obtain ⟨v', h1, h2⟩ := h k u hu
  exact ⟨v', h1, R0_back hd ha h2⟩
theorem rows_back {cs : Array Value} {off esz n : Nat} {row : Nat → List Value} (h5 : ∀ i, i < n → (row i).length = esz ∧ CellsAt rs cs (off + i * esz) (row i)) :
    ((∀ i, i < n → allL plain0 (row i) = true) → ∀ i, i < n → (row i).length = esz ∧ CellsAt (r.back rs ks M) cs (off + i * esz) (row i)) ∧ ∀ i, i < n → (mapL (unr0 ks M) (row i)).length = esz ∧ CellsAt (r.back rs ks M) cs (off + i * esz) (mapL (unr0 ks M) (row i)) := by
  refine ⟨fun hp i hi => ⟨(h5 i hi).1, fun k v hk => ?_⟩, fun i hi => ⟨by rw [mapL_length]; exact (h5 i hi).1, CellsAt_back hd ha (h5 i hi).2⟩⟩
  obtain ⟨v', g1, g2⟩ := (h5 i hi).2 k v hk
  have hpv := allL_iff.1 (hp i hi) v (List.mem_of_getElem? hk)
  exact ⟨v', g1, (R0_plain hpv).2 ((R0_plain hpv).1 g2)⟩
theorem BlkRel_back {w : World} {p : Place} {k : Blk} (h : BlkRel w rs p k) : BlkRel w (r.back rs ks M) p (unrB ks M k) := by
  cases k with
  | cells own esz c =>
    obtain ⟨h1, h2, cs, T, fz, h6, h3, h4, h5⟩ := h
    exact ⟨h1, h2, cs, T, fz, h6, h3, h4, CellsAt_back hd ha h5⟩
  | rows own pl esz n row =>
    obtain ⟨h1, h2, h0, hp, cs, T, fz, h6, h3, h4, h5⟩ := h
    cases pl with
    | true => exact ⟨h1, h2, h0, hp, cs, T, fz, h6, h3, h4, (rows_back (r := r) hd ha h5).1 (hp rfl)⟩
    | false => exact ⟨h1, h2, h0, (fun h => by cases h), cs, T, fz, h6, h3, h4, (rows_back (r := r) hd ha h5).2⟩
  | grow pl esz n row =>
    obtain ⟨h1, h2, h0, hp, cs, T, fz, h3, h4, h5⟩ := h
    cases pl with
    | true => exact ⟨h1, h2, h0, hp, cs, T, fz, h3, h4, (rows_back (r := r) hd ha h5).1 (hp rfl)⟩
    | false => exact ⟨h1, h2, h0, (fun h => by cases h), cs, T, fz, h3, h4, (rows_back (r := r) hd ha h5).2⟩
  | view pl esz n row =>
    obtain ⟨h1, h2, h0, hp, cs, T, fz, h3, h4, h5⟩ := h
    cases pl with
    | true => exact ⟨h1, h2, h0, hp, cs, T, fz, h3, h4, (rows_back (r := r) hd ha h5).1 (hp rfl)⟩
    | false => exact ⟨h1, h2, h0, (fun h => by cases h), cs, T, fz, h3, h4, (rows_back (r := r) hd ha h5).2⟩
  | _ => exact h
end
theorem unrB_no {ks : List Nat} {M : Nat} {k : Blk} : unrB ks M k = .no ↔ k = .no := by
  cases k with
  | rows own pl e n row => cases pl <;> simp [unrB]
  | grow pl e n row => cases pl <;> simp [unrB]
  | view pl e n row => cases pl <;> simp [unrB]
  | _ => simp [unrB]
theorem unrB_grow {ks : List Nat} {M : Nat} {k : Blk} (h : isGrow (some k)) : isGrow (some (unrB ks M k)) := by
  cases k with
  | grow pl e n row => cases pl <;> trivial
  | _ => exact h.elim
theorem RL_map_ren {r : Ren} {ks : List Nat} {l l' : List Value} (h : RL (R r) l l') : RL (R (r.via ks)) (mapL (renV ks) l) l' := RL_mapL (f := renV ks) (fun _ _ h => R_via h) h

/-- What is told of a call that is handed some blocks alone is told of it among others. -/
theorem MemSem.frame {P : Program} {f : FuncId} {args : List Value} {m ms : Mem} {v : Value} (ks : List Nat) (hd : noDup ks = true) (ha : allLt m.length ks = true) (hl : ks.length ≤ ms.length) (hnv : allB noViewB m = true)
    (h : MemSem P f (mapL (renV ks) args) (renM ks m ks) v ms) : MemSem P f args m (unrV ks m.length v) (framed ks m ms) := by
  refine ⟨h.1, fun w0 keep r args' w hargs hm => ?_⟩
  let oth : Nat → Prop := fun j => ∃ b p, b ∉ ks ∧ r b = some (some p) ∧ p.blk = j
  let kp : Keep := ⟨fun j => keep j ∨ oth j, keep.rd, fun j hj => Or.inl (keep.sub j hj)⟩
  have hv : ∀ {i : Nat} {q : Option Place}, (r.via ks) i = some q → ∃ b, ks[i]? = some b ∧ r b = some q := fun {i q} hq => by
    unfold Ren.via at hq
    split at hq
    · rename_i b hb; exact ⟨b, hb, hq⟩
    · cases hq
  have noV : ∀ {b : Nat} {p : Place}, r b = some (some p) → p.own = false → p.room = 0 := fun {b p} hb ho => by
    by_cases hz : p.room = 0
    · exact hz
    · exfalso
      obtain ⟨k, h1, h2⟩ := hm.blk b p hb
      have := h2.isView ho hz
      rw [allB_iff.1 hnv k (List.mem_of_getElem? h1)] at this
      cases this
  have hsm : MemRel w kp (r.via ks) (renM ks m ks) w := by
    have h0 := MemRel_via hm hd
    refine ⟨rfl, rfl, rfl, Nat.le_refl _, Nat.le_refl _, fun j hj => ?_, fun j _ => rfl, h0.none, h0.dead, h0.blk, fun i p hi ho hk => ?_, h0.read, fun i p hi ho hz => ?_, h0.sep, h0.inj⟩
    · rcases hj with hj | ⟨b, p, _, hb, rfl⟩
      · have := hm.klt j hj; have := hm.size; omega
      · obtain ⟨k, _, hk⟩ := hm.blk b p hb
        exact hk.lt
    · rcases hk with hk | ⟨c, q, hc, hq, he⟩
      · exact h0.own i p hi ho hk
      · obtain ⟨b, hb, hr⟩ := hv hi
        cases hqo : q.own with
        | true =>
          have := hm.inj b c p q hr hq ho hqo he.symm
          subst this
          exact hc (List.mem_of_getElem? hb)
        | false =>
          have k1 := hm.read c q hq hqo (noV hq hqo)
          rw [he] at k1
          exact hm.own b p hr ho (keep.sub _ k1)
    · obtain ⟨b, hb, hr⟩ := hv hi
      exact absurd (noV hr ho) hz
  refine (h.2 w kp (r.via ks) args' w (RL_map_ren hargs) hsm).mono ?_
  rintro e w' ⟨v', rs, rfl, g1, g2, g3⟩
  have hM : ∀ {b : Nat}, m.length ≤ b → r b = none := fun {b} hb => hm.none b (Or.inl (List.getElem?_eq_none hb))
  have hext : Ext r (r.back rs ks m.length) := by
    intro b
    unfold Ren.back
    by_cases hb : b ∈ ks
    · obtain ⟨i, hi⟩ := List.getElem?_of_mem hb
      have e1 : (r.via ks) i = r b := by simp [Ren.via, hi]
      simp only [idxN_of hd hi]
      have := g3 i
      rw [e1] at this
      exact this
    · simp only [idxN_not hb]
      split
      · exact Or.inr (Or.inl rfl)
      · exact Or.inl (hM (by omega))
  refine ⟨v', r.back rs ks m.length, rfl, R_back hd ha g1, ?_, hext⟩
  -- the memory
  have hget : ∀ b : Nat, (framed ks m ms)[b]? = match idxN b ks 0 with
      | some i => (ms[i]?).map (unrB ks m.length)
      | none => if b < m.length then m[b]? else (ms[ks.length + (b - m.length)]?).map (unrB ks m.length) := by
    intro b
    unfold framed
    by_cases hb : b ∈ ks
    · obtain ⟨i, hi⟩ := List.getElem?_of_mem hb
      have hlt := allLt_iff ha hi
      simp only [idxN_of hd hi]
      rw [List.getElem?_append_left (by rw [setK_length]; exact hlt)]
      exact setK_at ks ms m i hd ha hl hi
    · simp only [idxN_not hb]
      split
      · rename_i hlt
        rw [List.getElem?_append_left (by rw [setK_length]; exact hlt)]
        exact setK_not ks ms m hb
      · rename_i hlt
        rw [List.getElem?_append_right (by rw [setK_length]; omega), setK_length, mapB_get, List.getElem?_drop]
  have cases3 : ∀ {b : Nat} {q : Option Place}, (r.back rs ks m.length) b = some q → (∃ i, rs i = some q ∧ (framed ks m ms)[b]? = (ms[i]?).map (unrB ks m.length) ∧ unr ks m.length i = b) ∨ (b ∉ ks ∧ r b = some q ∧ (framed ks m ms)[b]? = m[b]? ∧ b < m.length) := by
    intro b q hq
    have hg := hget b
    unfold Ren.back at hq
    by_cases hb : b ∈ ks
    · obtain ⟨i, hi⟩ := List.getElem?_of_mem hb
      simp only [idxN_of hd hi] at hq hg
      exact Or.inl ⟨i, hq, hg, by simp [unr, hi]⟩
    · simp only [idxN_not hb] at hq hg
      split at hq
      · rename_i hlt
        rw [if_pos hlt] at hg
        exact Or.inr ⟨hb, hq, hg, hlt⟩
      · rename_i hlt
        rw [if_neg hlt] at hg
        refine Or.inl ⟨_, hq, hg, ?_⟩
        unfold unr
        rw [List.getElem?_eq_none (by omega)]
        simp only
        omega
  have hothk : ∀ {b : Nat} {p : Place}, b ∉ ks → r b = some (some p) → kp p.blk := fun {b p} hb hp => Or.inr ⟨b, p, hb, hp, rfl⟩
  refine ⟨g2.os.trans hm.os, g2.tape.trans hm.tape, g2.output.trans hm.output, Nat.le_trans hm.drawn g2.drawn, Nat.le_trans hm.size g2.size, hm.klt, fun j hj => ?_, fun b hb => ?_, fun b hb => ?_, fun b p hb => ?_, fun b p hb ho => ?_, fun b p hb ho hz => ?_, fun b p hb ho hz => ?_, fun b c p q hb hc hp hz hq he => ?_, fun b c p q hb hc hp hq he => ?_⟩
  · rw [g2.kept j (Or.inl hj)]; exact hm.kept j hj
  · rw [hget b] at hb
    unfold Ren.back
    by_cases hbk : b ∈ ks
    · obtain ⟨i, hi⟩ := List.getElem?_of_mem hbk
      simp only [idxN_of hd hi] at hb ⊢
      refine g2.none i ?_
      cases hmi : ms[i]? with
      | none => exact Or.inl rfl
      | some k =>
        rw [hmi] at hb
        simp only [Option.map_some] at hb
        rcases hb with hb | hb
        · cases hb
        · simp only [Option.some.injEq] at hb
          exact Or.inr (by rw [unrB_no.1 hb])
    · simp only [idxN_not hbk] at hb ⊢
      split
      · rename_i hlt
        rw [if_pos hlt] at hb
        exact hm.none b hb
      · rename_i hlt
        rw [if_neg hlt] at hb
        refine g2.none _ ?_
        cases hmi : ms[ks.length + (b - m.length)]? with
        | none => exact Or.inl rfl
        | some k =>
          rw [hmi] at hb
          simp only [Option.map_some] at hb
          rcases hb with hb | hb
          · cases hb
          · simp only [Option.some.injEq] at hb
            exact Or.inr (by rw [unrB_no.1 hb])
  · rcases cases3 hb with ⟨i, h1, h2, _⟩ | ⟨h1, h2, h3, _⟩
    · rw [h2, g2.dead i h1]; rfl
    · rw [h3]; exact hm.dead b h2
  · rcases cases3 hb with ⟨i, h1, h2, _⟩ | ⟨h1, h2, h3, _⟩
    · obtain ⟨k, h4, h5⟩ := g2.blk i p h1
      exact ⟨unrB ks m.length k, by rw [h2, h4]; rfl, BlkRel_back hd ha h5⟩
    · obtain ⟨k, h4, h5⟩ := hm.blk b p h2
      exact ⟨k, by rw [h3]; exact h4, h5.mono (g2.kept _ (hothk h1 h2)) hext⟩
  · rcases cases3 hb with ⟨i, h1, h2, _⟩ | ⟨h1, h2, h3, _⟩
    · exact fun hk => g2.own i p h1 ho (Or.inl hk)
    · exact hm.own b p h2 ho
  · rcases cases3 hb with ⟨i, h1, h2, _⟩ | ⟨h1, h2, h3, _⟩
    · exact g2.read i p h1 ho hz
    · exact hm.read b p h2 ho hz
  · rcases cases3 hb with ⟨i, h1, h2, _⟩ | ⟨h1, h2, h3, _⟩
    · exact fun hk => g2.vw i p h1 ho hz (Or.inl hk)
    · exact hm.vw b p h2 ho hz
  · rcases cases3 hb with ⟨i, h1, h2, _⟩ | ⟨h1, h2, h3, _⟩
    · rcases cases3 hc with ⟨j, k1, k2, k3⟩ | ⟨k1, k2, k3, _⟩
      · obtain ⟨s1, s2⟩ := g2.sep i j p q h1 k1 hp hz hq he
        rw [k2]
        cases hmj : ms[j]? with
        | none => rw [hmj] at s1; exact s1.elim
        | some k => rw [hmj] at s1; exact ⟨unrB_grow s1, s2⟩
      · exfalso
        refine g2.vw i p h1 hp hz ?_
        rw [← he]; exact hothk k1 k2
    · exact absurd (noV h2 hp) hz
  · rcases cases3 hb with ⟨i, h1, h2, h3⟩ | ⟨h1, h2, h3, _⟩
    · rcases cases3 hc with ⟨j, k1, k2, k3⟩ | ⟨k1, k2, k3, _⟩
      · have := g2.inj i j p q h1 k1 hp hq he
        subst this
        rw [← h3, ← k3]
      · exfalso
        refine g2.own i p h1 hp ?_
        rw [he]; exact hothk k1 k2
    · rcases cases3 hc with ⟨j, k1, k2, k3⟩ | ⟨k1, k2, k3, _⟩
      · exfalso
        refine g2.own j q k1 hq ?_
        rw [← he]; exact hothk h1 h2
      · exact hm.inj b c p q h2 k2 hp hq he
def dedupN : List Nat → List Nat → List Nat
  | [], _ => []
  | k :: l, seen => match hasN k seen with
    | true => dedupN l seen
    | false => k :: dedupN l (k :: seen)
def idsIn : List Value → List Nat
  | [] => []
  | v :: l => match adrOf v with
    | some b => b :: idsIn l
    | none => idsIn l
def catN : List Nat → List Nat → List Nat
  | [], l => l
  | k :: ks, l => k :: catN ks l
def cellIds (m : Mem) : List Nat → List Nat
  | [] => []
  | k :: l => match m[k]? with
    | some (.cells _ _ c) => catN (idsIn c) (cellIds m l)
    | _ => cellIds m l
def ksOf (args : List Value) (m : Mem) : List Nat := dedupN (catN (idsIn args) (cellIds m (idsIn args))) []
/-- What is told of a call where nothing is looked at any more as it was. -/
theorem MemSem.unview {P : Program} {f : FuncId} {args : List Value} {m m' : Mem} {v : Value} (h : MemSem P f args (killV m) v m') : MemSem P f args m v m' :=
  ⟨h.1, fun w0 keep r args' w ha hm => (h.2 w0 keep r.noV args' w (RL.mono (fun _ _ => R.ext r.noV_ext) ha) hm.unview).mono fun _ _ ⟨v', r', he, h1, h2, h3⟩ => ⟨v', r', he, h1, h2, r.noV_ext.trans h3⟩⟩
theorem MemSem.fresh {P : Program} {f : FuncId} {args : List Value} {m m' : Mem} {v : Value} (h : MemSem P f args (thaw (killV m)) v m') : MemSem P f args m v m' :=
  MemSem.unview ⟨h.1, fun w0 keep r args' w ha hm => h.2 w0 keep r args' w ha (hm.thawed (killV_none m))⟩
/-- What is told of a function that is handed some blocks alone, told of it among others. -/
def frameG (S : List Value → Mem → Option (Ans (Value × Mem))) (args : List Value) (m : Mem) : Option (Ans (Value × Mem)) :=
  forceN (ksOf args m) fun ks => match noDup ks && (allLt m.length ks && allB noViewB m) with
    | true => forceL (mapL (renV ks) args) fun ags => forceM (renM ks m ks) fun ms => match S ags ms with
      | some ans => some (ans.bind fun vm => match Nat.ble ks.length vm.2.length with
        | true => .out (unrV ks m.length vm.1, framed ks m vm.2)
        | false => .fail)
      | none => none
    | false => none
def frameF (S : List Value → Mem → Option (Ans (Value × Mem))) (args : List Value) (m : Mem) : Option (Ans (Value × Mem)) := forceM (thaw (killV m)) fun m => frameG S args m
theorem frameG_ok {P : Program} {f : FuncId} {S : List Value → Mem → Option (Ans (Value × Mem))} (h : ∀ args m ans v m', S args m = some ans → ans.res = some (v, m') → MemSem P f args m v m') {args : List Value} {m m' : Mem} {ans : Ans (Value × Mem)} {v : Value}
    (ha : frameG S args m = some ans) (hr : ans.res = some (v, m')) : MemSem P f args m v m' := by
  unfold frameG at ha
  rw [forceN_eq] at ha
  split at ha
  · rename_i hb
    rw [Bool.and_eq_true, Bool.and_eq_true] at hb
    rw [forceL_eq, forceM_eq] at ha
    split at ha
    · rename_i a2 hS
      simp only [Option.some.injEq] at ha
      subst ha
      obtain ⟨⟨u, mu⟩, h1, h2⟩ := Ans.bind_some hr
      simp only at h2
      split at h2
      · rename_i hle
        simp only [Ans.res, Option.some.injEq, Prod.mk.injEq] at h2
        obtain ⟨rfl, rfl⟩ := h2
        exact MemSem.frame _ hb.1 hb.2.1 (Nat.le_of_ble_eq_true hle) hb.2.2 (h _ _ _ _ _ hS h1)
      · simp [Ans.res] at h2
    · cases ha
  · cases ha
theorem frameF_ok {P : Program} {f : FuncId} {S : List Value → Mem → Option (Ans (Value × Mem))} (h : ∀ args m ans v m', S args m = some ans → ans.res = some (v, m') → MemSem P f args m v m') {args : List Value} {m m' : Mem} {ans : Ans (Value × Mem)} {v : Value}
    (ha : frameF S args m = some ans) (hr : ans.res = some (v, m')) : MemSem P f args m v m' := by
  unfold frameF at ha
  rw [forceM_eq] at ha
  exact (frameG_ok h ha hr).fresh
def Cx.addF (C : Cx) (f : FuncId) (S : List Value → Mem → Option (Ans (Value × Mem))) : Cx := C.addM f (frameF S)
theorem Cx.addF_ok {C : Cx} (hC : CxOk C) {f : FuncId} {S : List Value → Mem → Option (Ans (Value × Mem))} (h : ∀ args m ans v m', S args m = some ans → ans.res = some (v, m') → MemSem C.P f args m v m') : CxOk (C.addF f S) :=
  Cx.addM_ok hC fun _ _ _ _ _ ha hr => frameF_ok h ha hr
/-- A call that the executor runs. -/
theorem exFunA_ok {C : Cx} (hC : CxOk C) {n : Nat} {f : FuncId} {fn : Func} {args : List Value} {m m' : Mem} {v : Value} (hf : C.P.funcs[f]? = some fn) (hok : okFunc C.P f = true) (h : (exFunA (C.at f) n fn args m).res = some (v, m')) : MemSem C.P f args m v m' :=
  exFunA_sem (C := C.at f) (hC.at f) hf (okFunc_name hok hf) (Or.inl rfl) h

def valL : Value → List Value
  | .tuple vs => vs.toList
  | v => [v]
/-- Blocks that were there keep their numbers; of those that were made the named ones are told. -/
def tidyA (B : Nat) (sp : List From) (vm : Value × Mem) : Ans (Value × Mem) :=
  forceN (keysOf ⟨valL vm.1, vm.2⟩ sp) fun ks => match noDup ks && idsTo B 0 ks with
    | true => forceV (renV ks vm.1) fun v => forceM (thaw (renM ks (killV vm.2) ks)) fun m => match allB noViewB (renM ks (killV vm.2) ks) with
      | true => .out (v, m)
      | false => .fail
    | false => .fail
theorem MemSem.tidy {P : Program} {f : FuncId} {args : List Value} {m m' m2 : Mem} {v v2 : Value} (h : MemSem P f args m v m') {sp : List From} (ht : (tidyA m.length sp (v, m')).res = some (v2, m2)) : MemSem P f args m v2 m2 := by
  refine ⟨h.1, fun w0 keep r args' w ha hm => (h.2 w0 keep r args' w ha hm).mono ?_⟩
  rintro e w' ⟨v', r', rfl, g1, g2, g3⟩
  unfold tidyA at ht
  rw [forceN_eq] at ht
  split at ht
  · rename_i hb
    rw [Bool.and_eq_true] at hb
    rw [forceV_eq, forceM_eq] at ht
    split at ht
    · rename_i hv
      simp only [Ans.res, Option.some.injEq, Prod.mk.injEq] at ht
      obtain ⟨rfl, rfl⟩ := ht
      have hx : Ext r r'.noV := g3.trans r'.noV_ext
      refine ⟨v', r'.noV.via (keysOf ⟨valL v, m'⟩ sp), rfl, R_via (R.ext r'.noV_ext g1), (MemRel_via g2.unview hb.1).thawed hv, fun b => ?_⟩
      by_cases hlt : b < m.length
      · have := idsTo_spec hb.2 (Nat.zero_le b) hlt
        simp only [Nat.sub_zero] at this
        have e1 : (r'.noV.via (keysOf ⟨valL v, m'⟩ sp)) b = r'.noV b := by simp [Ren.via, this]
        rw [e1]
        exact hx b
      · exact Or.inl (hm.none b (Or.inl (List.getElem?_eq_none (by omega))))
    · simp [Ans.res] at ht
  · simp [Ans.res] at ht
def exT (C : Cx) (n : Nat) (fn : Func) (args : List Value) (m : Mem) (sp : List From) : Option (Value × Mem) := ((exFunA C n fn args m).bind (tidyA m.length sp)).res
theorem exT_ok {C : Cx} (hC : CxOk C) {n : Nat} {f : FuncId} {fn : Func} {args : List Value} {m m' : Mem} {v : Value} {sp : List From} (hf : C.P.funcs[f]? = some fn) (hok : okFunc C.P f = true) (h : exT (C.at f) n fn args m sp = some (v, m')) : MemSem C.P f args m v m' := by
  unfold exT at h
  obtain ⟨⟨u, mu⟩, h1, h2⟩ := Ans.bind_some h
  exact (exFunA_sem (C := C.at f) (hC.at f) hf (okFunc_name hok hf) (Or.inl rfl) h1).tidy h2

def rowsLike (n : Nat) (f g : Nat → List Value) : Prop := ∀ i, i < n → f i = g i
/-- Blocks that tell the same. -/
inductive Like : Blk → Blk → Prop
  | refl (b : Blk) : Like b b
  | rows {own pl : Bool} {e n : Nat} {f g : Nat → List Value} (h : rowsLike n f g) : Like (.rows own pl e n f) (.rows own pl e n g)
  | grow {pl : Bool} {e n : Nat} {f g : Nat → List Value} (h : rowsLike n f g) : Like (.grow pl e n f) (.grow pl e n g)
theorem BlkRel.like {w : World} {r : Ren} {p : Place} {k k' : Blk} (h : BlkRel w r p k) (hl : Like k k') : BlkRel w r p k' := by
  cases hl with
  | refl => exact h
  | rows hf =>
    obtain ⟨h1, h2, h0, hp, cs, T, fz, h6, h3, h4, h5⟩ := h
    exact ⟨h1, h2, h0, fun hpl i hi => by rw [← hf i hi]; exact hp hpl i hi, cs, T, fz, h6, h3, h4, fun i hi => by rw [← hf i hi]; exact h5 i hi⟩
  | grow hf =>
    obtain ⟨h1, h2, h0, hp, cs, T, fz, h3, h4, h5⟩ := h
    exact ⟨h1, h2, h0, fun hpl i hi => by rw [← hf i hi]; exact hp hpl i hi, cs, T, fz, h3, h4, fun i hi => by rw [← hf i hi]; exact h5 i hi⟩
theorem Like.no {k k' : Blk} (h : Like k k') : k' = .no ↔ k = .no := by cases h <;> simp
theorem Like.isGrow {k k' : Blk} (h : Like k k') (hg : isGrow (some k)) : isGrow (some k') := by
  cases h with
  | refl => exact hg
  | rows hf => exact hg
  | grow hf => trivial
theorem Like.gone {k k' : Blk} (h : Like k k') : k' = .gone ↔ k = .gone := by cases h <;> simp
def LikeL : Mem → Mem → Prop
  | [], [] => True
  | a :: l, b :: l' => Like a b ∧ LikeL l l'
  | _, _ => False
theorem LikeL.get : ∀ {m m' : Mem}, LikeL m m' → ∀ (i : Nat), (m[i]? = none ∧ m'[i]? = none) ∨ ∃ k k', m[i]? = some k ∧ m'[i]? = some k' ∧ Like k k'
  | [], [], _, i => Or.inl ⟨by simp, by simp⟩
  | a :: l, b :: l', h, 0 => Or.inr ⟨a, b, rfl, rfl, h.1⟩
  | a :: l, b :: l', h, i + 1 => by simp only [List.getElem?_cons_succ]; exact LikeL.get h.2 i
  | [], _ :: _, h, _ => h.elim
  | _ :: _, [], h, _ => h.elim
theorem MemRel.like {w0 w : World} {keep : Keep} {r : Ren} {m m' : Mem} (h : MemRel w0 keep r m w) (hl : LikeL m m') : MemRel w0 keep r m' w := by
  refine ⟨h.os, h.tape, h.output, h.drawn, h.size, h.klt, h.kept, fun b hb => ?_, fun b hb => ?_, fun b p hb => ?_, h.own, h.read, h.vw, fun b c p q hb hc hp hz hq he => ?_, h.inj⟩
  · rcases hl.get b with ⟨h1, h2⟩ | ⟨k, k', h1, h2, h3⟩
    · exact h.none b (Or.inl h1)
    · rw [h2] at hb
      rcases hb with hb | hb
      · cases hb
      · simp only [Option.some.injEq] at hb
        exact h.none b (Or.inr (by rw [h1, h3.no.1 hb]))
  · rcases hl.get b with ⟨h1, h2⟩ | ⟨k, k', h1, h2, h3⟩
    · have := h.dead b hb; rw [h1] at this; cases this
    · have := h.dead b hb
      rw [h1] at this
      simp only [Option.some.injEq] at this
      rw [h2, h3.gone.2 this]
  · obtain ⟨k0, g1, g2⟩ := h.blk b p hb
    rcases hl.get b with ⟨h1, h2⟩ | ⟨k, k', h1, h2, h3⟩
    · rw [h1] at g1; cases g1
    · rw [h1] at g1
      simp only [Option.some.injEq] at g1
      subst g1
      exact ⟨k', h2, g2.like h3⟩
  · obtain ⟨g1, g2⟩ := h.sep b c p q hb hc hp hz hq he
    rcases hl.get c with ⟨h1, h2⟩ | ⟨k, k', h1, h2, h3⟩
    · rw [h1] at g1; exact g1.elim
    · rw [h1] at g1
      rw [h2]
      exact ⟨h3.isGrow g1, g2⟩
theorem MemSem.like {P : Program} {f : FuncId} {args : List Value} {m m2 m' : Mem} {v : Value} (h : MemSem P f args m2 v m') (hl : LikeL m m2) : MemSem P f args m v m' :=
  ⟨h.1, fun w0 keep r args' w ha hm => h.2 w0 keep r args' w ha (hm.like hl)⟩
/-- States that tell the same. -/
def StLike (s s' : St) : Prop := s.tmps = s'.tmps ∧ LikeL s.mem s'.mem
theorem LikeL.refl : ∀ (m : Mem), LikeL m m
  | [] => trivial
  | b :: m => ⟨.refl b, LikeL.refl m⟩
theorem StLike.refl (s : St) : StLike s s := ⟨rfl, LikeL.refl s.mem⟩
theorem Rel.like {w0 : World} {keep : Keep} {r0 : Ren} {s s' : St} {a : Act} {w : World} (h : Rel w0 keep r0 s a w) (hl : StLike s s') : Rel w0 keep r0 s' a w := by
  obtain ⟨r, hx, h1, h2, h3⟩ := h
  exact ⟨r, hx, h1, by rw [← hl.1]; exact h2, h3.like hl.2⟩
/-- A loop is told by its rounds, each up to what states tell. -/
theorem loop_rule2 {C : Cx} (hC : CxOk C) {f : FuncId} {B : Nat} {x : Code} (hin : InBody (C.into f B) x) (n : Nat) (mask mout : List Nat) (sp so : List From) {σ : Type} (H : σ → St) (μ : σ → Nat) (Inv : σ → Prop) (out : σ → Exit × St)
    (hstep : ∀ g, Inv g → (∃ g' st, roundR (C.into f B) n x mask mout sp so (H g) = some (.normal, st) ∧ StLike st (H g') ∧ Inv g' ∧ μ g' < μ g ∧ out g' = out g) ∨ (∃ st, roundR (C.into f B) n x mask mout sp so (H g) = some ((out g).1, st) ∧ StLike st (out g).2 ∧ (out g).1 ≠ .normal)) :
    ∀ g, Inv g → LoopSem C.P B x (H g) (out g).1 (out g).2 := by
  have leave : ∀ g st, roundR (C.into f B) n x mask mout sp so (H g) = some ((out g).1, st) → StLike st (out g).2 → (out g).1 ≠ .normal → LoopSem C.P B x (H g) (out g).1 (out g).2 := by
    intro g st h1 hl h2 Q w0 keep r0 a w hB hQ hr
    obtain ⟨⟨e1, s1⟩, h3, h4⟩ := Ans.bind_some h1
    refine LoopsTo.round ((exCode_sound hC n).1 f B x hin _ _ _ h3 _ w0 keep r0 a w hB ?_ hr)
    intro a' w' hr'
    obtain ⟨he, hs⟩ := clean_rel h4 hB hr'
    subst he
    have hs := hs.like hl
    revert h2 hQ hs
    cases (out g).1 <;> intro h2 hQ hs <;> first | exact absurd rfl h2 | exact hQ a' w' hs
  have key : ∀ k g, μ g ≤ k → Inv g → LoopSem C.P B x (H g) (out g).1 (out g).2 := by
    intro k
    induction k with
    | zero =>
      intro g hk hg
      rcases hstep g hg with ⟨g', st, _, _, _, hlt, _⟩ | ⟨st, h1, hl, h2⟩
      · omega
      · exact leave g st h1 hl h2
    | succ k ih =>
      intro g hk hg
      rcases hstep g hg with ⟨g', st, h1, hl, hg', hlt, ho⟩ | ⟨st, h1, hl, h2⟩
      · intro Q w0 keep r0 a w hB hQ hr
        obtain ⟨⟨e1, s1⟩, h3, h4⟩ := Ans.bind_some h1
        refine LoopsTo.round ((exCode_sound hC n).1 f B x hin _ _ _ h3 _ w0 keep r0 a w hB ?_ hr)
        intro a' w' hr'
        obtain ⟨he, hs⟩ := clean_rel h4 hB hr'
        subst he
        refine ih g' (by omega) hg' Q w0 keep r0 a' w' hB ?_ (hs.like hl)
        rw [ho]; exact hQ
      · exact leave g st h1 hl h2
  exact fun g hg => key (μ g) g (Nat.le_refl _) hg
theorem MemSem.likes {P : Program} {f : FuncId} {args : List Value} {m m' m2 : Mem} {v : Value} (h : MemSem P f args m v m') (hl : LikeL m' m2) : MemSem P f args m v m2 :=
  ⟨h.1, fun w0 keep r args' w ha hm => (h.2 w0 keep r args' w ha hm).mono fun _ _ ⟨v', r', he, h1, h2, h3⟩ => ⟨v', r', he, h1, h2.like hl, h3⟩⟩
theorem LoopSem.unview {P : Program} {B : Nat} {x : Code} {tm : List Value} {m : Mem} {s : St} {e : Exit} (h : LoopSem P B x ⟨tm, killV m⟩ e s) : LoopSem P B x ⟨tm, m⟩ e s := by
  intro Q w0 keep r0 a w hB hQ hr
  refine h Q w0 keep r0 a w hB hQ ?_
  obtain ⟨r, hx, h1, h2, h3⟩ := hr
  exact ⟨r.noV, hx.trans r.noV_ext, h1, RL.mono (fun _ _ => R.ext r.noV_ext) h2, h3.unview⟩
theorem LoopSem.likes {P : Program} {B : Nat} {x : Code} {st s s2 : St} {e : Exit} (h : LoopSem P B x st e s) (hl : StLike s s2) : LoopSem P B x st e s2 :=
  fun Q w0 keep r0 a w hB hQ hr => h Q w0 keep r0 a w hB (fun a w hs => hQ a w (hs.like hl)) hr
/-- Nothing is told any more of the memory behind a call. -/
def goneAll (n : Nat) : Mem := List.replicate n .gone
theorem MemSem.forget {P : Program} {f : FuncId} {args : List Value} {m m' : Mem} {v : Value} (h : MemSem P f args m v m') (hv : Vx.plain v = true) : MemSem P f args m v (goneAll m.length) := by
  refine ⟨h.1, fun w0 keep r args' w ha hm => (h.2 w0 keep r args' w ha hm).mono ?_⟩
  rintro e w' ⟨v', r', rfl, g1, g2, g3⟩
  refine ⟨v', fun b => if b < m.length then (match r' b with
    | none => none
    | some _ => some none) else none, rfl, (R_plain hv).2 ((R_plain hv).1 g1), ?_, fun b => ?_⟩
  · refine ⟨g2.os, g2.tape, g2.output, g2.drawn, g2.size, g2.klt, g2.kept, fun b hb => ?_, fun b hb => ?_, fun b p hb => ?_, fun b p hb => ?_, fun b p hb => ?_, fun b p hb => ?_, fun b c p q hb => ?_, fun b c p q hb => ?_⟩
    · split
      · rename_i hlt
        simp [goneAll, hlt] at hb
      · rfl
    · split at hb
      · rename_i hlt; simp [goneAll, hlt]
      · cases hb
    all_goals
      split at hb
      · split at hb <;> simp at hb
      · cases hb
  · by_cases hlt : b < m.length
    · simp only [if_pos hlt]
      rcases g3 b with h1 | h1 | ⟨⟨p, h1⟩, h2⟩ | ⟨p, h1, h2⟩
      · exact Or.inl h1
      · cases hr : r b with
        | none => exact Or.inl rfl
        | some q => rw [h1, hr]; exact Or.inr (Or.inr (Or.inl ⟨⟨q, rfl⟩, rfl⟩))
      · rw [h2]; exact Or.inr (Or.inr (Or.inl ⟨⟨p, h1⟩, rfl⟩))
      · rw [h2]; exact Or.inr (Or.inr (Or.inl ⟨⟨_, h1⟩, rfl⟩))
    · exact Or.inl (hm.none b (Or.inl (List.getElem?_eq_none (by omega))))
theorem LoopSem.fresh {P : Program} {B : Nat} {x : Code} {tm : List Value} {m : Mem} {s : St} {e : Exit} (h : LoopSem P B x ⟨tm, thaw (killV m)⟩ e s) : LoopSem P B x ⟨tm, m⟩ e s := by
  refine LoopSem.unview ?_
  intro Q w0 keep r0 a w hB hQ hr
  refine h Q w0 keep r0 a w hB hQ ?_
  obtain ⟨r, hx, h1, h2, h3⟩ := hr
  exact ⟨r, hx, h1, h2, h3.thawed (killV_none m)⟩
end Go.Proofs.Ytneaibkfglfpaaa.Vx


namespace Go.Proofs.Ytneaibkfglfpaaa.Vx
open Go

def part1 (x : Int) : Bool := decide (0 ≤ x) && decide (x ≤ 23)
def V3.part (v : V3) : Bool := part1 v.x && (part1 v.y && part1 v.z)
theorem V3.part_iff {v : V3} : v.part = true ↔ (0 ≤ v.x ∧ v.x ≤ 23) ∧ (0 ≤ v.y ∧ v.y ≤ 23) ∧ (0 ≤ v.z ∧ v.z ≤ 23) := by
  simp [V3.part, part1]
theorem V3.md_part (v : V3) : (v.md 24).part = true := by rw [V3.part_iff]; unfold V3.md; simp only; omega
theorem V3.part_md {v : V3} (h : v.part = true) : v.md 24 = v := by
  rw [V3.part_iff] at h
  apply V3.ext'; unfold V3.md; simp only; omega
theorem V3.part_ok {v : V3} (h : v.part = true) : v.ok = true := by
  rw [V3.part_iff] at h; rw [V3.ok_iff]; unfold V3.Bd; omega
/-- What keeps a map from being in form. -/
def O3.ck (o : O3) : Int := bif o.t.part then o.r.form else 3
theorem O3.ck_zero {o : O3} : o.ck = 0 ↔ o.t.part = true ∧ o.r.ok = true ∧ o.r.U := by
  unfold O3.ck
  cases h : o.t.part with
  | true => simp only [cond_true, true_and]; exact M3.form_zero
  | false => simp
theorem O3.ck_cases (o : O3) : o.ck = 0 ∨ o.ck = 3 ∨ o.ck = 4 := by
  unfold O3.ck M3.form
  cases o.t.part <;> cases o.r.ok <;> cases unitB o.r.det <;> simp
def leastI (a b : Int) : Int := bif (a == 0 || b == 0) then (if b > a then b else a) else (if b < a then b else a)
def O3.one : O3 := ⟨M3.one, V3.zero⟩
def O3.mul (a b : O3) : O3 := ⟨a.r.mul b.r, ((a.r.app b.t).add a.t).md 24⟩
def O3.inv (o : O3) : O3 := ⟨o.r.inv, ((o.r.inv.app o.t).neg).md 24⟩
/-- A map, if its entries lie within bounds. -/
def O3.small (o : O3) : O3 := bif o.r.ok then o else O3.zero
def O3.smallE (o : O3) : Int := bif o.r.ok then 0 else 4
def pOE (o : O3) (e : Int) : Value := p2 o.v (vI e)
def O3.mulF (a b : O3) : O3 := bif leastI a.ck b.ck == 0 then (a.mul b).small else O3.zero
def O3.mulE (a b : O3) : Int := bif leastI a.ck b.ck == 0 then (a.mul b).smallE else leastI a.ck b.ck
def O3.invF (a : O3) : O3 := bif a.ck == 0 then a.inv.small else O3.zero
def O3.invE (a : O3) : Int := bif a.ck == 0 then a.inv.smallE else a.ck
theorem leastI_zero {a b : O3} : leastI a.ck b.ck = 0 ↔ a.ck = 0 ∧ b.ck = 0 := by
  rcases O3.ck_cases a with h | h | h <;> rcases O3.ck_cases b with k | k | k <;> rw [h, k] <;> decide

theorem bif_beq {a : Int} (h : a ≠ 0) : (a == 0) = false ∧ (a != 0) = true := by constructor <;> simpa using h

def tOCheck (o : O3) : Option Value := chainO mk1 [(decide (o.t.x < 0), [3]), (decide (o.t.x ≥ 24), [3]), (decide (o.t.y < 0), [3]), (decide (o.t.y ≥ 24), [3]), (decide (o.t.z < 0), [3]), (decide (o.t.z ≥ 24), [3])] [o.r.form]
def fOCheck (o : O3) : Value := vI o.ck
theorem part1_eq (x : Int) : part1 x = (!(decide (x < 0)) && !(decide (x ≥ 24))) := by
  unfold part1
  rw [Bool.eq_iff_iff]
  simp only [Bool.and_eq_true, decide_eq_true_eq, Bool.not_eq_true', decide_eq_false_iff_not]
  omega
theorem tOCheck_eq (o : O3) : tOCheck o = some (fOCheck o) := by
  unfold tOCheck fOCheck O3.ck V3.part
  rw [chain_eq, part1_eq, part1_eq, part1_eq]
  cases decide (o.t.x < 0) <;> cases decide (o.t.x ≥ 24) <;> cases decide (o.t.y < 0) <;> cases decide (o.t.y ≥ 24) <;> cases decide (o.t.z < 0) <;> cases decide (o.t.z ≥ 24) <;> rfl
def tCheckM (m : M3) : Option Value :=
  match m.ck != 0 with
  | true => some (vI m.ck)
  | false => match (bif m.ok then m.det else 0) != 1 with
    | true => match (bif m.ok then m.det else 0) != -1 with
      | true => some (vI 3)
      | false => some (vI 0)
    | false => some (vI 0)
def fCheckM (m : M3) : Value := vI m.form
theorem tCheckM_eq (m : M3) : tCheckM m = some (fCheckM m) := by
  unfold tCheckM fCheckM M3.form M3.ck
  cases m.ok
  · rfl
  · simp only [cond_true, bne_self_eq_false]
    by_cases h1 : m.det = 1
    · rw [h1]; rfl
    · by_cases h2 : m.det = -1
      · rw [h2]; rfl
      · have e1 : (m.det != 1) = true := by simpa using h1
        have e2 : (m.det != -1) = true := by simpa using h2
        have e3 : unitB m.det = false := by simp [unitB, h1, h2]
        rw [e1, e2, e3]; rfl
def O3.send (o : O3) (t : V3) : V3 := ((o.r.appF t).add o.t).md 24
def tSend (o : O3) (t : V3) : Option Value := some (fAdd (o.r.appF t) o.t)
def fSend (o : O3) (t : V3) : Value := (o.send t).v
theorem tSend_eq (o : O3) (t : V3) : tSend o t = some (fSend o t) := rfl
def M3.w (m : M3) : M3 := ⟨W m.a, W m.b, W m.c, W m.d, W m.e, W m.f, W m.g, W m.h, W m.i⟩
def V3.w (m : V3) : V3 := ⟨W m.x, W m.y, W m.z⟩
theorem M3.w_eq {m : M3} (h : m.Bd 9000000000000000000) : m.w = m := by
  obtain ⟨h0, h1, h2, h3, h4, h5, h6, h7, h8⟩ := h
  unfold M3.w
  rw [W_in h0, W_in h1, W_in h2, W_in h3, W_in h4, W_in h5, W_in h6, W_in h7, W_in h8]
theorem V3.w_eq {m : V3} (h : m.Bd 9000000000000000000) : m.w = m := by
  obtain ⟨h0, h1, h2⟩ := h
  unfold V3.w
  rw [W_in h0, W_in h1, W_in h2]
theorem V3.add_zero (t : V3) : t.add V3.zero = t := by unfold V3.add V3.zero; simp
def tOne : Option Value := some O3.one.v
def fOne : Value := O3.one.v
theorem tOne_eq : tOne = some fOne := rfl
def tOMul (a b : O3) : Option Value :=
  match leastI a.ck b.ck != 0 with
  | true => some (pOE O3.zero (leastI a.ck b.ck))
  | false => match (a.r.mulF b.r).ck != 0 with
    | true => some (pOE O3.zero (a.r.mulF b.r).ck)
    | false => some (pOE ⟨a.r.mulF b.r, a.send b.t⟩ 0)
def fOMul (a b : O3) : Value := pOE (a.mulF b) (a.mulE b)
theorem O3.send_eq {o : O3} {t : V3} (h : o.r.ok = true) (ht : t.ok = true) : o.send t = ((o.r.app t).add o.t).md 24 := by
  unfold O3.send M3.appF; rw [h, ht]; rfl
theorem tOMul_eq (a b : O3) : tOMul a b = some (fOMul a b) := by
  unfold tOMul fOMul O3.mulF O3.mulE
  by_cases h : leastI a.ck b.ck = 0
  · obtain ⟨ha, hb⟩ := leastI_zero.1 h
    obtain ⟨a1, a2, a3⟩ := O3.ck_zero.1 ha
    obtain ⟨b1, b2, b3⟩ := O3.ck_zero.1 hb
    have e : a.r.mulF b.r = a.r.mul b.r := by unfold M3.mulF; rw [a2, b2]; rfl
    rw [h, e, O3.send_eq a2 (V3.part_ok b1)]
    unfold O3.small O3.smallE M3.ck
    simp only [O3.mul]
    cases (a.r.mul b.r).ok <;> rfl
  · rw [(bif_beq h).1, (bif_beq h).2]; rfl
def tOInverse (o : O3) : Option Value :=
  match o.ck != 0 with
  | true => some (pOE O3.zero o.ck)
  | false => match o.r.invF.ck != 0 with
    | true => some (pOE O3.zero o.r.invF.ck)
    | false => some (pOE ⟨o.r.invF, ((o.r.invF.appF o.t).neg).md 24⟩ 0)
def fOInverse (o : O3) : Value := pOE o.invF o.invE
theorem tOInverse_eq (o : O3) : tOInverse o = some (fOInverse o) := by
  unfold tOInverse fOInverse O3.invF O3.invE
  by_cases h : o.ck = 0
  · obtain ⟨a1, a2, a3⟩ := O3.ck_zero.1 h
    have e : o.r.invF = o.r.inv := by unfold M3.invF; rw [M3.form_zero.2 ⟨a2, a3⟩]; rfl
    rw [h, e]
    unfold O3.small O3.smallE M3.ck O3.inv M3.appF
    rw [V3.part_ok a1]
    cases o.r.inv.ok <;> rfl
  · rw [(bif_beq h).1, (bif_beq h).2]; rfl
/-- Apply. -/
def O3.app (o : O3) (p : P3) : P3 := ⟨p.m, ((o.r.app p.x).add (o.t.smul (p.m / 24))).md p.m⟩
def O3.appE (o : O3) (p : P3) : Int := bif p.form then o.ck else 3
def O3.appF (o : O3) (p : P3) : P3 := bif o.appE p == 0 then o.app p else P3.zero
def tOApplyEnd (o : O3) (p : P3) (e : Int) : Option Value :=
  match e != 0 with
  | true => some (p2 P3.zero.v (vI e))
  | false => some (fShift (P3.place p.m (o.r.appF p.x)) o.t)
def tOApply (o : O3) (p : P3) : Option Value :=
  match !p.form with
  | true => tOApplyEnd o p (leastI o.ck 3)
  | false => tOApplyEnd o p o.ck
def fOApply (o : O3) (p : P3) : Value := p2 (o.appF p).v (vI (o.appE p))
theorem md_add_md (m : Int) (u v : V3) : ((u.md m).add v).md m = (u.add v).md m := by
  unfold V3.md V3.add
  simp only [Int.emod_add_emod]
theorem md_md (m : Int) (u : V3) : (u.md m).md m = u.md m := by
  unfold V3.md; simp only [Int.emod_emod]
theorem P3.x_ok {p : P3} (h : p.form = true) : p.x.ok = true := by
  obtain ⟨hm, h1, h2, h3⟩ := P3.form_spec h
  rw [V3.ok_iff]; unfold V3.Bd; omega
theorem tOApply_eq (o : O3) (p : P3) : tOApply o p = some (fOApply o p) := by
  unfold tOApply fOApply O3.appF O3.appE tOApplyEnd
  cases hp : p.form with
  | false =>
    have e : leastI o.ck 3 = 3 := by rcases O3.ck_cases o with h | h | h <;> rw [h] <;> rfl
    simp only [Bool.not_false, e]
    rfl
  | true =>
    simp only [Bool.not_true, cond_true]
    by_cases h : o.ck = 0
    · obtain ⟨a1, a2, a3⟩ := O3.ck_zero.1 h
      obtain ⟨hm, h1, h2, h3⟩ := P3.form_spec hp
      have hF : isF p.m = true := isF_iff.2 hm
      have e1 : P3.place p.m (o.r.appF p.x) = ⟨p.m, (o.r.app p.x).md p.m⟩ := by
        unfold P3.place M3.appF; rw [hF, a2, P3.x_ok hp]; rfl
      have e2 : P3.form ⟨p.m, (o.r.app p.x).md p.m⟩ = true := by
        unfold P3.form
        simp only [hF, md_md, V3.eqB_refl, Bool.and_self]
      rw [h, e1]
      unfold fShift
      rw [e2]
      simp only [bne_self_eq_false, beq_self_eq_true, cond_true]
      unfold P3.shift O3.app
      rw [md_add_md]
    · rw [(bif_beq h).1, (bif_beq h).2]; rfl

def tRDet (m : M3) : Option Value := some (vI (W (W (W (0 + W (m.a * minR m.e m.i m.f m.h)) + W (m.b * minR m.f m.g m.d m.i)) + W (m.c * minR m.d m.h m.e m.g))))
def fRDet (m : M3) : Value := vI (W m.det)
theorem tRDet_eq (m : M3) : tRDet m = some (fRDet m) := by
  unfold tRDet fRDet
  rw [← detW_W, Int.zero_add, W_W]; rfl
def tWithinM (m : M3) : Option Value := guardF [decide (m.a < -1000), decide (m.a > 1000), decide (m.b < -1000), decide (m.b > 1000), decide (m.c < -1000), decide (m.c > 1000), decide (m.d < -1000), decide (m.d > 1000), decide (m.e < -1000), decide (m.e > 1000), decide (m.f < -1000), decide (m.f > 1000), decide (m.g < -1000), decide (m.g > 1000), decide (m.h < -1000), decide (m.h > 1000), decide (m.i < -1000), decide (m.i > 1000)] (some (.bool true))
def fWithinM (m : M3) : Value := .bool m.ok
theorem guardF_all : ∀ (ts : List Bool), guardF ts (some (.bool true)) = some (.bool (ts.all (!·)))
  | [] => rfl
  | true :: ts => rfl
  | false :: ts => by simp only [guardF, List.all_cons, Bool.not_false, Bool.true_and]; exact guardF_all ts
theorem tWithinM_eq (m : M3) : tWithinM m = some (fWithinM m) := by
  unfold tWithinM fWithinM
  rw [guardF_all]
  congr 2
  rw [Bool.eq_iff_iff, M3.ok_iff]
  unfold M3.Bd
  simp only [List.all_cons, List.all_nil, Bool.and_true, Bool.and_eq_true, Bool.not_eq_true', decide_eq_false_iff_not]
  omega
def fTimesM (m n : M3) : Value := (m.mul n).w.v
def tBring (v : V3) (m : Int) : Option Value := onO (modB m) (onO (modB m) (onO (modB m) (some (v.md m).v)))
theorem tBring_eq {v : V3} {m : Int} (h : modB m = true) : tBring v m = some (v.md m).v := by
  unfold tBring; simp only [onO_true h]
end Go.Proofs.Ytneaibkfglfpaaa.Vx
