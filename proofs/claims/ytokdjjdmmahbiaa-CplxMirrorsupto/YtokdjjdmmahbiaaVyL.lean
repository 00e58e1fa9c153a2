/-
  Loops: slots that are told no more, blocks that are dropped, and the rule by which a loop is told. Nothing here is trusted.
-/
import Derived.Test.YtokdjjdmmahbiaaVyC
namespace Go.Proofs.Ytokdjjdmmahbiaa.Vx
open Go Go.RowKit

def hasN (i : Nat) : List Nat → Bool
  | [] => false
  | j :: l => match Nat.beq j i with
    | true => true
    | false => hasN i l
/-- Only the listed slots are told on. -/
def keepL (live : List Nat) : Nat → List Value → List Value
  | _, [] => []
  | i, x :: l => match hasN i live with
    | true => x :: keepL live (i + 1) l
    | false => unk :: keepL live (i + 1) l
/-- Where a block of a state that is told anew is found: it bears the same number · a slot leads to it · a cell of a block does. -/
inductive From where
  | fix (n : Nat)
  | slot (t : Nat)
  | cell (b j : Nat)
  /-- as 'cell', if the block is none of the first so many -/
  | cellN (b j k : Nat)
def farOff : Nat := 1000000
def adrO (d : Nat) : Option Value → Nat
  | some v => match adrOf v with
    | some b => b
    | none => farOff + d
  | none => farOff + d
def From.get (st : St) : From → Nat
  | .fix n => n
  | .slot t => adrO (50000 + t) st.tmps[t]?
  | .cell b j => match st.mem[b]? with
    | some (.cells _ _ c) => adrO (100 * b + j) c[j]?
    | _ => farOff + (100 * b + j)
  | .cellN b j k => match st.mem[b]? with
    | some (.cells _ _ c) => match Nat.blt (adrO (100 * b + j) c[j]?) k with
      | true => farOff + (100 * b + j)
      | false => adrO (100 * b + j) c[j]?
    | _ => farOff + (100 * b + j)
def fixes : Nat → Nat → List From
  | _, 0 => []
  | i, n + 1 => .fix i :: fixes (i + 1) n
/-- The place of a number in a list. -/
def idxN (b : Nat) : List Nat → Nat → Option Nat
  | [], _ => none
  | k :: ks, i => match Nat.beq k b with
    | true => some i
    | false => idxN b ks (i + 1)
def ren0 (ks : List Nat) : Value → Value
  | .pointer (some a) => match idxN a.block ks 0 with
    | some i => .pointer (some ⟨i, a.off, a.spot⟩)
    | none => unk
  | .slice (some a) n e => match idxN a.block ks 0 with
    | some i => .slice (some ⟨i, a.off, a.spot⟩) n e
    | none => unk
  | .map (some b) => match idxN b ks 0 with
    | some i => .map (some i)
    | none => unk
  | v => v
def mapL (f : Value → Value) : List Value → List Value
  | [] => []
  | x :: l => f x :: mapL f l
def ren1 (ks : List Nat) : Value → Value
  | .agg cs => .agg (mapL (ren0 ks) cs.toList).toArray
  | v => ren0 ks v
def renV (ks : List Nat) : Value → Value
  | .tuple vs => .tuple (mapL (ren1 ks) vs.toList).toArray
  | v => ren1 ks v
def renB (ks : List Nat) : Blk → Blk
  | .cells own e c => .cells own e (mapL (ren0 ks) c)
  | .rows own pl e n row => match pl with
    | true => .rows own true e n row
    | false => .rows own false e n fun i => mapL (ren0 ks) (row i)
  | .grow pl e n row => match pl with
    | true => .grow true e n row
    | false => .grow false e n fun i => mapL (ren0 ks) (row i)
  | .view pl e n row => match pl with
    | true => .view true e n row
    | false => .view false e n fun i => mapL (ren0 ks) (row i)
  | b => b
def renM (ks : List Nat) (m : Mem) : List Nat → Mem
  | [] => []
  | b :: l => (match m[b]? with
    | some k => renB ks k
    | none => .no) :: renM ks m l
def noDup : List Nat → Bool
  | [] => true
  | k :: l => !hasN k l && noDup l
def idsTo (B : Nat) : Nat → List Nat → Bool
  | i, [] => Nat.ble B i
  | i, k :: l => match Nat.blt i B with
    | true => Nat.beq k i && idsTo B (i + 1) l
    | false => true
def keysOf (st : St) : List From → List Nat
  | [] => []
  | x :: l => x.get st :: keysOf st l
def forceN {β : Type} : List Nat → (List Nat → β) → β
  | [], k => k []
  | x :: xs, k => forceN xs fun ys => k (x :: ys)
theorem forceN_eq {β : Type} : ∀ (l : List Nat) (k : List Nat → β), forceN l k = k l
  | [], _ => rfl
  | x :: xs, k => by simp only [forceN]; rw [forceN_eq xs]
def cleanB (mask : List Nat) (sp : List From) (B : Nat) (es : Exit × St) : Ans (Exit × St) :=
  forceN (keysOf es.2 sp) fun ks => match noDup ks && idsTo B 0 ks with
    | true => forceL (mapL (renV ks) (keepL mask 0 es.2.tmps)) fun tm => forceM (renM ks es.2.mem ks) fun m => match allB noViewB m with
      | true => forceM (thaw m) fun m => .out (es.1, ⟨tm, m⟩)
      | false => .out (es.1, ⟨tm, m⟩)
    | false => .fail
/-- Behind a round that goes on, and behind one that leaves. -/
def cleanA (mask out : List Nat) (sp so : List From) (B : Nat) (es : Exit × St) : Ans (Exit × St) := match es.1 with
  | .normal => cleanB mask sp B es
  | _ => cleanB out so B (es.1, ⟨es.2.tmps, killV es.2.mem⟩)

theorem hasN_iff {i : Nat} : ∀ {l : List Nat}, hasN i l = true ↔ i ∈ l
  | [] => by simp [hasN]
  | j :: l => by
    simp only [hasN, List.mem_cons]
    cases hb : Nat.beq j i with
    | true => simp [Nat.eq_of_beq_eq_true hb]
    | false =>
      have : j ≠ i := fun e => by subst e; simp at hb
      simp only [hasN_iff]
      exact ⟨Or.inr, fun h => h.resolve_left fun e => this e.symm⟩
theorem keepL_rel {r : Ren} (live : List Nat) : ∀ (i : Nat) {l l' : List Value}, RL (R r) l l' → RL (R r) (keepL live i l) l'
  | _, [], [], _ => trivial
  | i, x :: l, y :: l', h => by
    simp only [keepL]
    cases hasN i live with
    | false => exact ⟨R_unk r y, keepL_rel live (i + 1) h.2⟩
    | true => exact ⟨h.1, keepL_rel live (i + 1) h.2⟩
  | _, [], _ :: _, h => h.elim
  | _, _ :: _, [], h => h.elim

/-! ## Blocks told by other numbers -/
def Ren.via (r : Ren) (ks : List Nat) : Ren := fun i => match ks[i]? with
  | some b => r b
  | none => none
theorem idxN_spec {b : Nat} : ∀ {ks : List Nat} {i j : Nat}, idxN b ks i = some j → i ≤ j ∧ ks[j - i]? = some b
  | [], i, j, h => by simp [idxN] at h
  | k :: ks, i, j, h => by
    simp only [idxN] at h
    split at h
    · rename_i hb
      simp only [Option.some.injEq] at h
      subst h
      exact ⟨Nat.le_refl _, by simp [Nat.eq_of_beq_eq_true hb]⟩
    · obtain ⟨h1, h2⟩ := idxN_spec h
      refine ⟨by omega, ?_⟩
      rw [show j - i = (j - (i + 1)) + 1 by omega, List.getElem?_cons_succ]
      exact h2
theorem via_idx {r : Ren} {ks : List Nat} {b i : Nat} (h : idxN b ks 0 = some i) : (r.via ks) i = r b := by
  have := (idxN_spec h).2
  simp only [Nat.sub_zero] at this
  simp [Ren.via, this]
theorem R0_via {r : Ren} {ks : List Nat} {v v' : Value} (h : R0 r v v') : R0 (r.via ks) (ren0 ks v) v' := by
  unfold R0 at h
  cases v with
  | pointer a => cases a with
    | none => exact h
    | some a =>
      simp only [ren0]
      split
      · rename_i i hi
        unfold R0
        simp only [via_idx (r := r) hi]
        exact h
      · exact R_unk (r.via ks) v'
  | slice a n c => cases a with
    | none => exact h
    | some a =>
      simp only [ren0]
      split
      · rename_i i hi
        unfold R0
        simp only [via_idx (r := r) hi]
        exact h
      · exact R_unk (r.via ks) v'
  | map a => cases a with
    | none => exact h
    | some a =>
      simp only [ren0]
      split
      · rename_i i hi
        unfold R0
        simp only [via_idx (r := r) hi]
        exact h
      · exact R_unk (r.via ks) v'
  | iface t u => cases u <;> exact h
  | _ => exact h
theorem RL_mapL {Q S : Value → Value → Prop} {f : Value → Value} (hq : ∀ v v', Q v v' → S (f v) v') : ∀ {l l' : List Value}, RL Q l l' → RL S (mapL f l) l'
  | [], [], _ => trivial
  | _ :: _, _ :: _, h => ⟨hq _ _ h.1, RL_mapL hq h.2⟩
  | [], _ :: _, h => h.elim
  | _ :: _, [], h => h.elim
theorem R1_via {r : Ren} {ks : List Nat} {v v' : Value} (h : R1 r v v') : R1 (r.via ks) (ren1 ks v) v' := by
  cases v with
  | agg cs => obtain ⟨cs', rfl, h⟩ := h; exact ⟨cs', rfl, by simpa using RL_mapL (f := ren0 ks) (fun _ _ h => R0_via h) h⟩
  | _ =>
    unfold R1 at h
    have := R0_via (ks := ks) h
    revert this
    simp only [ren1]
    generalize hz : ren0 ks _ = z
    intro this
    cases z with
    | agg cs =>
      exfalso
      unfold ren0 at hz
      split at hz
      · split at hz <;> simp [unk] at hz
      · split at hz <;> simp [unk] at hz
      · split at hz <;> simp [unk] at hz
      · simp at hz
    | _ => exact this
theorem R_via {r : Ren} {ks : List Nat} {v v' : Value} (h : R r v v') : R (r.via ks) (renV ks v) v' := by
  cases v with
  | tuple cs => obtain ⟨cs', rfl, h⟩ := h; exact ⟨cs', rfl, by simpa using RL_mapL (f := ren1 ks) (fun _ _ h => R1_via h) h⟩
  | agg cs => exact R1_via (ks := ks) (v := .agg cs) h
  | _ =>
    unfold R at h
    have := R1_via (ks := ks) h
    revert this
    simp only [renV]
    generalize hz : ren1 ks _ = z
    intro this
    cases z with
    | tuple cs =>
      exfalso
      unfold ren1 at hz
      split at hz
      · simp at hz
      · unfold ren0 at hz
        split at hz
        · split at hz <;> simp [unk] at hz
        · split at hz <;> simp [unk] at hz
        · split at hz <;> simp [unk] at hz
        · simp at hz
    | _ => exact this
theorem mapL_get {f : Value → Value} : ∀ {l : List Value} {i : Nat} {v : Value}, (mapL f l)[i]? = some v → ∃ u, l[i]? = some u ∧ v = f u
  | [], i, v, h => by simp [mapL] at h
  | x :: l, 0, v, h => by simp [mapL] at h; exact ⟨x, rfl, h.symm⟩
  | x :: l, i + 1, v, h => by simp only [mapL, List.getElem?_cons_succ] at h ⊢; exact mapL_get h
theorem mapL_length {f : Value → Value} : ∀ (l : List Value), (mapL f l).length = l.length
  | [] => rfl
  | x :: l => by simp [mapL, mapL_length l]
theorem CellsAt_via {r : Ren} {ks : List Nat} {cs : Array Value} {off : Nat} {c : List Value} (h : CellsAt r cs off c) : CellsAt (r.via ks) cs off (mapL (ren0 ks) c) := fun k v hk => by
  obtain ⟨u, hu, rfl⟩ := mapL_get hk
  obtain ⟨v', h1, h2⟩ := h k u hu
  exact ⟨v', h1, R0_via h2⟩
theorem plain_via {r : Ren} {ks : List Nat} {v v' : Value} (hp : nad0 v = true) (h : R0 r v v') : R0 (r.via ks) v v' := R0_nad hp h
theorem rows_via {r : Ren} {ks : List Nat} {cs : Array Value} {off esz n : Nat} {row : Nat → List Value} (h5 : ∀ i, i < n → (row i).length = esz ∧ CellsAt r cs (off + i * esz) (row i)) :
    ((∀ i, i < n → allL nad0 (row i) = true) → ∀ i, i < n → (row i).length = esz ∧ CellsAt (r.via ks) cs (off + i * esz) (row i)) ∧ ∀ i, i < n → (mapL (ren0 ks) (row i)).length = esz ∧ CellsAt (r.via ks) cs (off + i * esz) (mapL (ren0 ks) (row i)) := by
  refine ⟨fun hp i hi => ⟨(h5 i hi).1, fun k v hk => ?_⟩, fun i hi => ⟨by rw [mapL_length]; exact (h5 i hi).1, CellsAt_via (h5 i hi).2⟩⟩
  obtain ⟨v', g1, g2⟩ := (h5 i hi).2 k v hk
  exact ⟨v', g1, plain_via (allL_iff.1 (hp i hi) v (List.mem_of_getElem? hk)) g2⟩
theorem BlkRel_via {w : World} {r : Ren} {ks : List Nat} {p : Place} {k : Blk} (h : BlkRel w r p k) : BlkRel w (r.via ks) p (renB ks k) := by
  cases k with
  | cells own esz c =>
    obtain ⟨h1, h2, cs, T, fz, h6, h3, h4, h5⟩ := h
    exact ⟨h1, h2, cs, T, fz, h6, h3, h4, CellsAt_via h5⟩
  | rows own pl esz n row =>
    obtain ⟨h1, h2, h0, hp, cs, T, fz, h6, h3, h4, h5⟩ := h
    cases pl with
    | true => exact ⟨h1, h2, h0, hp, cs, T, fz, h6, h3, h4, (rows_via h5).1 (hp rfl)⟩
    | false => exact ⟨h1, h2, h0, (fun h => by cases h), cs, T, fz, h6, h3, h4, (rows_via h5).2⟩
  | grow pl esz n row =>
    obtain ⟨h1, h2, h0, hp, cs, T, fz, h3, h4, h5⟩ := h
    cases pl with
    | true => exact ⟨h1, h2, h0, hp, cs, T, fz, h3, h4, (rows_via h5).1 (hp rfl)⟩
    | false => exact ⟨h1, h2, h0, (fun h => by cases h), cs, T, fz, h3, h4, (rows_via h5).2⟩
  | view pl esz n row =>
    obtain ⟨h1, h2, h0, hp, cs, T, fz, h3, h4, h5⟩ := h
    cases pl with
    | true => exact ⟨h1, h2, h0, hp, cs, T, fz, h3, h4, (rows_via h5).1 (hp rfl)⟩
    | false => exact ⟨h1, h2, h0, (fun h => by cases h), cs, T, fz, h3, h4, (rows_via h5).2⟩
  | _ => exact h
theorem renM_get {ks : List Nat} {m : Mem} : ∀ (l : List Nat) (i : Nat), (renM ks m l)[i]? = (l[i]?).map fun b => match m[b]? with
    | some k => renB ks k
    | none => .no
  | [], i => by simp [renM]
  | b :: l, 0 => by simp [renM]
  | b :: l, i + 1 => by simp only [renM, List.getElem?_cons_succ]; exact renM_get l i
theorem noDup_inj : ∀ {l : List Nat}, noDup l = true → ∀ {i j b : Nat}, l[i]? = some b → l[j]? = some b → i = j
  | [], _, i, j, b, h, _ => by simp at h
  | k :: l, hd, i, j, b, hi, hj => by
    simp only [noDup, Bool.and_eq_true, Bool.not_eq_true'] at hd
    have hn : k ∉ l := fun hm => by rw [hasN_iff.2 hm] at hd; cases hd.1
    cases i with
    | zero => cases j with
      | zero => rfl
      | succ j =>
        simp at hi hj
        subst hi
        exact absurd (List.mem_of_getElem? hj) hn
    | succ i => cases j with
      | zero =>
        simp at hi hj
        subst hj
        exact absurd (List.mem_of_getElem? hi) hn
      | succ j =>
        simp only [List.getElem?_cons_succ] at hi hj
        rw [noDup_inj hd.2 hi hj]
theorem renB_no {ks : List Nat} {k : Blk} : renB ks k = .no ↔ k = .no := by
  cases k with
  | rows own pl e n row => cases pl <;> simp [renB]
  | grow pl e n row => cases pl <;> simp [renB]
  | view pl e n row => cases pl <;> simp [renB]
  | _ => simp [renB]
theorem renB_grow {ks : List Nat} {k : Blk} (h : isGrow (some k)) : isGrow (some (renB ks k)) := by
  cases k with
  | grow pl e n row => cases pl <;> trivial
  | _ => exact h.elim
theorem MemRel_via {w0 : World} {keep : Keep} {r : Ren} {m : Mem} {w : World} {ks : List Nat} (h : MemRel w0 keep r m w) (hd : noDup ks = true) : MemRel w0 keep (r.via ks) (renM ks m ks) w := by
  have hv : ∀ {i : Nat} {q : Option Place}, (r.via ks) i = some q → ∃ b, ks[i]? = some b ∧ r b = some q := fun {i q} hq => by
    unfold Ren.via at hq
    split at hq
    · rename_i b hb; exact ⟨b, hb, hq⟩
    · cases hq
  refine ⟨h.os, h.tape, h.output, h.drawn, h.size, h.klt, h.kept, fun i hm => ?_, fun i hq => ?_, fun i p hq => ?_, fun i p hq => ?_, fun i p hq => ?_, fun i p hq => ?_, fun i j p q hi hj hp hz hq he => ?_, fun i j p q hi hj ho hq he => ?_⟩
  · unfold Ren.via
    cases hb : ks[i]? with
    | none => rfl
    | some b =>
      rw [renM_get, hb] at hm
      simp only [Option.map_some] at hm
      rcases hm with hm | hm
      · cases hm
      · simp only [Option.some.injEq] at hm
        cases hmb : m[b]? with
        | none => exact h.none b (Or.inl hmb)
        | some k =>
          rw [hmb] at hm
          exact h.none b (Or.inr (by rw [hmb, renB_no.1 hm]))
  · obtain ⟨b, hb, hr⟩ := hv hq
    rw [renM_get, hb]
    simp only [Option.map_some, h.dead b hr, renB]
  · obtain ⟨b, hb, hr⟩ := hv hq
    obtain ⟨k, h1, h2⟩ := h.blk b p hr
    refine ⟨renB ks k, ?_, BlkRel_via h2⟩
    rw [renM_get, hb]
    simp only [Option.map_some, h1]
  · obtain ⟨b, hb, hr⟩ := hv hq
    exact h.own b p hr
  · obtain ⟨b, hb, hr⟩ := hv hq
    exact h.read b p hr
  · obtain ⟨b, hb, hr⟩ := hv hq
    exact h.vw b p hr
  · obtain ⟨b, hb, hr⟩ := hv hi
    obtain ⟨c, hc, hs⟩ := hv hj
    obtain ⟨g1, g2⟩ := h.sep b c p q hr hs hp hz hq he
    rw [renM_get, hc]
    simp only [Option.map_some]
    cases hm : m[c]? with
    | none => rw [hm] at g1; exact g1.elim
    | some k => rw [hm] at g1; exact ⟨renB_grow g1, g2⟩
  · obtain ⟨b, hb, hr⟩ := hv hi
    obtain ⟨c, hc, hs⟩ := hv hj
    have := h.inj b c p q hr hs ho hq he
    subst this
    exact noDup_inj hd hb hc
theorem idsTo_spec {B : Nat} : ∀ {l : List Nat} {i b : Nat}, idsTo B i l = true → i ≤ b → b < B → l[b - i]? = some b
  | [], i, b, h, h1, h2 => by
    have := Nat.le_of_ble_eq_true h
    omega
  | k :: l, i, b, h, h1, h2 => by
    simp only [idsTo] at h
    rw [show Nat.blt i B = true by simp [Nat.blt_eq]; omega] at h
    simp only [Bool.and_eq_true] at h
    have hk : k = i := Nat.eq_of_beq_eq_true h.1
    by_cases hib : i = b
    · subst hib; subst hk; simp
    · have := idsTo_spec h.2 (show i + 1 ≤ b by omega) h2
      rw [show b - i = (b - (i + 1)) + 1 by omega, List.getElem?_cons_succ]
      exact this
theorem cleanB_rel {mask : List Nat} {sp : List From} {B : Nat} {e e' : Exit} {s s' : St} (h : (cleanB mask sp B (e, s)).res = some (e', s')) {w0 : World} {keep : Keep} {r0 : Ren} {a : Act} {w : World} (h0 : ∀ b, B ≤ b → r0 b = none) (hr : Rel w0 keep r0 s a w) : e' = e ∧ Rel w0 keep r0 s' a w := by
  unfold cleanB at h
  rw [forceN_eq] at h
  split at h
  · rename_i hb
    rw [Bool.and_eq_true] at hb
    rw [forceL_eq, forceM_eq] at h
    obtain ⟨r, hx, h1, h2, h3⟩ := hr
    have hext : Ext r0 (r.via (keysOf s sp)) := fun b => by
      by_cases hlt : b < B
      · have := idsTo_spec hb.2 (Nat.zero_le b) hlt
        simp only [Nat.sub_zero] at this
        have e1 : (r.via (keysOf s sp)) b = r b := by simp [Ren.via, this]
        rw [e1]
        exact hx b
      · exact Or.inl (h0 b (by omega))
    have hm := MemRel_via h3 hb.1
    have htm : RL (R (r.via (keysOf s sp))) (mapL (renV (keysOf s sp)) (keepL mask 0 s.tmps)) a.tmps.toList := RL_mapL (f := renV (keysOf s sp)) (fun _ _ h => R_via h) (keepL_rel mask 0 h2)
    split at h
    · rename_i hv
      rw [forceM_eq] at h
      simp only [Ans.res, Option.some.injEq, Prod.mk.injEq] at h
      obtain ⟨rfl, rfl⟩ := h
      exact ⟨rfl, r.via (keysOf s sp), hext, h1, htm, hm.thawed hv⟩
    · simp only [Ans.res, Option.some.injEq, Prod.mk.injEq] at h
      obtain ⟨rfl, rfl⟩ := h
      exact ⟨rfl, r.via (keysOf s sp), hext, h1, htm, hm⟩
  · simp [Ans.res] at h
theorem clean_rel {mask out : List Nat} {sp so : List From} {B : Nat} {e e' : Exit} {s s' : St} (h : (cleanA mask out sp so B (e, s)).res = some (e', s')) {w0 : World} {keep : Keep} {r0 : Ren} {a : Act} {w : World} (h0 : ∀ b, B ≤ b → r0 b = none) (hr : Rel w0 keep r0 s a w) : e' = e ∧ Rel w0 keep r0 s' a w := by
  unfold cleanA at h
  have hr2 : Rel w0 keep r0 ⟨s.tmps, killV s.mem⟩ a w := by
    obtain ⟨r, hx, h1, h2, h3⟩ := hr
    exact ⟨r.noV, hx.trans r.noV_ext, h1, RL.mono (fun _ _ => R.ext r.noV_ext) h2, h3.unview⟩
  cases e <;> first | exact cleanB_rel h h0 hr | exact cleanB_rel h h0 hr2

/-- One round. -/
def roundR (C : Cx) (n : Nat) (x : Code) (mask mout : List Nat) (sp so : List From) (st : St) : Option (Exit × St) := ((exCode n C x st).bind (cleanA mask mout sp so C.fb)).res
/-- A loop is told by its rounds: each leads on to a state of the same kind with less ahead of it, or out. -/
theorem loop_rule {C : Cx} (hC : CxOk C) {f : FuncId} {B : Nat} {x : Code} (hin : InBody (C.into f B) x) (n : Nat) (mask mout : List Nat) (sp so : List From) {σ : Type} (H : σ → St) (μ : σ → Nat) (Inv : σ → Prop) (out : σ → Exit × St)
    (hstep : ∀ g, Inv g → (∃ g', roundR (C.into f B) n x mask mout sp so (H g) = some (.normal, H g') ∧ Inv g' ∧ μ g' < μ g ∧ out g' = out g) ∨ (roundR (C.into f B) n x mask mout sp so (H g) = some (out g) ∧ (out g).1 ≠ .normal)) :
    ∀ g, Inv g → LoopSem C.P B x (H g) (out g).1 (out g).2 := by
  have leave : ∀ g, roundR (C.into f B) n x mask mout sp so (H g) = some (out g) → (out g).1 ≠ .normal → LoopSem C.P B x (H g) (out g).1 (out g).2 := by
    intro g h1 h2 Q w0 keep r0 a w hB hQ hr
    obtain ⟨⟨e1, s1⟩, h3, h4⟩ := Ans.bind_some h1
    refine LoopsTo.round ((exCode_sound hC n).1 f B x hin _ _ _ h3 _ w0 keep r0 a w hB ?_ hr)
    intro a' w' hr'
    obtain ⟨he, hs⟩ := clean_rel h4 hB hr'
    subst he
    revert h2 hQ hs
    cases (out g).1 <;> intro h2 hQ hs <;> first | exact absurd rfl h2 | exact hQ a' w' hs
  have key : ∀ k g, μ g ≤ k → Inv g → LoopSem C.P B x (H g) (out g).1 (out g).2 := by
    intro k
    induction k with
    | zero =>
      intro g hk hg
      rcases hstep g hg with ⟨g', _, _, hlt, _⟩ | ⟨h1, h2⟩
      · omega
      · exact leave g h1 h2
    | succ k ih =>
      intro g hk hg
      rcases hstep g hg with ⟨g', h1, hg', hlt, ho⟩ | ⟨h1, h2⟩
      · intro Q w0 keep r0 a w hB hQ hr
        obtain ⟨⟨e1, s1⟩, h3, h4⟩ := Ans.bind_some h1
        refine LoopsTo.round ((exCode_sound hC n).1 f B x hin _ _ _ h3 _ w0 keep r0 a w hB ?_ hr)
        intro a' w' hr'
        obtain ⟨he, hs⟩ := clean_rel h4 hB hr'
        subst he
        refine ih g' (by omega) hg' Q w0 keep r0 a' w' hB ?_ hs
        rw [ho]; exact hQ
      · exact leave g h1 h2
  exact fun g hg => key (μ g) g (Nat.le_refl _) hg

theorem loopsIn_trans : ∀ (b : Code) (x y : Code), x ∈ loopsIn b → y ∈ loopsIn x → y ∈ loopsIn b := by
  intro b
  induction b with
  | seq p q ihp ihq =>
    intro x y hx hy
    simp only [loopsIn, List.mem_append] at hx ⊢
    rcases hx with h | h
    · exact Or.inl (ihp x y h hy)
    · exact Or.inr (ihq x y h hy)
  | cond c p q ihp ihq =>
    intro x y hx hy
    simp only [loopsIn, List.mem_append] at hx ⊢
    rcases hx with h | h
    · exact Or.inl (ihp x y h hy)
    · exact Or.inr (ihq x y h hy)
  | block id p ih =>
    intro x y hx hy
    simp only [loopsIn] at hx ⊢
    exact ih x y hx hy
  | loop p ih =>
    intro x y hx hy
    simp only [loopsIn, List.mem_cons] at hx ⊢
    rcases hx with rfl | h
    · exact Or.inr hy
    · exact Or.inr (ih x y h hy)
  | _ => intro x y hx hy; simp [loopsIn] at hx
theorem loopsOf_in {C : Cx} {f k B : Nat} {x : Code} (h : loopsOf C.P f k = [x]) : InBody (C.into f B) x := by
  unfold loopsOf at h
  split at h
  · rename_i fn hf
    split at h
    · rename_i b hb
      have hx : x ∈ loopsIn b := (List.mem_filter.1 (show x ∈ (loopsIn b).filter fun x => Nat.beq (loopKey x) k by rw [h]; simp)).1
      exact Or.inl ⟨fn, b, hf, hb, fun y hy => loopsIn_trans b x y hx hy⟩
    · cases h
  · cases h
/-- What is told of a state of which less is known holds of the state. -/
theorem LoopSem.clean {P : Program} {B : Nat} {x : Code} {st s : St} {e : Exit} {mask : List Nat} (h : LoopSem P B x ⟨keepL mask 0 st.tmps, st.mem⟩ e s) : LoopSem P B x st e s := by
  intro Q w0 keep r0 a w hB hQ hr
  refine h Q w0 keep r0 a w hB hQ ?_
  obtain ⟨r, hx, h1, h2, h3⟩ := hr
  exact ⟨r, hx, h1, keepL_rel mask 0 h2, h3⟩

/-! ## Slots by their numbers -/
def lookN (i : Nat) : List (Nat × Value) → Option Value
  | [] => none
  | (j, v) :: l => match Nat.beq j i with
    | true => some v
    | false => lookN i l
def tmpsOf (vs : List (Nat × Value)) : Nat → Nat → List Value
  | _, 0 => []
  | i, n + 1 => (match lookN i vs with
    | some v => v
    | none => unk) :: tmpsOf vs (i + 1) n
theorem lookN_spec {i : Nat} : ∀ {vs : List (Nat × Value)} {v : Value}, lookN i vs = some v → (i, v) ∈ vs ∧ hasN i (vs.map (·.1)) = true
  | [], v, h => by simp [lookN] at h
  | (j, u) :: vs, v, h => by
    simp only [lookN] at h
    cases hb : Nat.beq j i with
    | true =>
      simp only [hb, Option.some.injEq] at h
      subst h
      have : j = i := Nat.eq_of_beq_eq_true hb
      subst this
      exact ⟨by simp, by simp [hasN]⟩
    | false =>
      simp only [hb] at h
      obtain ⟨h1, h2⟩ := lookN_spec h
      exact ⟨by simp [h1], by simp only [List.map_cons, hasN, hb]; exact h2⟩
theorem lookN_none {i : Nat} : ∀ {vs : List (Nat × Value)}, lookN i vs = none → hasN i (vs.map (·.1)) = false
  | [], _ => rfl
  | (j, u) :: vs, h => by
    simp only [lookN] at h
    cases hb : Nat.beq j i with
    | true => simp [hb] at h
    | false =>
      simp only [hb] at h
      simp only [List.map_cons, hasN, hb]
      exact lookN_none h
theorem keep_eq (vs : List (Nat × Value)) : ∀ (l : List Value) (i : Nat), (∀ x ∈ vs, i ≤ x.1 → l[x.1 - i]? = some x.2) → keepL (vs.map (·.1)) i l = tmpsOf vs i l.length
  | [], i, _ => rfl
  | x :: l, i, h => by
    simp only [keepL, List.length_cons, tmpsOf]
    have ih : keepL (vs.map (·.1)) (i + 1) l = tmpsOf vs (i + 1) l.length := keep_eq vs l (i + 1) fun y hy hi => by
      have := h y hy (by omega)
      rw [show y.1 - i = (y.1 - (i + 1)) + 1 by omega, List.getElem?_cons_succ] at this
      exact this
    cases hl : lookN i vs with
    | some v =>
      obtain ⟨h1, h2⟩ := lookN_spec hl
      have := h (i, v) h1 (Nat.le_refl _)
      simp only [Nat.sub_self, List.getElem?_cons_zero, Option.some.injEq] at this
      simp only [h2, ih, this]
    | none => simp only [lookN_none hl, ih]
/-- A state that is told by some of its slots, and its blocks. -/
def stOf (N : Nat) (vs : List (Nat × Value)) (m : Mem) : St := ⟨tmpsOf vs 0 N, m⟩
/-- Is this state so long, with so many blocks? -/
def sized (st : St) (N M : Nat) : Bool := Nat.beq st.tmps.length N && Nat.beq st.mem.length M
theorem stOf_keep {st : St} {N M : Nat} (hs : sized st N M = true) (vs : List (Nat × Value)) (hv : ∀ x ∈ vs, st.tmps[x.1]? = some x.2) {m : Mem} (hm : st.mem = m) : (⟨keepL (vs.map (·.1)) 0 st.tmps, st.mem⟩ : St) = stOf N vs m := by
  unfold sized at hs
  rw [Bool.and_eq_true] at hs
  unfold stOf
  rw [← Nat.eq_of_beq_eq_true hs.1, ← hm, keep_eq vs st.tmps 0 (fun x hx _ => by simpa using hv x hx)]
end Go.Proofs.Ytokdjjdmmahbiaa.Vx
