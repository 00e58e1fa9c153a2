/-
  What a call does with the blocks that it is handed, it does among others. Nothing here is trusted.
-/
import Derived.Test.YtokdjjdmmahbiaaVyL
namespace Go.Proofs.Ytokdjjdmmahbiaa.Vx
open Go Go.RowKit

/-- The number, among M blocks, of the i-th of those that were handed over, or of one that was made behind them. -/
def unr (ks : List Nat) (M i : Nat) : Nat := match ks[i]? with
  | some b => b
  | none => M + (i - ks.length)
def unr0 (ks : List Nat) (M : Nat) : Value → Value
  | .pointer (some a) => .pointer (some ⟨unr ks M a.block, a.off, a.spot⟩)
  | .slice (some a) n e => .slice (some ⟨unr ks M a.block, a.off, a.spot⟩) n e
  | .map (some b) => .map (some (unr ks M b))
  | v => v
def unr1 (ks : List Nat) (M : Nat) : Value → Value
  | .agg cs => .agg (mapL (unr0 ks M) cs.toList).toArray
  | v => unr0 ks M v
def unrV (ks : List Nat) (M : Nat) : Value → Value
  | .tuple vs => .tuple (mapL (unr1 ks M) vs.toList).toArray
  | v => unr1 ks M v
def unrB (ks : List Nat) (M : Nat) : Blk → Blk
  | .cells own e c => .cells own e (mapL (unr0 ks M) c)
  | .rows own pl e n row => match pl with
    | true => .rows own true e n row
    | false => .rows own false e n fun i => mapL (unr0 ks M) (row i)
  | .grow pl e n row => match pl with
    | true => .grow true e n row
    | false => .grow false e n fun i => mapL (unr0 ks M) (row i)
  | .view pl e n row => match pl with
    | true => .view true e n row
    | false => .view false e n fun i => mapL (unr0 ks M) (row i)
  | b => b
def mapB (f : Blk → Blk) : Mem → Mem
  | [] => []
  | b :: l => f b :: mapB f l
def setK (f : Blk → Blk) (m : Mem) : List Nat → Mem → Mem
  | k :: ks, b :: bs => setK f (m.set k (f b)) ks bs
  | _, _ => m
def framed (ks : List Nat) (m ms : Mem) : Mem := setK (unrB ks m.length) m ks ms ++ mapB (unrB ks m.length) (ms.drop ks.length)
def allLt (M : Nat) : List Nat → Bool
  | [] => true
  | k :: ks => Nat.blt k M && allLt M ks

theorem allLt_iff {M : Nat} : ∀ {ks : List Nat}, allLt M ks = true → ∀ {i b : Nat}, ks[i]? = some b → b < M
  | [], _, i, b, h => by simp at h
  | k :: ks, hl, 0, b, h => by
    simp only [allLt, Bool.and_eq_true] at hl
    simp at h
    subst h
    exact Nat.blt_eq.mp hl.1
  | k :: ks, hl, i + 1, b, h => by
    simp only [allLt, Bool.and_eq_true] at hl
    simp only [List.getElem?_cons_succ] at h
    exact allLt_iff hl.2 h
theorem mapB_get {f : Blk → Blk} : ∀ (l : Mem) (i : Nat), (mapB f l)[i]? = (l[i]?).map f
  | [], i => by simp [mapB]
  | b :: l, 0 => by simp [mapB]
  | b :: l, i + 1 => by simp only [mapB, List.getElem?_cons_succ]; exact mapB_get l i
theorem setK_length {f : Blk → Blk} : ∀ (ks : List Nat) (bs m : Mem), (setK f m ks bs).length = m.length
  | [], [], m => rfl
  | [], _ :: _, m => rfl
  | k :: ks, [], m => rfl
  | k :: ks, b :: bs, m => by simp only [setK]; rw [setK_length ks bs]; simp
theorem setK_not {f : Blk → Blk} {c : Nat} : ∀ (ks : List Nat) (bs m : Mem), c ∉ ks → (setK f m ks bs)[c]? = m[c]?
  | [], [], m, _ => rfl
  | [], _ :: _, m, _ => rfl
  | k :: ks, [], m, _ => rfl
  | k :: ks, b :: bs, m, h => by
    simp only [List.mem_cons, not_or] at h
    simp only [setK]
    rw [setK_not ks bs _ h.2, List.getElem?_set_ne (fun e => h.1 e.symm)]
theorem setK_at {f : Blk → Blk} {c : Nat} : ∀ (ks : List Nat) (bs m : Mem) (i : Nat), noDup ks = true → allLt m.length ks = true → ks.length ≤ bs.length → ks[i]? = some c → (setK f m ks bs)[c]? = (bs[i]?).map f
  | [], bs, m, i, _, _, _, h => by simp at h
  | k :: ks, [], m, i, _, _, hl, h => by simp at hl
  | k :: ks, b :: bs, m, i, hd, ha, hl, h => by
    simp only [noDup, Bool.and_eq_true, Bool.not_eq_true'] at hd
    simp only [allLt, Bool.and_eq_true] at ha
    have hn : k ∉ ks := fun hm => by rw [hasN_iff.2 hm] at hd; cases hd.1
    have hk : k < m.length := Nat.blt_eq.mp ha.1
    simp only [setK]
    cases i with
    | zero =>
      simp at h
      subst h
      rw [setK_not ks bs _ hn, List.getElem?_set_self hk]
      simp
    | succ i =>
      simp only [List.getElem?_cons_succ] at h ⊢
      exact setK_at ks bs _ i hd.2 (by simpa using ha.2) (by simpa using hl) h
theorem idxN_of {ks : List Nat} (hd : noDup ks = true) {i b : Nat} (h : ks[i]? = some b) : idxN b ks 0 = some i := by
  have key : ∀ (l : List Nat) (j : Nat), b ∈ l → ∃ q, idxN b l j = some q := by
    intro l
    induction l with
    | nil => intro j hm; cases hm
    | cons x l ih =>
      intro j hm
      simp only [idxN]
      cases hb : Nat.beq x b with
      | true => exact ⟨_, rfl⟩
      | false =>
        rcases List.mem_cons.1 hm with rfl | hm
        · simp at hb
        · exact ih _ hm
  obtain ⟨q, hq⟩ := key ks 0 (List.mem_of_getElem? h)
  have := (idxN_spec hq).2
  simp only [Nat.sub_zero] at this
  rw [hq, noDup_inj hd this h]
theorem idxN_not {b : Nat} : ∀ {l : List Nat} {j : Nat}, b ∉ l → idxN b l j = none
  | [], _, _ => rfl
  | x :: l, j, h => by
    simp only [List.mem_cons, not_or] at h
    simp only [idxN]
    rw [show Nat.beq x b = false by
      cases hb : Nat.beq x b with
      | false => rfl
      | true => exact absurd (Nat.eq_of_beq_eq_true hb).symm h.1]
    exact idxN_not h.2

/-- Where blocks lie behind a call that was handed some of them. -/
def Ren.back (r rs : Ren) (ks : List Nat) (M : Nat) : Ren := fun b => match idxN b ks 0 with
  | some i => rs i
  | none => if b < M then r b else rs (ks.length + (b - M))
theorem back_unr {r rs : Ren} {ks : List Nat} {M : Nat} (hd : noDup ks = true) (ha : allLt M ks = true) (i : Nat) : (r.back rs ks M) (unr ks M i) = rs i := by
  unfold Ren.back unr
  cases hi : ks[i]? with
  | some b => simp only [idxN_of hd hi]
  | none =>
    have hl : ks.length ≤ i := List.getElem?_eq_none_iff.1 hi
    have hn : (M + (i - ks.length)) ∉ ks := fun hm => by
      obtain ⟨j, hj⟩ := List.getElem?_of_mem hm
      have := allLt_iff ha hj
      omega
    simp only [idxN_not hn]
    rw [if_neg (by omega)]
    congr 1; omega
theorem R1_nagg {r : Ren} {v v' : Value} (hn : ∀ cs, v ≠ .agg cs) : R1 r v v' ↔ R0 r v v' := by
  cases v with
  | agg cs => exact absurd rfl (hn cs)
  | _ => exact Iff.rfl
theorem unr1_nagg {ks : List Nat} {M : Nat} {v : Value} (hn : ∀ cs, v ≠ .agg cs) : unr1 ks M v = unr0 ks M v := by
  cases v with
  | agg cs => exact absurd rfl (hn cs)
  | _ => rfl
theorem unr0_nagg {ks : List Nat} {M : Nat} {v : Value} (hn : ∀ cs, v ≠ .agg cs) : ∀ cs, unr0 ks M v ≠ .agg cs := by
  intro cs
  cases v with
  | agg cs => exact absurd rfl (hn cs)
  | pointer a => cases a <;> simp [unr0]
  | slice a n c => cases a <;> simp [unr0]
  | map a => cases a <;> simp [unr0]
  | _ => simp [unr0]
theorem unrV_ntup {ks : List Nat} {M : Nat} {v : Value} (hn : ∀ cs, v ≠ .tuple cs) : unrV ks M v = unr1 ks M v := by
  cases v with
  | tuple cs => exact absurd rfl (hn cs)
  | _ => rfl
theorem unr1_ntup {ks : List Nat} {M : Nat} {v : Value} (hn : ∀ cs, v ≠ .tuple cs) : ∀ cs, unr1 ks M v ≠ .tuple cs := by
  intro cs
  cases v with
  | tuple cs => exact absurd rfl (hn cs)
  | pointer a => cases a <;> simp [unr1, unr0]
  | slice a n c => cases a <;> simp [unr1, unr0]
  | map a => cases a <;> simp [unr1, unr0]
  | _ => simp [unr1, unr0]
section
variable {r rs : Ren} {ks : List Nat} {M : Nat} (hd : noDup ks = true) (ha : allLt M ks = true)
include hd ha
theorem R0_back {v v' : Value} (h : R0 rs v v') : R0 (r.back rs ks M) (unr0 ks M v) v' := by
  unfold R0 at h
  cases v with
  | pointer a => cases a with
    | none => exact h
    | some a => simp only [unr0]; unfold R0; simp only [back_unr (r := r) (rs := rs) hd ha]; exact h
  | slice a n c => cases a with
    | none => exact h
    | some a => simp only [unr0]; unfold R0; simp only [back_unr (r := r) (rs := rs) hd ha]; exact h
  | map a => cases a with
    | none => exact h
    | some a => simp only [unr0]; unfold R0; simp only [back_unr (r := r) (rs := rs) hd ha]; exact h
  | iface t u => cases u <;> exact h
  | _ => exact h
theorem R1_back {v v' : Value} (h : R1 rs v v') : R1 (r.back rs ks M) (unr1 ks M v) v' := by
  by_cases hn : ∃ cs, v = .agg cs
  · obtain ⟨cs, rfl⟩ := hn
    obtain ⟨cs', rfl, h⟩ := h
    exact ⟨cs', rfl, by simpa using RL_mapL (f := unr0 ks M) (fun _ _ h => R0_back hd ha h) h⟩
  · have h0 := (R1_nagg fun cs e => hn ⟨cs, e⟩).1 h
    rw [unr1_nagg fun cs e => hn ⟨cs, e⟩]
    exact (R1_nagg (unr0_nagg fun cs e => hn ⟨cs, e⟩)).2 (R0_back hd ha h0)
theorem R_back {v v' : Value} (h : R rs v v') : R (r.back rs ks M) (unrV ks M v) v' := by
  by_cases hn : ∃ cs, v = .tuple cs
  · obtain ⟨cs, rfl⟩ := hn
    obtain ⟨cs', rfl, h⟩ := h
    exact ⟨cs', rfl, by simpa using RL_mapL (f := unr1 ks M) (fun _ _ h => R1_back hd ha h) h⟩
  · have h0 := (R1_R fun cs e => hn ⟨cs, e⟩).1 h
    rw [unrV_ntup fun cs e => hn ⟨cs, e⟩]
    exact (R1_R (unr1_ntup fun cs e => hn ⟨cs, e⟩)).2 (R1_back hd ha h0)
theorem CellsAt_back {cs : Array Value} {off : Nat} {c : List Value} (h : CellsAt rs cs off c) : CellsAt (r.back rs ks M) cs off (mapL (unr0 ks M) c) := fun k v hk => by
  obtain ⟨u, hu, rfl⟩ := mapL_get hk
  obtain ⟨v', h1, h2⟩ := h k u hu
  exact ⟨v', h1, R0_back hd ha h2⟩
theorem rows_back {cs : Array Value} {off esz n : Nat} {row : Nat → List Value} (h5 : ∀ i, i < n → (row i).length = esz ∧ CellsAt rs cs (off + i * esz) (row i)) :
    ((∀ i, i < n → allL nad0 (row i) = true) → ∀ i, i < n → (row i).length = esz ∧ CellsAt (r.back rs ks M) cs (off + i * esz) (row i)) ∧ ∀ i, i < n → (mapL (unr0 ks M) (row i)).length = esz ∧ CellsAt (r.back rs ks M) cs (off + i * esz) (mapL (unr0 ks M) (row i)) := by
  refine ⟨fun hp i hi => ⟨(h5 i hi).1, fun k v hk => ?_⟩, fun i hi => ⟨by rw [mapL_length]; exact (h5 i hi).1, CellsAt_back hd ha (h5 i hi).2⟩⟩
  obtain ⟨v', g1, g2⟩ := (h5 i hi).2 k v hk
  have hpv := allL_iff.1 (hp i hi) v (List.mem_of_getElem? hk)
  exact ⟨v', g1, R0_nad hpv g2⟩
theorem BlkRel_back {w : World} {p : Place} {k : Blk} (h : BlkRel w rs p k) : BlkRel w (r.back rs ks M) p (unrB ks M k) := by
  cases k with
  | cells own esz c =>
    obtain ⟨h1, h2, cs, T, fz, h6, h3, h4, h5⟩ := h
    exact ⟨h1, h2, cs, T, fz, h6, h3, h4, CellsAt_back hd ha h5⟩
  | rows own pl esz n row =>
    obtain ⟨h1, h2, h0, hp, cs, T, fz, h6, h3, h4, h5⟩ := h
    cases pl with
    | true => exact ⟨h1, h2, h0, hp, cs, T, fz, h6, h3, h4, (rows_back (r := r) hd ha h5).1 (hp rfl)⟩
    | false => exact ⟨h1, h2, h0, (fun h => by cases h), cs, T, fz, h6, h3, h4, (rows_back (r := r) hd ha h5).2⟩
  | grow pl esz n row =>
    obtain ⟨h1, h2, h0, hp, cs, T, fz, h3, h4, h5⟩ := h
    cases pl with
    | true => exact ⟨h1, h2, h0, hp, cs, T, fz, h3, h4, (rows_back (r := r) hd ha h5).1 (hp rfl)⟩
    | false => exact ⟨h1, h2, h0, (fun h => by cases h), cs, T, fz, h3, h4, (rows_back (r := r) hd ha h5).2⟩
  | view pl esz n row =>
    obtain ⟨h1, h2, h0, hp, cs, T, fz, h3, h4, h5⟩ := h
    cases pl with
    | true => exact ⟨h1, h2, h0, hp, cs, T, fz, h3, h4, (rows_back (r := r) hd ha h5).1 (hp rfl)⟩
    | false => exact ⟨h1, h2, h0, (fun h => by cases h), cs, T, fz, h3, h4, (rows_back (r := r) hd ha h5).2⟩
  | _ => exact h
end
theorem unrB_no {ks : List Nat} {M : Nat} {k : Blk} : unrB ks M k = .no ↔ k = .no := by
  cases k with
  | rows own pl e n row => cases pl <;> simp [unrB]
  | grow pl e n row => cases pl <;> simp [unrB]
  | view pl e n row => cases pl <;> simp [unrB]
  | _ => simp [unrB]
theorem unrB_grow {ks : List Nat} {M : Nat} {k : Blk} (h : isGrow (some k)) : isGrow (some (unrB ks M k)) := by
  cases k with
  | grow pl e n row => cases pl <;> trivial
  | _ => exact h.elim
theorem RL_map_ren {r : Ren} {ks : List Nat} {l l' : List Value} (h : RL (R r) l l') : RL (R (r.via ks)) (mapL (renV ks) l) l' := RL_mapL (f := renV ks) (fun _ _ h => R_via h) h

/-- What is told of a call that is handed some blocks alone is told of it among others. -/
theorem MemSem.frame {P : Program} {f : FuncId} {args : List Value} {m ms : Mem} {v : Value} (ks : List Nat) (hd : noDup ks = true) (ha : allLt m.length ks = true) (hl : ks.length ≤ ms.length) (hnv : allB noViewB m = true)
    (h : MemSem P f (mapL (renV ks) args) (renM ks m ks) v ms) : MemSem P f args m (unrV ks m.length v) (framed ks m ms) := by
  refine ⟨h.1, fun w0 keep r args' w hargs hm => ?_⟩
  let oth : Nat → Prop := fun j => ∃ b p, b ∉ ks ∧ r b = some (some p) ∧ p.blk = j
  let kp : Keep := ⟨fun j => keep j ∨ oth j, keep.rd, fun j hj => Or.inl (keep.sub j hj)⟩
  have hv : ∀ {i : Nat} {q : Option Place}, (r.via ks) i = some q → ∃ b, ks[i]? = some b ∧ r b = some q := fun {i q} hq => by
    unfold Ren.via at hq
    split at hq
    · rename_i b hb; exact ⟨b, hb, hq⟩
    · cases hq
  have noV : ∀ {b : Nat} {p : Place}, r b = some (some p) → p.own = false → p.room = 0 := fun {b p} hb ho => by
    by_cases hz : p.room = 0
    · exact hz
    · exfalso
      obtain ⟨k, h1, h2⟩ := hm.blk b p hb
      have := h2.isView ho hz
      rw [allB_iff.1 hnv k (List.mem_of_getElem? h1)] at this
      cases this
  have hsm : MemRel w kp (r.via ks) (renM ks m ks) w := by
    have h0 := MemRel_via hm hd
    refine ⟨rfl, rfl, rfl, Nat.le_refl _, Nat.le_refl _, fun j hj => ?_, fun j _ => rfl, h0.none, h0.dead, h0.blk, fun i p hi ho hk => ?_, h0.read, fun i p hi ho hz => ?_, h0.sep, h0.inj⟩
    · rcases hj with hj | ⟨b, p, _, hb, rfl⟩
      · have := hm.klt j hj; have := hm.size; omega
      · obtain ⟨k, _, hk⟩ := hm.blk b p hb
        exact hk.lt
    · rcases hk with hk | ⟨c, q, hc, hq, he⟩
      · exact h0.own i p hi ho hk
      · obtain ⟨b, hb, hr⟩ := hv hi
        cases hqo : q.own with
        | true =>
          have := hm.inj b c p q hr hq ho hqo he.symm
          subst this
          exact hc (List.mem_of_getElem? hb)
        | false =>
          have k1 := hm.read c q hq hqo (noV hq hqo)
          rw [he] at k1
          exact hm.own b p hr ho (keep.sub _ k1)
    · obtain ⟨b, hb, hr⟩ := hv hi
      exact absurd (noV hr ho) hz
  refine (h.2 w kp (r.via ks) args' w (RL_map_ren hargs) hsm).mono ?_
  rintro e w' ⟨v', rs, rfl, g1, g2, g3⟩
  have hM : ∀ {b : Nat}, m.length ≤ b → r b = none := fun {b} hb => hm.none b (Or.inl (List.getElem?_eq_none hb))
  have hext : Ext r (r.back rs ks m.length) := by
    intro b
    unfold Ren.back
    by_cases hb : b ∈ ks
    · obtain ⟨i, hi⟩ := List.getElem?_of_mem hb
      have e1 : (r.via ks) i = r b := by simp [Ren.via, hi]
      simp only [idxN_of hd hi]
      have := g3 i
      rw [e1] at this
      exact this
    · simp only [idxN_not hb]
      split
      · exact Or.inr (Or.inl rfl)
      · exact Or.inl (hM (by omega))
  refine ⟨v', r.back rs ks m.length, rfl, R_back hd ha g1, ?_, hext⟩
  -- the memory
  have hget : ∀ b : Nat, (framed ks m ms)[b]? = match idxN b ks 0 with
      | some i => (ms[i]?).map (unrB ks m.length)
      | none => if b < m.length then m[b]? else (ms[ks.length + (b - m.length)]?).map (unrB ks m.length) := by
    intro b
    unfold framed
    by_cases hb : b ∈ ks
    · obtain ⟨i, hi⟩ := List.getElem?_of_mem hb
      have hlt := allLt_iff ha hi
      simp only [idxN_of hd hi]
      rw [List.getElem?_append_left (by rw [setK_length]; exact hlt)]
      exact setK_at ks ms m i hd ha hl hi
    · simp only [idxN_not hb]
      split
      · rename_i hlt
        rw [List.getElem?_append_left (by rw [setK_length]; exact hlt)]
        exact setK_not ks ms m hb
      · rename_i hlt
        rw [List.getElem?_append_right (by rw [setK_length]; omega), setK_length, mapB_get, List.getElem?_drop]
  have cases3 : ∀ {b : Nat} {q : Option Place}, (r.back rs ks m.length) b = some q → (∃ i, rs i = some q ∧ (framed ks m ms)[b]? = (ms[i]?).map (unrB ks m.length) ∧ unr ks m.length i = b) ∨ (b ∉ ks ∧ r b = some q ∧ (framed ks m ms)[b]? = m[b]? ∧ b < m.length) := by
    intro b q hq
    have hg := hget b
    unfold Ren.back at hq
    by_cases hb : b ∈ ks
    · obtain ⟨i, hi⟩ := List.getElem?_of_mem hb
      simp only [idxN_of hd hi] at hq hg
      exact Or.inl ⟨i, hq, hg, by simp [unr, hi]⟩
    · simp only [idxN_not hb] at hq hg
      split at hq
      · rename_i hlt
        rw [if_pos hlt] at hg
        exact Or.inr ⟨hb, hq, hg, hlt⟩
      · rename_i hlt
        rw [if_neg hlt] at hg
        refine Or.inl ⟨_, hq, hg, ?_⟩
        unfold unr
        rw [List.getElem?_eq_none (by omega)]
        simp only
        omega
  have hothk : ∀ {b : Nat} {p : Place}, b ∉ ks → r b = some (some p) → kp p.blk := fun {b p} hb hp => Or.inr ⟨b, p, hb, hp, rfl⟩
  refine ⟨g2.os.trans hm.os, g2.tape.trans hm.tape, g2.output.trans hm.output, Nat.le_trans hm.drawn g2.drawn, Nat.le_trans hm.size g2.size, hm.klt, fun j hj => ?_, fun b hb => ?_, fun b hb => ?_, fun b p hb => ?_, fun b p hb ho => ?_, fun b p hb ho hz => ?_, fun b p hb ho hz => ?_, fun b c p q hb hc hp hz hq he => ?_, fun b c p q hb hc hp hq he => ?_⟩
  · rw [g2.kept j (Or.inl hj)]; exact hm.kept j hj
  · rw [hget b] at hb
    unfold Ren.back
    by_cases hbk : b ∈ ks
    · obtain ⟨i, hi⟩ := List.getElem?_of_mem hbk
      simp only [idxN_of hd hi] at hb ⊢
      refine g2.none i ?_
      cases hmi : ms[i]? with
      | none => exact Or.inl rfl
      | some k =>
        rw [hmi] at hb
        simp only [Option.map_some] at hb
        rcases hb with hb | hb
        · cases hb
        · simp only [Option.some.injEq] at hb
          exact Or.inr (by rw [unrB_no.1 hb])
    · simp only [idxN_not hbk] at hb ⊢
      split
      · rename_i hlt
        rw [if_pos hlt] at hb
        exact hm.none b hb
      · rename_i hlt
        rw [if_neg hlt] at hb
        refine g2.none _ ?_
        cases hmi : ms[ks.length + (b - m.length)]? with
        | none => exact Or.inl rfl
        | some k =>
          rw [hmi] at hb
          simp only [Option.map_some] at hb
          rcases hb with hb | hb
          · cases hb
          · simp only [Option.some.injEq] at hb
            exact Or.inr (by rw [unrB_no.1 hb])
  · rcases cases3 hb with ⟨i, h1, h2, _⟩ | ⟨h1, h2, h3, _⟩
    · rw [h2, g2.dead i h1]; rfl
    · rw [h3]; exact hm.dead b h2
  · rcases cases3 hb with ⟨i, h1, h2, _⟩ | ⟨h1, h2, h3, _⟩
    · obtain ⟨k, h4, h5⟩ := g2.blk i p h1
      exact ⟨unrB ks m.length k, by rw [h2, h4]; rfl, BlkRel_back hd ha h5⟩
    · obtain ⟨k, h4, h5⟩ := hm.blk b p h2
      exact ⟨k, by rw [h3]; exact h4, h5.mono (g2.kept _ (hothk h1 h2)) hext⟩
  · rcases cases3 hb with ⟨i, h1, h2, _⟩ | ⟨h1, h2, h3, _⟩
    · exact fun hk => g2.own i p h1 ho (Or.inl hk)
    · exact hm.own b p h2 ho
  · rcases cases3 hb with ⟨i, h1, h2, _⟩ | ⟨h1, h2, h3, _⟩
    · exact g2.read i p h1 ho hz
    · exact hm.read b p h2 ho hz
  · rcases cases3 hb with ⟨i, h1, h2, _⟩ | ⟨h1, h2, h3, _⟩
    · exact fun hk => g2.vw i p h1 ho hz (Or.inl hk)
    · exact hm.vw b p h2 ho hz
  · rcases cases3 hb with ⟨i, h1, h2, _⟩ | ⟨h1, h2, h3, _⟩
    · rcases cases3 hc with ⟨j, k1, k2, k3⟩ | ⟨k1, k2, k3, _⟩
      · obtain ⟨s1, s2⟩ := g2.sep i j p q h1 k1 hp hz hq he
        rw [k2]
        cases hmj : ms[j]? with
        | none => rw [hmj] at s1; exact s1.elim
        | some k => rw [hmj] at s1; exact ⟨unrB_grow s1, s2⟩
      · exfalso
        refine g2.vw i p h1 hp hz ?_
        rw [← he]; exact hothk k1 k2
    · exact absurd (noV h2 hp) hz
  · rcases cases3 hb with ⟨i, h1, h2, h3⟩ | ⟨h1, h2, h3, _⟩
    · rcases cases3 hc with ⟨j, k1, k2, k3⟩ | ⟨k1, k2, k3, _⟩
      · have := g2.inj i j p q h1 k1 hp hq he
        subst this
        rw [← h3, ← k3]
      · exfalso
        refine g2.own i p h1 hp ?_
        rw [he]; exact hothk k1 k2
    · rcases cases3 hc with ⟨j, k1, k2, k3⟩ | ⟨k1, k2, k3, _⟩
      · exfalso
        refine g2.own j q k1 hq ?_
        rw [← he]; exact hothk h1 h2
      · exact hm.inj b c p q h2 k2 hp hq he
/-! ## Which blocks a call is handed -/
def dedupN : List Nat → List Nat → List Nat
  | [], _ => []
  | k :: l, seen => match hasN k seen with
    | true => dedupN l seen
    | false => k :: dedupN l (k :: seen)
def idsIn : List Value → List Nat
  | [] => []
  | v :: l => match adrOf v with
    | some b => b :: idsIn l
    | none => idsIn l
def catN : List Nat → List Nat → List Nat
  | [], l => l
  | k :: ks, l => k :: catN ks l
def cellIds (m : Mem) : List Nat → List Nat
  | [] => []
  | k :: l => match m[k]? with
    | some (.cells _ _ c) => catN (idsIn c) (cellIds m l)
    | _ => cellIds m l
def ksOf (args : List Value) (m : Mem) : List Nat := dedupN (catN (idsIn args) (cellIds m (idsIn args))) []
/-- What is told of a call where nothing is looked at any more as it was. -/
theorem MemSem.unview {P : Program} {f : FuncId} {args : List Value} {m m' : Mem} {v : Value} (h : MemSem P f args (killV m) v m') : MemSem P f args m v m' :=
  ⟨h.1, fun w0 keep r args' w ha hm => (h.2 w0 keep r.noV args' w (RL.mono (fun _ _ => R.ext r.noV_ext) ha) hm.unview).mono fun _ _ ⟨v', r', he, h1, h2, h3⟩ => ⟨v', r', he, h1, h2, r.noV_ext.trans h3⟩⟩
theorem MemSem.fresh {P : Program} {f : FuncId} {args : List Value} {m m' : Mem} {v : Value} (h : MemSem P f args (thaw (killV m)) v m') : MemSem P f args m v m' :=
  MemSem.unview ⟨h.1, fun w0 keep r args' w ha hm => h.2 w0 keep r args' w ha (hm.thawed (killV_none m))⟩
/-- What is told of a function that is handed some blocks alone, told of it among others. -/
def frameG (S : List Value → Mem → Option (Ans (Value × Mem))) (args : List Value) (m : Mem) : Option (Ans (Value × Mem)) :=
  forceN (ksOf args m) fun ks => match noDup ks && (allLt m.length ks && allB noViewB m) with
    | true => forceL (mapL (renV ks) args) fun ags => forceM (renM ks m ks) fun ms => match S ags ms with
      | some ans => some (ans.bind fun vm => match Nat.ble ks.length vm.2.length with
        | true => .out (unrV ks m.length vm.1, framed ks m vm.2)
        | false => .fail)
      | none => none
    | false => none
def frameF (S : List Value → Mem → Option (Ans (Value × Mem))) (args : List Value) (m : Mem) : Option (Ans (Value × Mem)) := forceM (thaw (killV m)) fun m => frameG S args m
theorem frameG_ok {P : Program} {f : FuncId} {S : List Value → Mem → Option (Ans (Value × Mem))} (h : ∀ args m ans v m', S args m = some ans → ans.res = some (v, m') → MemSem P f args m v m') {args : List Value} {m m' : Mem} {ans : Ans (Value × Mem)} {v : Value}
    (ha : frameG S args m = some ans) (hr : ans.res = some (v, m')) : MemSem P f args m v m' := by
  unfold frameG at ha
  rw [forceN_eq] at ha
  split at ha
  · rename_i hb
    rw [Bool.and_eq_true, Bool.and_eq_true] at hb
    rw [forceL_eq, forceM_eq] at ha
    split at ha
    · rename_i a2 hS
      simp only [Option.some.injEq] at ha
      subst ha
      obtain ⟨⟨u, mu⟩, h1, h2⟩ := Ans.bind_some hr
      simp only at h2
      split at h2
      · rename_i hle
        simp only [Ans.res, Option.some.injEq, Prod.mk.injEq] at h2
        obtain ⟨rfl, rfl⟩ := h2
        exact MemSem.frame _ hb.1 hb.2.1 (Nat.le_of_ble_eq_true hle) hb.2.2 (h _ _ _ _ _ hS h1)
      · simp [Ans.res] at h2
    · cases ha
  · cases ha
theorem frameF_ok {P : Program} {f : FuncId} {S : List Value → Mem → Option (Ans (Value × Mem))} (h : ∀ args m ans v m', S args m = some ans → ans.res = some (v, m') → MemSem P f args m v m') {args : List Value} {m m' : Mem} {ans : Ans (Value × Mem)} {v : Value}
    (ha : frameF S args m = some ans) (hr : ans.res = some (v, m')) : MemSem P f args m v m' := by
  unfold frameF at ha
  rw [forceM_eq] at ha
  exact (frameG_ok h ha hr).fresh
def Cx.addF (C : Cx) (f : FuncId) (S : List Value → Mem → Option (Ans (Value × Mem))) : Cx := C.addM f (frameF S)
theorem Cx.addF_ok {C : Cx} (hC : CxOk C) {f : FuncId} {S : List Value → Mem → Option (Ans (Value × Mem))} (h : ∀ args m ans v m', S args m = some ans → ans.res = some (v, m') → MemSem C.P f args m v m') : CxOk (C.addF f S) :=
  Cx.addM_ok hC fun _ _ _ _ _ ha hr => frameF_ok h ha hr
/-- A call that the executor runs. -/
theorem exFunA_ok {C : Cx} (hC : CxOk C) {n : Nat} {f : FuncId} {fn : Func} {args : List Value} {m m' : Mem} {v : Value} (hf : C.P.funcs[f]? = some fn) (hok : okFunc C.P f = true) (h : (exFunA (C.at f) n fn args m).res = some (v, m')) : MemSem C.P f args m v m' :=
  exFunA_sem (C := C.at f) (hC.at f) hf (okFunc_name hok hf) (Or.inl rfl) h

/-! ## What a call leaves, told shortly -/
def valL : Value → List Value
  | .tuple vs => vs.toList
  | v => [v]
/-- Blocks that were there keep their numbers; of those that were made the named ones are told. -/
def tidyA (B : Nat) (sp : List From) (vm : Value × Mem) : Ans (Value × Mem) :=
  forceN (keysOf ⟨valL vm.1, vm.2⟩ sp) fun ks => match noDup ks && idsTo B 0 ks with
    | true => forceV (renV ks vm.1) fun v => forceM (thaw (renM ks (killV vm.2) ks)) fun m => match allB noViewB (renM ks (killV vm.2) ks) with
      | true => .out (v, m)
      | false => .fail
    | false => .fail
theorem MemSem.tidy {P : Program} {f : FuncId} {args : List Value} {m m' m2 : Mem} {v v2 : Value} (h : MemSem P f args m v m') {sp : List From} (ht : (tidyA m.length sp (v, m')).res = some (v2, m2)) : MemSem P f args m v2 m2 := by
  refine ⟨h.1, fun w0 keep r args' w ha hm => (h.2 w0 keep r args' w ha hm).mono ?_⟩
  rintro e w' ⟨v', r', rfl, g1, g2, g3⟩
  unfold tidyA at ht
  rw [forceN_eq] at ht
  split at ht
  · rename_i hb
    rw [Bool.and_eq_true] at hb
    rw [forceV_eq, forceM_eq] at ht
    split at ht
    · rename_i hv
      simp only [Ans.res, Option.some.injEq, Prod.mk.injEq] at ht
      obtain ⟨rfl, rfl⟩ := ht
      have hx : Ext r r'.noV := g3.trans r'.noV_ext
      refine ⟨v', r'.noV.via (keysOf ⟨valL v, m'⟩ sp), rfl, R_via (R.ext r'.noV_ext g1), (MemRel_via g2.unview hb.1).thawed hv, fun b => ?_⟩
      by_cases hlt : b < m.length
      · have := idsTo_spec hb.2 (Nat.zero_le b) hlt
        simp only [Nat.sub_zero] at this
        have e1 : (r'.noV.via (keysOf ⟨valL v, m'⟩ sp)) b = r'.noV b := by simp [Ren.via, this]
        rw [e1]
        exact hx b
      · exact Or.inl (hm.none b (Or.inl (List.getElem?_eq_none (by omega))))
    · simp [Ans.res] at ht
  · simp [Ans.res] at ht
def exT (C : Cx) (n : Nat) (fn : Func) (args : List Value) (m : Mem) (sp : List From) : Option (Value × Mem) := ((exFunA C n fn args m).bind (tidyA m.length sp)).res
theorem exT_ok {C : Cx} (hC : CxOk C) {n : Nat} {f : FuncId} {fn : Func} {args : List Value} {m m' : Mem} {v : Value} {sp : List From} (hf : C.P.funcs[f]? = some fn) (hok : okFunc C.P f = true) (h : exT (C.at f) n fn args m sp = some (v, m')) : MemSem C.P f args m v m' := by
  unfold exT at h
  obtain ⟨⟨u, mu⟩, h1, h2⟩ := Ans.bind_some h
  exact (exFunA_sem (C := C.at f) (hC.at f) hf (okFunc_name hok hf) (Or.inl rfl) h1).tidy h2

/-! ## Rows that are alike as far as they go -/
def rowsLike (n : Nat) (f g : Nat → List Value) : Prop := ∀ i, i < n → f i = g i
/-! ## Exact floats are floats up to NaNs -/
def soft : Value → Value
  | .float k b => aF k b
  | .complex k a b => aC k a b
  | v => v
theorem R_soft {r : Ren} {v v' : Value} (h : R r v v') : R r (soft v) v' := by
  cases v with
  | float k b => exact R_fl h rfl
  | complex k a b => exact R_cx h rfl
  | _ => exact h
theorem R0_soft {r : Ren} {v v' : Value} (h : R0 r v v') : R0 r (soft v) v' := by
  cases v with
  | float k b => have h' : v' = .float k b := h; exact ⟨b, h', simF.refl _ _⟩
  | complex k a b => have h' : v' = .complex k a b := h; exact ⟨a, b, h', simF.refl _ _, simF.refl _ _⟩
  | _ => exact h
theorem nad0_soft {v : Value} (h : nad0 v = true) : nad0 (soft v) = true := by
  cases v with
  | float k b => rfl
  | complex k a b => rfl
  | _ => exact h
/-- Blocks that tell the same. -/
inductive Like : Blk → Blk → Prop
  | refl (b : Blk) : Like b b
  | rows {own pl : Bool} {e n : Nat} {f g : Nat → List Value} (h : rowsLike n f g) : Like (.rows own pl e n f) (.rows own pl e n g)
  | grow {pl : Bool} {e n : Nat} {f g : Nat → List Value} (h : rowsLike n f g) : Like (.grow pl e n f) (.grow pl e n g)
  | soft {own pl : Bool} {e n : Nat} {f g : Nat → List Value} (h : ∀ i, i < n → g i = mapL soft (f i)) : Like (.rows own pl e n f) (.rows own pl e n g)
theorem BlkRel.like {w : World} {r : Ren} {p : Place} {k k' : Blk} (h : BlkRel w r p k) (hl : Like k k') : BlkRel w r p k' := by
  cases hl with
  | refl => exact h
  | rows hf =>
    obtain ⟨h1, h2, h0, hp, cs, T, fz, h6, h3, h4, h5⟩ := h
    exact ⟨h1, h2, h0, fun hpl i hi => by rw [← hf i hi]; exact hp hpl i hi, cs, T, fz, h6, h3, h4, fun i hi => by rw [← hf i hi]; exact h5 i hi⟩
  | grow hf =>
    obtain ⟨h1, h2, h0, hp, cs, T, fz, h3, h4, h5⟩ := h
    exact ⟨h1, h2, h0, fun hpl i hi => by rw [← hf i hi]; exact hp hpl i hi, cs, T, fz, h3, h4, fun i hi => by rw [← hf i hi]; exact h5 i hi⟩
  | soft hf =>
    obtain ⟨h1, h2, h0, hp, cs, T, fz, h6, h3, h4, h5⟩ := h
    refine ⟨h1, h2, h0, fun hpl i hi => ?_, cs, T, fz, h6, h3, h4, fun i hi => ?_⟩
    · rw [hf i hi]
      refine allL_iff.2 fun x hx => ?_
      obtain ⟨k, hk⟩ := List.getElem?_of_mem hx
      obtain ⟨u, hu, rfl⟩ := mapL_get hk
      exact nad0_soft (allL_iff.1 (hp hpl i hi) u (List.mem_of_getElem? hu))
    · rw [hf i hi, mapL_length]
      refine ⟨(h5 i hi).1, fun k v hk => ?_⟩
      obtain ⟨u, hu, rfl⟩ := mapL_get hk
      obtain ⟨v', g1, g2⟩ := (h5 i hi).2 k u hu
      exact ⟨v', g1, R0_soft g2⟩
theorem Like.no {k k' : Blk} (h : Like k k') : k' = .no ↔ k = .no := by cases h <;> simp
theorem Like.isGrow {k k' : Blk} (h : Like k k') (hg : isGrow (some k)) : isGrow (some k') := by
  cases h with
  | refl => exact hg
  | rows hf => exact hg
  | grow hf => trivial
  | soft hf => exact hg
theorem Like.gone {k k' : Blk} (h : Like k k') : k' = .gone ↔ k = .gone := by cases h <;> simp
def LikeL : Mem → Mem → Prop
  | [], [] => True
  | a :: l, b :: l' => Like a b ∧ LikeL l l'
  | _, _ => False
theorem LikeL.get : ∀ {m m' : Mem}, LikeL m m' → ∀ (i : Nat), (m[i]? = none ∧ m'[i]? = none) ∨ ∃ k k', m[i]? = some k ∧ m'[i]? = some k' ∧ Like k k'
  | [], [], _, i => Or.inl ⟨by simp, by simp⟩
  | a :: l, b :: l', h, 0 => Or.inr ⟨a, b, rfl, rfl, h.1⟩
  | a :: l, b :: l', h, i + 1 => by simp only [List.getElem?_cons_succ]; exact LikeL.get h.2 i
  | [], _ :: _, h, _ => h.elim
  | _ :: _, [], h, _ => h.elim
theorem MemRel.like {w0 w : World} {keep : Keep} {r : Ren} {m m' : Mem} (h : MemRel w0 keep r m w) (hl : LikeL m m') : MemRel w0 keep r m' w := by
  refine ⟨h.os, h.tape, h.output, h.drawn, h.size, h.klt, h.kept, fun b hb => ?_, fun b hb => ?_, fun b p hb => ?_, h.own, h.read, h.vw, fun b c p q hb hc hp hz hq he => ?_, h.inj⟩
  · rcases hl.get b with ⟨h1, h2⟩ | ⟨k, k', h1, h2, h3⟩
    · exact h.none b (Or.inl h1)
    · rw [h2] at hb
      rcases hb with hb | hb
      · cases hb
      · simp only [Option.some.injEq] at hb
        exact h.none b (Or.inr (by rw [h1, h3.no.1 hb]))
  · rcases hl.get b with ⟨h1, h2⟩ | ⟨k, k', h1, h2, h3⟩
    · have := h.dead b hb; rw [h1] at this; cases this
    · have := h.dead b hb
      rw [h1] at this
      simp only [Option.some.injEq] at this
      rw [h2, h3.gone.2 this]
  · obtain ⟨k0, g1, g2⟩ := h.blk b p hb
    rcases hl.get b with ⟨h1, h2⟩ | ⟨k, k', h1, h2, h3⟩
    · rw [h1] at g1; cases g1
    · rw [h1] at g1
      simp only [Option.some.injEq] at g1
      subst g1
      exact ⟨k', h2, g2.like h3⟩
  · obtain ⟨g1, g2⟩ := h.sep b c p q hb hc hp hz hq he
    rcases hl.get c with ⟨h1, h2⟩ | ⟨k, k', h1, h2, h3⟩
    · rw [h1] at g1; exact g1.elim
    · rw [h1] at g1
      rw [h2]
      exact ⟨h3.isGrow g1, g2⟩
theorem MemSem.like {P : Program} {f : FuncId} {args : List Value} {m m2 m' : Mem} {v : Value} (h : MemSem P f args m2 v m') (hl : LikeL m m2) : MemSem P f args m v m' :=
  ⟨h.1, fun w0 keep r args' w ha hm => h.2 w0 keep r args' w ha (hm.like hl)⟩
/-- States that tell the same. -/
def StLike (s s' : St) : Prop := s.tmps = s'.tmps ∧ LikeL s.mem s'.mem
theorem LikeL.refl : ∀ (m : Mem), LikeL m m
  | [] => trivial
  | b :: m => ⟨.refl b, LikeL.refl m⟩
theorem StLike.refl (s : St) : StLike s s := ⟨rfl, LikeL.refl s.mem⟩
theorem Rel.like {w0 : World} {keep : Keep} {r0 : Ren} {s s' : St} {a : Act} {w : World} (h : Rel w0 keep r0 s a w) (hl : StLike s s') : Rel w0 keep r0 s' a w := by
  obtain ⟨r, hx, h1, h2, h3⟩ := h
  exact ⟨r, hx, h1, by rw [← hl.1]; exact h2, h3.like hl.2⟩
/-- A loop is told by its rounds, each up to what states tell. -/
theorem loop_rule2 {C : Cx} (hC : CxOk C) {f : FuncId} {B : Nat} {x : Code} (hin : InBody (C.into f B) x) (n : Nat) (mask mout : List Nat) (sp so : List From) {σ : Type} (H : σ → St) (μ : σ → Nat) (Inv : σ → Prop) (out : σ → Exit × St)
    (hstep : ∀ g, Inv g → (∃ g' st, roundR (C.into f B) n x mask mout sp so (H g) = some (.normal, st) ∧ StLike st (H g') ∧ Inv g' ∧ μ g' < μ g ∧ out g' = out g) ∨ (∃ st, roundR (C.into f B) n x mask mout sp so (H g) = some ((out g).1, st) ∧ StLike st (out g).2 ∧ (out g).1 ≠ .normal)) :
    ∀ g, Inv g → LoopSem C.P B x (H g) (out g).1 (out g).2 := by
  have leave : ∀ g st, roundR (C.into f B) n x mask mout sp so (H g) = some ((out g).1, st) → StLike st (out g).2 → (out g).1 ≠ .normal → LoopSem C.P B x (H g) (out g).1 (out g).2 := by
    intro g st h1 hl h2 Q w0 keep r0 a w hB hQ hr
    obtain ⟨⟨e1, s1⟩, h3, h4⟩ := Ans.bind_some h1
    refine LoopsTo.round ((exCode_sound hC n).1 f B x hin _ _ _ h3 _ w0 keep r0 a w hB ?_ hr)
    intro a' w' hr'
    obtain ⟨he, hs⟩ := clean_rel h4 hB hr'
    subst he
    have hs := hs.like hl
    revert h2 hQ hs
    cases (out g).1 <;> intro h2 hQ hs <;> first | exact absurd rfl h2 | exact hQ a' w' hs
  have key : ∀ k g, μ g ≤ k → Inv g → LoopSem C.P B x (H g) (out g).1 (out g).2 := by
    intro k
    induction k with
    | zero =>
      intro g hk hg
      rcases hstep g hg with ⟨g', st, _, _, _, hlt, _⟩ | ⟨st, h1, hl, h2⟩
      · omega
      · exact leave g st h1 hl h2
    | succ k ih =>
      intro g hk hg
      rcases hstep g hg with ⟨g', st, h1, hl, hg', hlt, ho⟩ | ⟨st, h1, hl, h2⟩
      · intro Q w0 keep r0 a w hB hQ hr
        obtain ⟨⟨e1, s1⟩, h3, h4⟩ := Ans.bind_some h1
        refine LoopsTo.round ((exCode_sound hC n).1 f B x hin _ _ _ h3 _ w0 keep r0 a w hB ?_ hr)
        intro a' w' hr'
        obtain ⟨he, hs⟩ := clean_rel h4 hB hr'
        subst he
        refine ih g' (by omega) hg' Q w0 keep r0 a' w' hB ?_ (hs.like hl)
        rw [ho]; exact hQ
      · exact leave g st h1 hl h2
  exact fun g hg => key (μ g) g (Nat.le_refl _) hg
theorem MemSem.likes {P : Program} {f : FuncId} {args : List Value} {m m' m2 : Mem} {v : Value} (h : MemSem P f args m v m') (hl : LikeL m' m2) : MemSem P f args m v m2 :=
  ⟨h.1, fun w0 keep r args' w ha hm => (h.2 w0 keep r args' w ha hm).mono fun _ _ ⟨v', r', he, h1, h2, h3⟩ => ⟨v', r', he, h1, h2.like hl, h3⟩⟩
theorem LoopSem.unview {P : Program} {B : Nat} {x : Code} {tm : List Value} {m : Mem} {s : St} {e : Exit} (h : LoopSem P B x ⟨tm, killV m⟩ e s) : LoopSem P B x ⟨tm, m⟩ e s := by
  intro Q w0 keep r0 a w hB hQ hr
  refine h Q w0 keep r0 a w hB hQ ?_
  obtain ⟨r, hx, h1, h2, h3⟩ := hr
  exact ⟨r.noV, hx.trans r.noV_ext, h1, RL.mono (fun _ _ => R.ext r.noV_ext) h2, h3.unview⟩
theorem LoopSem.likes {P : Program} {B : Nat} {x : Code} {st s s2 : St} {e : Exit} (h : LoopSem P B x st e s) (hl : StLike s s2) : LoopSem P B x st e s2 :=
  fun Q w0 keep r0 a w hB hQ hr => h Q w0 keep r0 a w hB (fun a w hs => hQ a w (hs.like hl)) hr
/-- Nothing is told any more of the memory behind a call. -/
def goneAll (n : Nat) : Mem := List.replicate n .gone
theorem MemSem.forget {P : Program} {f : FuncId} {args : List Value} {m m' : Mem} {v : Value} (h : MemSem P f args m v m') (hv : Vx.plain v = true) : MemSem P f args m v (goneAll m.length) := by
  refine ⟨h.1, fun w0 keep r args' w ha hm => (h.2 w0 keep r args' w ha hm).mono ?_⟩
  rintro e w' ⟨v', r', rfl, g1, g2, g3⟩
  refine ⟨v', fun b => if b < m.length then (match r' b with
    | none => none
    | some _ => some none) else none, rfl, (R_plain hv).2 ((R_plain hv).1 g1), ?_, fun b => ?_⟩
  · refine ⟨g2.os, g2.tape, g2.output, g2.drawn, g2.size, g2.klt, g2.kept, fun b hb => ?_, fun b hb => ?_, fun b p hb => ?_, fun b p hb => ?_, fun b p hb => ?_, fun b p hb => ?_, fun b c p q hb => ?_, fun b c p q hb => ?_⟩
    · split
      · rename_i hlt
        simp [goneAll, hlt] at hb
      · rfl
    · split at hb
      · rename_i hlt; simp [goneAll, hlt]
      · cases hb
    all_goals
      split at hb
      · split at hb <;> simp at hb
      · cases hb
  · by_cases hlt : b < m.length
    · simp only [if_pos hlt]
      rcases g3 b with h1 | h1 | ⟨⟨p, h1⟩, h2⟩ | ⟨p, h1, h2⟩
      · exact Or.inl h1
      · cases hr : r b with
        | none => exact Or.inl rfl
        | some q => rw [h1, hr]; exact Or.inr (Or.inr (Or.inl ⟨⟨q, rfl⟩, rfl⟩))
      · rw [h2]; exact Or.inr (Or.inr (Or.inl ⟨⟨p, h1⟩, rfl⟩))
      · rw [h2]; exact Or.inr (Or.inr (Or.inl ⟨⟨_, h1⟩, rfl⟩))
    · exact Or.inl (hm.none b (Or.inl (List.getElem?_eq_none (by omega))))
theorem LoopSem.fresh {P : Program} {B : Nat} {x : Code} {tm : List Value} {m : Mem} {s : St} {e : Exit} (h : LoopSem P B x ⟨tm, thaw (killV m)⟩ e s) : LoopSem P B x ⟨tm, m⟩ e s := by
  refine LoopSem.unview ?_
  intro Q w0 keep r0 a w hB hQ hr
  refine h Q w0 keep r0 a w hB hQ ?_
  obtain ⟨r, hx, h1, h2, h3⟩ := hr
  exact ⟨r, hx, h1, h2, h3.thawed (killV_none m)⟩
end Go.Proofs.Ytokdjjdmmahbiaa.Vx
