/-
  What a call does with the blocks that it is handed, it does among others. Nothing here is trusted.
-/
import Derived.Test.YtjpfnfckpgilgaaKae
import Derived.Test.YtjpfnfckpgilgaaProg

namespace Go.Proofs.Ytjpfnfckpgilgaa.Vx
open Go Go.RowKit

/-- The number, among M blocks, of the i-th of those that were handed over, or of one that was made behind them. -/
def unr (ks : List Nat) (M i : Nat) : Nat := match ks[i]? with
  | some b => b
  | none => M + (i - ks.length)
def unr0 (ks : List Nat) (M : Nat) : Value → Value
  | .pointer (some a) => .pointer (some ⟨unr ks M a.block, a.off, a.spot⟩)
  | .slice (some a) n e => .slice (some ⟨unr ks M a.block, a.off, a.spot⟩) n e
  | .map (some b) => .map (some (unr ks M b))
  | v => v
def unr1 (ks : List Nat) (M : Nat) : Value → Value
  | .agg cs => .agg (mapL (unr0 ks M) cs.toList).toArray
  | v => unr0 ks M v
def unrV (ks : List Nat) (M : Nat) : Value → Value
  | .tuple vs => .tuple (mapL (unr1 ks M) vs.toList).toArray
  | v => unr1 ks M v
def unrB (ks : List Nat) (M : Nat) : Blk → Blk
  | .cells own e c => .cells own e (mapL (unr0 ks M) c)
  | .rows own pl e n row => match pl with
    | true => .rows own true e n row
    | false => .rows own false e n fun i => mapL (unr0 ks M) (row i)
  | .grow pl e n row => match pl with
    | true => .grow true e n row
    | false => .grow false e n fun i => mapL (unr0 ks M) (row i)
  | .view pl e n row => match pl with
    | true => .view true e n row
    | false => .view false e n fun i => mapL (unr0 ks M) (row i)
  | b => b
def mapB (f : Blk → Blk) : Mem → Mem
  | [] => []
  | b :: l => f b :: mapB f l
def setK (f : Blk → Blk) (m : Mem) : List Nat → Mem → Mem
  | k :: ks, b :: bs => setK f (m.set k (f b)) ks bs
  | _, _ => m
def framed (ks : List Nat) (m ms : Mem) : Mem := setK (unrB ks m.length) m ks ms ++ mapB (unrB ks m.length) (ms.drop ks.length)
def allLt (M : Nat) : List Nat → Bool
  | [] => true
  | k :: ks => Nat.blt k M && allLt M ks

theorem allLt_iff {M : Nat} : ∀ {ks : List Nat}, allLt M ks = true → ∀ {i b : Nat}, ks[i]? = some b → b < M
  | [], _, i, b, h => by simp at h
  | k :: ks, hl, 0, b, h => by
    simp only [allLt, Bool.and_eq_true] at hl
    simp at h
    subst h
    exact Nat.blt_eq.mp hl.1
  | k :: ks, hl, i + 1, b, h => by
    simp only [allLt, Bool.and_eq_true] at hl
    simp only [List.getElem?_cons_succ] at h
    exact allLt_iff hl.2 h
theorem mapB_get {f : Blk → Blk} : ∀ (l : Mem) (i : Nat), (mapB f l)[i]? = (l[i]?).map f
  | [], i => by simp [mapB]
  | b :: l, 0 => by simp [mapB]
  | b :: l, i + 1 => by simp only [mapB, List.getElem?_cons_succ]; exact mapB_get l i
theorem setK_length {f : Blk → Blk} : ∀ (ks : List Nat) (bs m : Mem), (setK f m ks bs).length = m.length
  | [], [], m => rfl
  | [], _ :: _, m => rfl
  | k :: ks, [], m => rfl
  | k :: ks, b :: bs, m => by simp only [setK]; rw [setK_length ks bs]; simp
theorem setK_not {f : Blk → Blk} {c : Nat} : ∀ (ks : List Nat) (bs m : Mem), c ∉ ks → (setK f m ks bs)[c]? = m[c]?
  | [], [], m, _ => rfl
  | [], _ :: _, m, _ => rfl
  | k :: ks, [], m, _ => rfl
  | k :: ks, b :: bs, m, h => by
    simp only [List.mem_cons, not_or] at h
    simp only [setK]
    rw [setK_not ks bs _ h.2, List.getElem?_set_ne (fun e => h.1 e.symm)]
theorem setK_at {f : Blk → Blk} {c : Nat} : ∀ (ks : List Nat) (bs m : Mem) (i : Nat), noDup ks = true → allLt m.length ks = true → ks.length ≤ bs.length → ks[i]? = some c → (setK f m ks bs)[c]? = (bs[i]?).map f
  | [], bs, m, i, _, _, _, h => by simp at h
  | k :: ks, [], m, i, _, _, hl, h => by simp at hl
  | k :: ks, b :: bs, m, i, hd, ha, hl, h => by
    simp only [noDup, Bool.and_eq_true, Bool.not_eq_true'] at hd
    simp only [allLt, Bool.and_eq_true] at ha
    have hn : k ∉ ks := fun hm => by rw [hasN_iff.2 hm] at hd; cases hd.1
    have hk : k < m.length := Nat.blt_eq.mp ha.1
    simp only [setK]
    cases i with
    | zero =>
      simp at h
      subst h
      rw [setK_not ks bs _ hn, List.getElem?_set_self hk]
      simp
    | succ i =>
      simp only [List.getElem?_cons_succ] at h ⊢
      exact setK_at ks bs _ i hd.2 (by simpa using ha.2) (by simpa using hl) h
theorem idxN_of {ks : List Nat} (hd : noDup ks = true) {i b : Nat} (h : ks[i]? = some b) : idxN b ks 0 = some i := by
  have key : ∀ (l : List Nat) (j : Nat), b ∈ l → ∃ q, idxN b l j = some q := by
    intro l
    induction l with
    | nil => intro j hm; cases hm
    | cons x l ih =>
      intro j hm
      simp only [idxN]
      cases hb : Nat.beq x b with
      | true => exact ⟨_, rfl⟩
      | false =>
        rcases List.mem_cons.1 hm with rfl | hm
        · simp at hb
        · exact ih _ hm
  obtain ⟨q, hq⟩ := key ks 0 (List.mem_of_getElem? h)
  have := (idxN_spec hq).2
  simp only [Nat.sub_zero] at this
  rw [hq, noDup_inj hd this h]
theorem idxN_not {b : Nat} : ∀ {l : List Nat} {j : Nat}, b ∉ l → idxN b l j = none
  | [], _, _ => rfl
  | x :: l, j, h => by
    simp only [List.mem_cons, not_or] at h
    simp only [idxN]
    rw [show Nat.beq x b = false by
      cases hb : Nat.beq x b with
      | false => rfl
      | true => exact absurd (Nat.eq_of_beq_eq_true hb).symm h.1]
    exact idxN_not h.2

/-- Where blocks lie behind a call that was handed some of them. -/
def Ren.back (r rs : Ren) (ks : List Nat) (M : Nat) : Ren := fun b => match idxN b ks 0 with
  | some i => rs i
  | none => if b < M then r b else rs (ks.length + (b - M))
theorem back_unr {r rs : Ren} {ks : List Nat} {M : Nat} (hd : noDup ks = true) (ha : allLt M ks = true) (i : Nat) : (r.back rs ks M) (unr ks M i) = rs i := by
  unfold Ren.back unr
  cases hi : ks[i]? with
  | some b => simp only [idxN_of hd hi]
  | none =>
    have hl : ks.length ≤ i := List.getElem?_eq_none_iff.1 hi
    have hn : (M + (i - ks.length)) ∉ ks := fun hm => by
      obtain ⟨j, hj⟩ := List.getElem?_of_mem hm
      have := allLt_iff ha hj
      omega
    simp only [idxN_not hn]
    rw [if_neg (by omega)]
    congr 1; omega
theorem R1_nagg {r : Ren} {v v' : Value} (hn : ∀ cs, v ≠ .agg cs) : R1 r v v' ↔ R0 r v v' := by
  cases v with
  | agg cs => exact absurd rfl (hn cs)
  | _ => exact Iff.rfl
theorem unr1_nagg {ks : List Nat} {M : Nat} {v : Value} (hn : ∀ cs, v ≠ .agg cs) : unr1 ks M v = unr0 ks M v := by
  cases v with
  | agg cs => exact absurd rfl (hn cs)
  | _ => rfl
theorem unr0_nagg {ks : List Nat} {M : Nat} {v : Value} (hn : ∀ cs, v ≠ .agg cs) : ∀ cs, unr0 ks M v ≠ .agg cs := by
  intro cs
  cases v with
  | agg cs => exact absurd rfl (hn cs)
  | pointer a => cases a <;> simp [unr0]
  | slice a n c => cases a <;> simp [unr0]
  | map a => cases a <;> simp [unr0]
  | _ => simp [unr0]
theorem unrV_ntup {ks : List Nat} {M : Nat} {v : Value} (hn : ∀ cs, v ≠ .tuple cs) : unrV ks M v = unr1 ks M v := by
  cases v with
  | tuple cs => exact absurd rfl (hn cs)
  | _ => rfl
theorem unr1_ntup {ks : List Nat} {M : Nat} {v : Value} (hn : ∀ cs, v ≠ .tuple cs) : ∀ cs, unr1 ks M v ≠ .tuple cs := by
  intro cs
  cases v with
  | tuple cs => exact absurd rfl (hn cs)
  | pointer a => cases a <;> simp [unr1, unr0]
  | slice a n c => cases a <;> simp [unr1, unr0]
  | map a => cases a <;> simp [unr1, unr0]
  | _ => simp [unr1, unr0]
section
variable {r rs : Ren} {ks : List Nat} {M : Nat} (hd : noDup ks = true) (ha : allLt M ks = true)
include hd ha
theorem R0_back {v v' : Value} (h : R0 rs v v') : R0 (r.back rs ks M) (unr0 ks M v) v' := by
  unfold R0 at h
  cases v with
  | pointer a => cases a with
    | none => exact h
    | some a => simp only [unr0]; unfold R0; simp only [back_unr (r := r) (rs := rs) hd ha]; exact h
  | slice a n c => cases a with
    | none => exact h
    | some a => simp only [unr0]; unfold R0; simp only [back_unr (r := r) (rs := rs) hd ha]; exact h
  | map a => cases a with
    | none => exact h
    | some a => simp only [unr0]; unfold R0; simp only [back_unr (r := r) (rs := rs) hd ha]; exact h
  | iface t u => cases u <;> exact h
  | _ => exact h
theorem R1_back {v v' : Value} (h : R1 rs v v') : R1 (r.back rs ks M) (unr1 ks M v) v' := by
  by_cases hn : ∃ cs, v = .agg cs
  · obtain ⟨cs, rfl⟩ := hn
    obtain ⟨cs', rfl, h⟩ := h
    exact ⟨cs', rfl, by simpa using RL_mapL (f := unr0 ks M) (fun _ _ h => R0_back hd ha h) h⟩
  · have h0 := (R1_nagg fun cs e => hn ⟨cs, e⟩).1 h
    rw [unr1_nagg fun cs e => hn ⟨cs, e⟩]
    exact (R1_nagg (unr0_nagg fun cs e => hn ⟨cs, e⟩)).2 (R0_back hd ha h0)
theorem R_back {v v' : Value} (h : R rs v v') : R (r.back rs ks M) (unrV ks M v) v' := by
  by_cases hn : ∃ cs, v = .tuple cs
  · obtain ⟨cs, rfl⟩ := hn
    obtain ⟨cs', rfl, h⟩ := h
    exact ⟨cs', rfl, by simpa using RL_mapL (f := unr1 ks M) (fun _ _ h => R1_back hd ha h) h⟩
  · have h0 := (R1_R fun cs e => hn ⟨cs, e⟩).1 h
    rw [unrV_ntup fun cs e => hn ⟨cs, e⟩]
    exact (R1_R (unr1_ntup fun cs e => hn ⟨cs, e⟩)).2 (R1_back hd ha h0)
theorem CellsAt_back {cs : Array Value} {off : Nat} {c : List Value} (h : CellsAt rs cs off c) : CellsAt (r.back rs ks M) cs off (mapL (unr0 ks M) c) := fun k v hk => by
  obtain ⟨u, hu, rfl⟩ := mapL_get hk
  obtain ⟨v', h1, h2⟩ := h k u hu
  exact ⟨v', h1, R0_back hd ha h2⟩
theorem rows_back {cs : Array Value} {off esz n : Nat} {row : Nat → List Value} (h5 : ∀ i, i < n → (row i).length = esz ∧ CellsAt rs cs (off + i * esz) (row i)) :
    ((∀ i, i < n → allL plain0 (row i) = true) → ∀ i, i < n → (row i).length = esz ∧ CellsAt (r.back rs ks M) cs (off + i * esz) (row i)) ∧ ∀ i, i < n → (mapL (unr0 ks M) (row i)).length = esz ∧ CellsAt (r.back rs ks M) cs (off + i * esz) (mapL (unr0 ks M) (row i)) := by
  refine ⟨fun hp i hi => ⟨(h5 i hi).1, fun k v hk => ?_⟩, fun i hi => ⟨by rw [mapL_length]; exact (h5 i hi).1, CellsAt_back hd ha (h5 i hi).2⟩⟩
  obtain ⟨v', g1, g2⟩ := (h5 i hi).2 k v hk
  have hpv := allL_iff.1 (hp i hi) v (List.mem_of_getElem? hk)
  exact ⟨v', g1, (R0_plain hpv).2 ((R0_plain hpv).1 g2)⟩
theorem BlkRel_back {w : World} {p : Place} {k : Blk} (h : BlkRel w rs p k) : BlkRel w (r.back rs ks M) p (unrB ks M k) := by
  cases k with
  | cells own esz c =>
    obtain ⟨h1, h2, cs, T, fz, h6, h3, h4, h5⟩ := h
    exact ⟨h1, h2, cs, T, fz, h6, h3, h4, CellsAt_back hd ha h5⟩
  | rows own pl esz n row =>
    obtain ⟨h1, h2, h0, hp, cs, T, fz, h6, h3, h4, h5⟩ := h
    cases pl with
    | true => exact ⟨h1, h2, h0, hp, cs, T, fz, h6, h3, h4, (rows_back (r := r) hd ha h5).1 (hp rfl)⟩
    | false => exact ⟨h1, h2, h0, (fun h => by cases h), cs, T, fz, h6, h3, h4, (rows_back (r := r) hd ha h5).2⟩
  | grow pl esz n row =>
    obtain ⟨h1, h2, h0, hp, cs, T, fz, h3, h4, h5⟩ := h
    cases pl with
    | true => exact ⟨h1, h2, h0, hp, cs, T, fz, h3, h4, (rows_back (r := r) hd ha h5).1 (hp rfl)⟩
    | false => exact ⟨h1, h2, h0, (fun h => by cases h), cs, T, fz, h3, h4, (rows_back (r := r) hd ha h5).2⟩
  | view pl esz n row =>
    obtain ⟨h1, h2, h0, hp, cs, T, fz, h3, h4, h5⟩ := h
    cases pl with
    | true => exact ⟨h1, h2, h0, hp, cs, T, fz, h3, h4, (rows_back (r := r) hd ha h5).1 (hp rfl)⟩
    | false => exact ⟨h1, h2, h0, (fun h => by cases h), cs, T, fz, h3, h4, (rows_back (r := r) hd ha h5).2⟩
  | _ => exact h
end
theorem unrB_no {ks : List Nat} {M : Nat} {k : Blk} : unrB ks M k = .no ↔ k = .no := by
  cases k with
  | rows own pl e n row => cases pl <;> simp [unrB]
  | grow pl e n row => cases pl <;> simp [unrB]
  | view pl e n row => cases pl <;> simp [unrB]
  | _ => simp [unrB]
theorem unrB_grow {ks : List Nat} {M : Nat} {k : Blk} (h : isGrow (some k)) : isGrow (some (unrB ks M k)) := by
  cases k with
  | grow pl e n row => cases pl <;> trivial
  | _ => exact h.elim
theorem RL_map_ren {r : Ren} {ks : List Nat} {l l' : List Value} (h : RL (R r) l l') : RL (R (r.via ks)) (mapL (renV ks) l) l' := RL_mapL (f := renV ks) (fun _ _ h => R_via h) h

/-- What is told of a call that is handed some blocks alone is told of it among others. -/
theorem MemSem.frame {P : Program} {f : FuncId} {args : List Value} {m ms : Mem} {v : Value} (ks : List Nat) (hd : noDup ks = true) (ha : allLt m.length ks = true) (hl : ks.length ≤ ms.length) (hnv : allB noViewB m = true)
    (h : MemSem P f (mapL (renV ks) args) (renM ks m ks) v ms) : MemSem P f args m (unrV ks m.length v) (framed ks m ms) := by
  refine ⟨h.1, fun w0 keep r args' w hargs hm => ?_⟩
  let oth : Nat → Prop := fun j => ∃ b p, b ∉ ks ∧ r b = some (some p) ∧ p.blk = j
  let kp : Keep := ⟨fun j => keep j ∨ oth j, keep.rd, fun j hj => Or.inl (keep.sub j hj)⟩
  have hv : ∀ {i : Nat} {q : Option Place}, (r.via ks) i = some q → ∃ b, ks[i]? = some b ∧ r b = some q := fun {i q} hq => by
    unfold Ren.via at hq
    split at hq
    · rename_i b hb; exact ⟨b, hb, hq⟩
    · cases hq
  have noV : ∀ {b : Nat} {p : Place}, r b = some (some p) → p.own = false → p.room = 0 := fun {b p} hb ho => by
    by_cases hz : p.room = 0
    · exact hz
    · exfalso
      obtain ⟨k, h1, h2⟩ := hm.blk b p hb
      have := h2.isView ho hz
      rw [allB_iff.1 hnv k (List.mem_of_getElem? h1)] at this
      cases this
  have hsm : MemRel w kp (r.via ks) (renM ks m ks) w := by
    have h0 := MemRel_via hm hd
    refine ⟨rfl, rfl, rfl, Nat.le_refl _, Nat.le_refl _, fun j hj => ?_, fun j _ => rfl, h0.none, h0.dead, h0.blk, fun i p hi ho hk => ?_, h0.read, fun i p hi ho hz => ?_, h0.sep, h0.inj⟩
    · rcases hj with hj | ⟨b, p, _, hb, rfl⟩
      · have := hm.klt j hj; have := hm.size; omega
      · obtain ⟨k, _, hk⟩ := hm.blk b p hb
        exact hk.lt
    · rcases hk with hk | ⟨c, q, hc, hq, he⟩
      · exact h0.own i p hi ho hk
      · obtain ⟨b, hb, hr⟩ := hv hi
        cases hqo : q.own with
        | true =>
          have := hm.inj b c p q hr hq ho hqo he.symm
          subst this
          exact hc (List.mem_of_getElem? hb)
        | false =>
          have k1 := hm.read c q hq hqo (noV hq hqo)
          rw [he] at k1
          exact hm.own b p hr ho (keep.sub _ k1)
    · obtain ⟨b, hb, hr⟩ := hv hi
      exact absurd (noV hr ho) hz
  refine (h.2 w kp (r.via ks) args' w (RL_map_ren hargs) hsm).mono ?_
  rintro e w' ⟨v', rs, rfl, g1, g2, g3⟩
  have hM : ∀ {b : Nat}, m.length ≤ b → r b = none := fun {b} hb => hm.none b (Or.inl (List.getElem?_eq_none hb))
  have hext : Ext r (r.back rs ks m.length) := by
    intro b
    unfold Ren.back
    by_cases hb : b ∈ ks
    · obtain ⟨i, hi⟩ := List.getElem?_of_mem hb
      have e1 : (r.via ks) i = r b := by simp [Ren.via, hi]
      simp only [idxN_of hd hi]
      have := g3 i
      rw [e1] at this
      exact this
    · simp only [idxN_not hb]
      split
      · exact Or.inr (Or.inl rfl)
      · exact Or.inl (hM (by omega))
  refine ⟨v', r.back rs ks m.length, rfl, R_back hd ha g1, ?_, hext⟩
  -- the memory
  have hget : ∀ b : Nat, (framed ks m ms)[b]? = match idxN b ks 0 with
      | some i => (ms[i]?).map (unrB ks m.length)
      | none => if b < m.length then m[b]? else (ms[ks.length + (b - m.length)]?).map (unrB ks m.length) := by
    intro b
    unfold framed
    by_cases hb : b ∈ ks
    · obtain ⟨i, hi⟩ := List.getElem?_of_mem hb
      have hlt := allLt_iff ha hi
      simp only [idxN_of hd hi]
      rw [List.getElem?_append_left (by rw [setK_length]; exact hlt)]
      exact setK_at ks ms m i hd ha hl hi
    · simp only [idxN_not hb]
      split
      · rename_i hlt
        rw [List.getElem?_append_left (by rw [setK_length]; exact hlt)]
        exact setK_not ks ms m hb
      · rename_i hlt
        rw [List.getElem?_append_right (by rw [setK_length]; omega), setK_length, mapB_get, List.getElem?_drop]
  have cases3 : ∀ {b : Nat} {q : Option Place}, (r.back rs ks m.length) b = some q → (∃ i, rs i = some q ∧ (framed ks m ms)[b]? = (ms[i]?).map (unrB ks m.length) ∧ unr ks m.length i = b) ∨ (b ∉ ks ∧ r b = some q ∧ (framed ks m ms)[b]? = m[b]? ∧ b < m.length) := by
    intro b q hq
    have hg := hget b
    unfold Ren.back at hq
    by_cases hb : b ∈ ks
    · obtain ⟨i, hi⟩ := List.getElem?_of_mem hb
      simp only [idxN_of hd hi] at hq hg
      exact Or.inl ⟨i, hq, hg, by simp [unr, hi]⟩
    · simp only [idxN_not hb] at hq hg
      split at hq
      · rename_i hlt
        rw [if_pos hlt] at hg
        exact Or.inr ⟨hb, hq, hg, hlt⟩
      · rename_i hlt
        rw [if_neg hlt] at hg
        refine Or.inl ⟨_, hq, hg, ?_⟩
        unfold unr
        rw [List.getElem?_eq_none (by omega)]
        simp only
        omega
  have hothk : ∀ {b : Nat} {p : Place}, b ∉ ks → r b = some (some p) → kp p.blk := fun {b p} hb hp => Or.inr ⟨b, p, hb, hp, rfl⟩
  refine ⟨g2.os.trans hm.os, g2.tape.trans hm.tape, g2.output.trans hm.output, Nat.le_trans hm.drawn g2.drawn, Nat.le_trans hm.size g2.size, hm.klt, fun j hj => ?_, fun b hb => ?_, fun b hb => ?_, fun b p hb => ?_, fun b p hb ho => ?_, fun b p hb ho hz => ?_, fun b p hb ho hz => ?_, fun b c p q hb hc hp hz hq he => ?_, fun b c p q hb hc hp hq he => ?_⟩
  · rw [g2.kept j (Or.inl hj)]; exact hm.kept j hj
  · rw [hget b] at hb
    unfold Ren.back
    by_cases hbk : b ∈ ks
    · obtain ⟨i, hi⟩ := List.getElem?_of_mem hbk
      simp only [idxN_of hd hi] at hb ⊢
      refine g2.none i ?_
      cases hmi : ms[i]? with
      | none => exact Or.inl rfl
      | some k =>
        rw [hmi] at hb
        simp only [Option.map_some] at hb
        rcases hb with hb | hb
        · cases hb
        · simp only [Option.some.injEq] at hb
          exact Or.inr (by rw [unrB_no.1 hb])
    · simp only [idxN_not hbk] at hb ⊢
      split
      · rename_i hlt
        rw [if_pos hlt] at hb
        exact hm.none b hb
      · rename_i hlt
        rw [if_neg hlt] at hb
        refine g2.none _ ?_
        cases hmi : ms[ks.length + (b - m.length)]? with
        | none => exact Or.inl rfl
        | some k =>
          rw [hmi] at hb
          simp only [Option.map_some] at hb
          rcases hb with hb | hb
          · cases hb
          · simp only [Option.some.injEq] at hb
            exact Or.inr (by rw [unrB_no.1 hb])
  · rcases cases3 hb with ⟨i, h1, h2, _⟩ | ⟨h1, h2, h3, _⟩
    · rw [h2, g2.dead i h1]; rfl
    · rw [h3]; exact hm.dead b h2
  · rcases cases3 hb with ⟨i, h1, h2, _⟩ | ⟨h1, h2, h3, _⟩
    · obtain ⟨k, h4, h5⟩ := g2.blk i p h1
      exact ⟨unrB ks m.length k, by rw [h2, h4]; rfl, BlkRel_back hd ha h5⟩
    · obtain ⟨k, h4, h5⟩ := hm.blk b p h2
      exact ⟨k, by rw [h3]; exact h4, h5.mono (g2.kept _ (hothk h1 h2)) hext⟩
  · rcases cases3 hb with ⟨i, h1, h2, _⟩ | ⟨h1, h2, h3, _⟩
    · exact fun hk => g2.own i p h1 ho (Or.inl hk)
    · exact hm.own b p h2 ho
  · rcases cases3 hb with ⟨i, h1, h2, _⟩ | ⟨h1, h2, h3, _⟩
    · exact g2.read i p h1 ho hz
    · exact hm.read b p h2 ho hz
  · rcases cases3 hb with ⟨i, h1, h2, _⟩ | ⟨h1, h2, h3, _⟩
    · exact fun hk => g2.vw i p h1 ho hz (Or.inl hk)
    · exact hm.vw b p h2 ho hz
  · rcases cases3 hb with ⟨i, h1, h2, _⟩ | ⟨h1, h2, h3, _⟩
    · rcases cases3 hc with ⟨j, k1, k2, k3⟩ | ⟨k1, k2, k3, _⟩
      · obtain ⟨s1, s2⟩ := g2.sep i j p q h1 k1 hp hz hq he
        rw [k2]
        cases hmj : ms[j]? with
        | none => rw [hmj] at s1; exact s1.elim
        | some k => rw [hmj] at s1; exact ⟨unrB_grow s1, s2⟩
      · exfalso
        refine g2.vw i p h1 hp hz ?_
        rw [← he]; exact hothk k1 k2
    · exact absurd (noV h2 hp) hz
  · rcases cases3 hb with ⟨i, h1, h2, h3⟩ | ⟨h1, h2, h3, _⟩
    · rcases cases3 hc with ⟨j, k1, k2, k3⟩ | ⟨k1, k2, k3, _⟩
      · have := g2.inj i j p q h1 k1 hp hq he
        subst this
        rw [← h3, ← k3]
      · exfalso
        refine g2.own i p h1 hp ?_
        rw [he]; exact hothk k1 k2
    · rcases cases3 hc with ⟨j, k1, k2, k3⟩ | ⟨k1, k2, k3, _⟩
      · exfalso
        refine g2.own j q k1 hq ?_
        rw [← he]; exact hothk h1 h2
      · exact hm.inj b c p q h2 k2 hp hq he
/-! ## Which blocks a call is handed -/
def dedupN : List Nat → List Nat → List Nat
  | [], _ => []
  | k :: l, seen => match hasN k seen with
    | true => dedupN l seen
    | false => k :: dedupN l (k :: seen)
def idsIn : List Value → List Nat
  | [] => []
  | v :: l => match adrOf v with
    | some b => b :: idsIn l
    | none => idsIn l
def catN : List Nat → List Nat → List Nat
  | [], l => l
  | k :: ks, l => k :: catN ks l
def cellIds (m : Mem) : List Nat → List Nat
  | [] => []
  | k :: l => match m[k]? with
    | some (.cells _ _ c) => catN (idsIn c) (cellIds m l)
    | _ => cellIds m l
def ksOf (args : List Value) (m : Mem) : List Nat := dedupN (catN (idsIn args) (cellIds m (idsIn args))) []
/-- What is told of a call where nothing is looked at any more as it was. -/
theorem MemSem.unview {P : Program} {f : FuncId} {args : List Value} {m m' : Mem} {v : Value} (h : MemSem P f args (killV m) v m') : MemSem P f args m v m' :=
  ⟨h.1, fun w0 keep r args' w ha hm => (h.2 w0 keep r.noV args' w (RL.mono (fun _ _ => R.ext r.noV_ext) ha) hm.unview).mono fun _ _ ⟨v', r', he, h1, h2, h3⟩ => ⟨v', r', he, h1, h2, r.noV_ext.trans h3⟩⟩
theorem MemSem.fresh {P : Program} {f : FuncId} {args : List Value} {m m' : Mem} {v : Value} (h : MemSem P f args (thaw (killV m)) v m') : MemSem P f args m v m' :=
  MemSem.unview ⟨h.1, fun w0 keep r args' w ha hm => h.2 w0 keep r args' w ha (hm.thawed (killV_none m))⟩
/-- What is told of a function that is handed some blocks alone, told of it among others. -/
def frameG (S : List Value → Mem → Option (Ans (Value × Mem))) (args : List Value) (m : Mem) : Option (Ans (Value × Mem)) :=
  forceN (ksOf args m) fun ks => match noDup ks && (allLt m.length ks && allB noViewB m) with
    | true => forceL (mapL (renV ks) args) fun ags => forceM (renM ks m ks) fun ms => match S ags ms with
      | some ans => some (ans.bind fun vm => match Nat.ble ks.length vm.2.length with
        | true => .out (unrV ks m.length vm.1, framed ks m vm.2)
        | false => .fail)
      | none => none
    | false => none
def frameF (S : List Value → Mem → Option (Ans (Value × Mem))) (args : List Value) (m : Mem) : Option (Ans (Value × Mem)) := forceM (thaw (killV m)) fun m => frameG S args m
theorem frameG_ok {P : Program} {f : FuncId} {S : List Value → Mem → Option (Ans (Value × Mem))} (h : ∀ args m ans v m', S args m = some ans → ans.res = some (v, m') → MemSem P f args m v m') {args : List Value} {m m' : Mem} {ans : Ans (Value × Mem)} {v : Value}
    (ha : frameG S args m = some ans) (hr : ans.res = some (v, m')) : MemSem P f args m v m' := by
  unfold frameG at ha
  rw [forceN_eq] at ha
  split at ha
  · rename_i hb
    rw [Bool.and_eq_true, Bool.and_eq_true] at hb
    rw [forceL_eq, forceM_eq] at ha
    split at ha
    · rename_i a2 hS
      simp only [Option.some.injEq] at ha
      subst ha
      obtain ⟨⟨u, mu⟩, h1, h2⟩ := Ans.bind_some hr
      simp only at h2
      split at h2
      · rename_i hle
        simp only [Ans.res, Option.some.injEq, Prod.mk.injEq] at h2
        obtain ⟨rfl, rfl⟩ := h2
        exact MemSem.frame _ hb.1 hb.2.1 (Nat.le_of_ble_eq_true hle) hb.2.2 (h _ _ _ _ _ hS h1)
      · simp [Ans.res] at h2
    · cases ha
  · cases ha
theorem frameF_ok {P : Program} {f : FuncId} {S : List Value → Mem → Option (Ans (Value × Mem))} (h : ∀ args m ans v m', S args m = some ans → ans.res = some (v, m') → MemSem P f args m v m') {args : List Value} {m m' : Mem} {ans : Ans (Value × Mem)} {v : Value}
    (ha : frameF S args m = some ans) (hr : ans.res = some (v, m')) : MemSem P f args m v m' := by
  unfold frameF at ha
  rw [forceM_eq] at ha
  exact (frameG_ok h ha hr).fresh
def Cx.addF (C : Cx) (f : FuncId) (S : List Value → Mem → Option (Ans (Value × Mem))) : Cx := C.addM f (frameF S)
theorem Cx.addF_ok {C : Cx} (hC : CxOk C) {f : FuncId} {S : List Value → Mem → Option (Ans (Value × Mem))} (h : ∀ args m ans v m', S args m = some ans → ans.res = some (v, m') → MemSem C.P f args m v m') : CxOk (C.addF f S) :=
  Cx.addM_ok hC fun _ _ _ _ _ ha hr => frameF_ok h ha hr
/-- A call that the executor runs. -/
theorem exFunA_ok {C : Cx} (hC : CxOk C) {n : Nat} {f : FuncId} {fn : Func} {args : List Value} {m m' : Mem} {v : Value} (hf : C.P.funcs[f]? = some fn) (hok : okFunc C.P f = true) (h : (exFunA (C.at f) n fn args m).res = some (v, m')) : MemSem C.P f args m v m' :=
  exFunA_sem (C := C.at f) (hC.at f) hf (okFunc_name hok hf) (Or.inl rfl) h

/-! ## What a call leaves, told shortly -/
def valL : Value → List Value
  | .tuple vs => vs.toList
  | v => [v]
/-- Blocks that were there keep their numbers; of those that were made the named ones are told. -/
def tidyA (B : Nat) (sp : List From) (vm : Value × Mem) : Ans (Value × Mem) :=
  forceN (keysOf ⟨valL vm.1, vm.2⟩ sp) fun ks => match noDup ks && idsTo B 0 ks with
    | true => forceV (renV ks vm.1) fun v => forceM (thaw (renM ks (killV vm.2) ks)) fun m => match allB noViewB (renM ks (killV vm.2) ks) with
      | true => .out (v, m)
      | false => .fail
    | false => .fail
theorem MemSem.tidy {P : Program} {f : FuncId} {args : List Value} {m m' m2 : Mem} {v v2 : Value} (h : MemSem P f args m v m') {sp : List From} (ht : (tidyA m.length sp (v, m')).res = some (v2, m2)) : MemSem P f args m v2 m2 := by
  refine ⟨h.1, fun w0 keep r args' w ha hm => (h.2 w0 keep r args' w ha hm).mono ?_⟩
  rintro e w' ⟨v', r', rfl, g1, g2, g3⟩
  unfold tidyA at ht
  rw [forceN_eq] at ht
  split at ht
  · rename_i hb
    rw [Bool.and_eq_true] at hb
    rw [forceV_eq, forceM_eq] at ht
    split at ht
    · rename_i hv
      simp only [Ans.res, Option.some.injEq, Prod.mk.injEq] at ht
      obtain ⟨rfl, rfl⟩ := ht
      have hx : Ext r r'.noV := g3.trans r'.noV_ext
      refine ⟨v', r'.noV.via (keysOf ⟨valL v, m'⟩ sp), rfl, R_via (R.ext r'.noV_ext g1), (MemRel_via g2.unview hb.1).thawed hv, fun b => ?_⟩
      by_cases hlt : b < m.length
      · have := idsTo_spec hb.2 (Nat.zero_le b) hlt
        simp only [Nat.sub_zero] at this
        have e1 : (r'.noV.via (keysOf ⟨valL v, m'⟩ sp)) b = r'.noV b := by simp [Ren.via, this]
        rw [e1]
        exact hx b
      · exact Or.inl (hm.none b (Or.inl (List.getElem?_eq_none (by omega))))
    · simp [Ans.res] at ht
  · simp [Ans.res] at ht
def exT (C : Cx) (n : Nat) (fn : Func) (args : List Value) (m : Mem) (sp : List From) : Option (Value × Mem) := ((exFunA C n fn args m).bind (tidyA m.length sp)).res
theorem exT_ok {C : Cx} (hC : CxOk C) {n : Nat} {f : FuncId} {fn : Func} {args : List Value} {m m' : Mem} {v : Value} {sp : List From} (hf : C.P.funcs[f]? = some fn) (hok : okFunc C.P f = true) (h : exT (C.at f) n fn args m sp = some (v, m')) : MemSem C.P f args m v m' := by
  unfold exT at h
  obtain ⟨⟨u, mu⟩, h1, h2⟩ := Ans.bind_some h
  exact (exFunA_sem (C := C.at f) (hC.at f) hf (okFunc_name hok hf) (Or.inl rfl) h1).tidy h2

/-! ## Rows that are alike as far as they go -/
def rowsLike (n : Nat) (f g : Nat → List Value) : Prop := ∀ i, i < n → f i = g i
/-- Blocks that tell the same. -/
inductive Like : Blk → Blk → Prop
  | refl (b : Blk) : Like b b
  | rows {own pl : Bool} {e n : Nat} {f g : Nat → List Value} (h : rowsLike n f g) : Like (.rows own pl e n f) (.rows own pl e n g)
  | grow {pl : Bool} {e n : Nat} {f g : Nat → List Value} (h : rowsLike n f g) : Like (.grow pl e n f) (.grow pl e n g)
theorem BlkRel.like {w : World} {r : Ren} {p : Place} {k k' : Blk} (h : BlkRel w r p k) (hl : Like k k') : BlkRel w r p k' := by
  cases hl with
  | refl => exact h
  | rows hf =>
    obtain ⟨h1, h2, h0, hp, cs, T, fz, h6, h3, h4, h5⟩ := h
    exact ⟨h1, h2, h0, fun hpl i hi => by rw [← hf i hi]; exact hp hpl i hi, cs, T, fz, h6, h3, h4, fun i hi => by rw [← hf i hi]; exact h5 i hi⟩
  | grow hf =>
    obtain ⟨h1, h2, h0, hp, cs, T, fz, h3, h4, h5⟩ := h
    exact ⟨h1, h2, h0, fun hpl i hi => by rw [← hf i hi]; exact hp hpl i hi, cs, T, fz, h3, h4, fun i hi => by rw [← hf i hi]; exact h5 i hi⟩
theorem Like.no {k k' : Blk} (h : Like k k') : k' = .no ↔ k = .no := by cases h <;> simp
theorem Like.isGrow {k k' : Blk} (h : Like k k') (hg : isGrow (some k)) : isGrow (some k') := by
  cases h with
  | refl => exact hg
  | rows hf => exact hg
  | grow hf => trivial
theorem Like.gone {k k' : Blk} (h : Like k k') : k' = .gone ↔ k = .gone := by cases h <;> simp
def LikeL : Mem → Mem → Prop
  | [], [] => True
  | a :: l, b :: l' => Like a b ∧ LikeL l l'
  | _, _ => False
theorem LikeL.get : ∀ {m m' : Mem}, LikeL m m' → ∀ (i : Nat), (m[i]? = none ∧ m'[i]? = none) ∨ ∃ k k', m[i]? = some k ∧ m'[i]? = some k' ∧ Like k k'
  | [], [], _, i => Or.inl ⟨by simp, by simp⟩
  | a :: l, b :: l', h, 0 => Or.inr ⟨a, b, rfl, rfl, h.1⟩
  | a :: l, b :: l', h, i + 1 => by simp only [List.getElem?_cons_succ]; exact LikeL.get h.2 i
  | [], _ :: _, h, _ => h.elim
  | _ :: _, [], h, _ => h.elim
theorem MemRel.like {w0 w : World} {keep : Keep} {r : Ren} {m m' : Mem} (h : MemRel w0 keep r m w) (hl : LikeL m m') : MemRel w0 keep r m' w := by
  refine ⟨h.os, h.tape, h.output, h.drawn, h.size, h.klt, h.kept, fun b hb => ?_, fun b hb => ?_, fun b p hb => ?_, h.own, h.read, h.vw, fun b c p q hb hc hp hz hq he => ?_, h.inj⟩
  · rcases hl.get b with ⟨h1, h2⟩ | ⟨k, k', h1, h2, h3⟩
    · exact h.none b (Or.inl h1)
    · rw [h2] at hb
      rcases hb with hb | hb
      · cases hb
      · simp only [Option.some.injEq] at hb
        exact h.none b (Or.inr (by rw [h1, h3.no.1 hb]))
  · rcases hl.get b with ⟨h1, h2⟩ | ⟨k, k', h1, h2, h3⟩
    · have := h.dead b hb; rw [h1] at this; cases this
    · have := h.dead b hb
      rw [h1] at this
      simp only [Option.some.injEq] at this
      rw [h2, h3.gone.2 this]
  · obtain ⟨k0, g1, g2⟩ := h.blk b p hb
    rcases hl.get b with ⟨h1, h2⟩ | ⟨k, k', h1, h2, h3⟩
    · rw [h1] at g1; cases g1
    · rw [h1] at g1
      simp only [Option.some.injEq] at g1
      subst g1
      exact ⟨k', h2, g2.like h3⟩
  · obtain ⟨g1, g2⟩ := h.sep b c p q hb hc hp hz hq he
    rcases hl.get c with ⟨h1, h2⟩ | ⟨k, k', h1, h2, h3⟩
    · rw [h1] at g1; exact g1.elim
    · rw [h1] at g1
      rw [h2]
      exact ⟨h3.isGrow g1, g2⟩
theorem MemSem.like {P : Program} {f : FuncId} {args : List Value} {m m2 m' : Mem} {v : Value} (h : MemSem P f args m2 v m') (hl : LikeL m m2) : MemSem P f args m v m' :=
  ⟨h.1, fun w0 keep r args' w ha hm => h.2 w0 keep r args' w ha (hm.like hl)⟩
/-- States that tell the same. -/
def StLike (s s' : St) : Prop := s.tmps = s'.tmps ∧ LikeL s.mem s'.mem
theorem LikeL.refl : ∀ (m : Mem), LikeL m m
  | [] => trivial
  | b :: m => ⟨.refl b, LikeL.refl m⟩
theorem StLike.refl (s : St) : StLike s s := ⟨rfl, LikeL.refl s.mem⟩
theorem Rel.like {w0 : World} {keep : Keep} {r0 : Ren} {s s' : St} {a : Act} {w : World} (h : Rel w0 keep r0 s a w) (hl : StLike s s') : Rel w0 keep r0 s' a w := by
  obtain ⟨r, hx, h1, h2, h3⟩ := h
  exact ⟨r, hx, h1, by rw [← hl.1]; exact h2, h3.like hl.2⟩
/-- A loop is told by its rounds, each up to what states tell. -/
theorem loop_rule2 {C : Cx} (hC : CxOk C) {f : FuncId} {B : Nat} {x : Code} (hin : InBody (C.into f B) x) (n : Nat) (mask mout : List Nat) (sp so : List From) {σ : Type} (H : σ → St) (μ : σ → Nat) (Inv : σ → Prop) (out : σ → Exit × St)
    (hstep : ∀ g, Inv g → (∃ g' st, roundR (C.into f B) n x mask mout sp so (H g) = some (.normal, st) ∧ StLike st (H g') ∧ Inv g' ∧ μ g' < μ g ∧ out g' = out g) ∨ (∃ st, roundR (C.into f B) n x mask mout sp so (H g) = some ((out g).1, st) ∧ StLike st (out g).2 ∧ (out g).1 ≠ .normal)) :
    ∀ g, Inv g → LoopSem C.P B x (H g) (out g).1 (out g).2 := by
  have leave : ∀ g st, roundR (C.into f B) n x mask mout sp so (H g) = some ((out g).1, st) → StLike st (out g).2 → (out g).1 ≠ .normal → LoopSem C.P B x (H g) (out g).1 (out g).2 := by
    intro g st h1 hl h2 Q w0 keep r0 a w hB hQ hr
    obtain ⟨⟨e1, s1⟩, h3, h4⟩ := Ans.bind_some h1
    refine LoopsTo.round ((exCode_sound hC n).1 f B x hin _ _ _ h3 _ w0 keep r0 a w hB ?_ hr)
    intro a' w' hr'
    obtain ⟨he, hs⟩ := clean_rel h4 hB hr'
    subst he
    have hs := hs.like hl
    revert h2 hQ hs
    cases (out g).1 <;> intro h2 hQ hs <;> first | exact absurd rfl h2 | exact hQ a' w' hs
  have key : ∀ k g, μ g ≤ k → Inv g → LoopSem C.P B x (H g) (out g).1 (out g).2 := by
    intro k
    induction k with
    | zero =>
      intro g hk hg
      rcases hstep g hg with ⟨g', st, _, _, _, hlt, _⟩ | ⟨st, h1, hl, h2⟩
      · omega
      · exact leave g st h1 hl h2
    | succ k ih =>
      intro g hk hg
      rcases hstep g hg with ⟨g', st, h1, hl, hg', hlt, ho⟩ | ⟨st, h1, hl, h2⟩
      · intro Q w0 keep r0 a w hB hQ hr
        obtain ⟨⟨e1, s1⟩, h3, h4⟩ := Ans.bind_some h1
        refine LoopsTo.round ((exCode_sound hC n).1 f B x hin _ _ _ h3 _ w0 keep r0 a w hB ?_ hr)
        intro a' w' hr'
        obtain ⟨he, hs⟩ := clean_rel h4 hB hr'
        subst he
        refine ih g' (by omega) hg' Q w0 keep r0 a' w' hB ?_ (hs.like hl)
        rw [ho]; exact hQ
      · exact leave g st h1 hl h2
  exact fun g hg => key (μ g) g (Nat.le_refl _) hg
theorem MemSem.likes {P : Program} {f : FuncId} {args : List Value} {m m' m2 : Mem} {v : Value} (h : MemSem P f args m v m') (hl : LikeL m' m2) : MemSem P f args m v m2 :=
  ⟨h.1, fun w0 keep r args' w ha hm => (h.2 w0 keep r args' w ha hm).mono fun _ _ ⟨v', r', he, h1, h2, h3⟩ => ⟨v', r', he, h1, h2.like hl, h3⟩⟩
theorem LoopSem.unview {P : Program} {B : Nat} {x : Code} {tm : List Value} {m : Mem} {s : St} {e : Exit} (h : LoopSem P B x ⟨tm, killV m⟩ e s) : LoopSem P B x ⟨tm, m⟩ e s := by
  intro Q w0 keep r0 a w hB hQ hr
  refine h Q w0 keep r0 a w hB hQ ?_
  obtain ⟨r, hx, h1, h2, h3⟩ := hr
  exact ⟨r.noV, hx.trans r.noV_ext, h1, RL.mono (fun _ _ => R.ext r.noV_ext) h2, h3.unview⟩
theorem LoopSem.likes {P : Program} {B : Nat} {x : Code} {st s s2 : St} {e : Exit} (h : LoopSem P B x st e s) (hl : StLike s s2) : LoopSem P B x st e s2 :=
  fun Q w0 keep r0 a w hB hQ hr => h Q w0 keep r0 a w hB (fun a w hs => hQ a w (hs.like hl)) hr
/-- Nothing is told any more of the memory behind a call. -/
def goneAll (n : Nat) : Mem := List.replicate n .gone
theorem MemSem.forget {P : Program} {f : FuncId} {args : List Value} {m m' : Mem} {v : Value} (h : MemSem P f args m v m') (hv : Vx.plain v = true) : MemSem P f args m v (goneAll m.length) := by
  refine ⟨h.1, fun w0 keep r args' w ha hm => (h.2 w0 keep r args' w ha hm).mono ?_⟩
  rintro e w' ⟨v', r', rfl, g1, g2, g3⟩
  refine ⟨v', fun b => if b < m.length then (match r' b with
    | none => none
    | some _ => some none) else none, rfl, (R_plain hv).2 ((R_plain hv).1 g1), ?_, fun b => ?_⟩
  · refine ⟨g2.os, g2.tape, g2.output, g2.drawn, g2.size, g2.klt, g2.kept, fun b hb => ?_, fun b hb => ?_, fun b p hb => ?_, fun b p hb => ?_, fun b p hb => ?_, fun b p hb => ?_, fun b c p q hb => ?_, fun b c p q hb => ?_⟩
    · split
      · rename_i hlt
        simp [goneAll, hlt] at hb
      · rfl
    · split at hb
      · rename_i hlt; simp [goneAll, hlt]
      · cases hb
    all_goals
      split at hb
      · split at hb <;> simp at hb
      · cases hb
  · by_cases hlt : b < m.length
    · simp only [if_pos hlt]
      rcases g3 b with h1 | h1 | ⟨⟨p, h1⟩, h2⟩ | ⟨p, h1, h2⟩
      · exact Or.inl h1
      · cases hr : r b with
        | none => exact Or.inl rfl
        | some q => rw [h1, hr]; exact Or.inr (Or.inr (Or.inl ⟨⟨q, rfl⟩, rfl⟩))
      · rw [h2]; exact Or.inr (Or.inr (Or.inl ⟨⟨p, h1⟩, rfl⟩))
      · rw [h2]; exact Or.inr (Or.inr (Or.inl ⟨⟨_, h1⟩, rfl⟩))
    · exact Or.inl (hm.none b (Or.inl (List.getElem?_eq_none (by omega))))
theorem LoopSem.fresh {P : Program} {B : Nat} {x : Code} {tm : List Value} {m : Mem} {s : St} {e : Exit} (h : LoopSem P B x ⟨tm, thaw (killV m)⟩ e s) : LoopSem P B x ⟨tm, m⟩ e s := by
  refine LoopSem.unview ?_
  intro Q w0 keep r0 a w hB hQ hr
  refine h Q w0 keep r0 a w hB hQ ?_
  obtain ⟨r, hx, h1, h2, h3⟩ := hr
  exact ⟨r, hx, h1, h2, h3.thawed (killV_none m)⟩
end Go.Proofs.Ytjpfnfckpgilgaa.Vx


namespace Go.Proofs.Ytjpfnfckpgilgaa.Vx
open Go

/-! What both come to -/
def part1 (x : Int) : Bool := decide (0 ≤ x) && decide (x ≤ 23)
def V3.part (v : V3) : Bool := part1 v.x && (part1 v.y && part1 v.z)
theorem V3.part_iff {v : V3} : v.part = true ↔ (0 ≤ v.x ∧ v.x ≤ 23) ∧ (0 ≤ v.y ∧ v.y ≤ 23) ∧ (0 ≤ v.z ∧ v.z ≤ 23) := by
  simp [V3.part, part1]
theorem V3.md_part (v : V3) : (v.md 24).part = true := by rw [V3.part_iff]; unfold V3.md; simp only; omega
theorem V3.part_md {v : V3} (h : v.part = true) : v.md 24 = v := by
  rw [V3.part_iff] at h
  apply V3.ext'; unfold V3.md; simp only; omega
theorem V3.part_ok {v : V3} (h : v.part = true) : v.ok = true := by
  rw [V3.part_iff] at h; rw [V3.ok_iff]; unfold V3.Bd; omega
/-- What keeps a map from being in form. -/
def O3.ck (o : O3) : Int := bif o.t.part then o.r.form else 3
theorem O3.ck_zero {o : O3} : o.ck = 0 ↔ o.t.part = true ∧ o.r.ok = true ∧ o.r.U := by
  unfold O3.ck
  cases h : o.t.part with
  | true => simp only [cond_true, true_and]; exact M3.form_zero
  | false => simp
theorem O3.ck_cases (o : O3) : o.ck = 0 ∨ o.ck = 3 ∨ o.ck = 4 := by
  unfold O3.ck M3.form
  cases o.t.part <;> cases o.r.ok <;> cases unitB o.r.det <;> simp
def leastI (a b : Int) : Int := bif (a == 0 || b == 0) then (if b > a then b else a) else (if b < a then b else a)
def O3.one : O3 := ⟨M3.one, V3.zero⟩
def O3.mul (a b : O3) : O3 := ⟨a.r.mul b.r, ((a.r.app b.t).add a.t).md 24⟩
def O3.inv (o : O3) : O3 := ⟨o.r.inv, ((o.r.inv.app o.t).neg).md 24⟩
/-- A map, if its entries lie within bounds. -/
def O3.small (o : O3) : O3 := bif o.r.ok then o else O3.zero
def O3.smallE (o : O3) : Int := bif o.r.ok then 0 else 4
def pOE (o : O3) (e : Int) : Value := p2 o.v (vI e)
def O3.mulF (a b : O3) : O3 := bif leastI a.ck b.ck == 0 then (a.mul b).small else O3.zero
def O3.mulE (a b : O3) : Int := bif leastI a.ck b.ck == 0 then (a.mul b).smallE else leastI a.ck b.ck
def O3.invF (a : O3) : O3 := bif a.ck == 0 then a.inv.small else O3.zero
def O3.invE (a : O3) : Int := bif a.ck == 0 then a.inv.smallE else a.ck
theorem leastI_zero {a b : O3} : leastI a.ck b.ck = 0 ↔ a.ck = 0 ∧ b.ck = 0 := by
  rcases O3.ck_cases a with h | h | h <;> rcases O3.ck_cases b with k | k | k <;> rw [h, k] <;> decide

theorem bif_beq {a : Int} (h : a ≠ 0) : (a == 0) = false ∧ (a != 0) = true := by constructor <;> simpa using h

/-! op -/
def tAwake : Option Value := some (.bool true)
def fAwake : Value := .bool true
theorem tAwake_eq : tAwake = some fAwake := rfl
def tOCheck (o : O3) : Option Value := chainO mk1 [(decide (o.t.x < 0), [3]), (decide (o.t.x ≥ 24), [3]), (decide (o.t.y < 0), [3]), (decide (o.t.y ≥ 24), [3]), (decide (o.t.z < 0), [3]), (decide (o.t.z ≥ 24), [3])] [o.r.form]
def fOCheck (o : O3) : Value := vI o.ck
theorem part1_eq (x : Int) : part1 x = (!(decide (x < 0)) && !(decide (x ≥ 24))) := by
  unfold part1
  rw [Bool.eq_iff_iff]
  simp only [Bool.and_eq_true, decide_eq_true_eq, Bool.not_eq_true', decide_eq_false_iff_not]
  omega
theorem tOCheck_eq (o : O3) : tOCheck o = some (fOCheck o) := by
  unfold tOCheck fOCheck O3.ck V3.part
  rw [chain_eq, part1_eq, part1_eq, part1_eq]
  cases decide (o.t.x < 0) <;> cases decide (o.t.x ≥ 24) <;> cases decide (o.t.y < 0) <;> cases decide (o.t.y ≥ 24) <;> cases decide (o.t.z < 0) <;> cases decide (o.t.z ≥ 24) <;> rfl
def tCheckM (m : M3) : Option Value :=
  match m.ck != 0 with
  | true => some (vI m.ck)
  | false => match (bif m.ok then m.det else 0) != 1 with
    | true => match (bif m.ok then m.det else 0) != -1 with
      | true => some (vI 3)
      | false => some (vI 0)
    | false => some (vI 0)
def fCheckM (m : M3) : Value := vI m.form
theorem tCheckM_eq (m : M3) : tCheckM m = some (fCheckM m) := by
  unfold tCheckM fCheckM M3.form M3.ck
  cases m.ok
  · rfl
  · simp only [cond_true, bne_self_eq_false]
    by_cases h1 : m.det = 1
    · rw [h1]; rfl
    · by_cases h2 : m.det = -1
      · rw [h2]; rfl
      · have e1 : (m.det != 1) = true := by simpa using h1
        have e2 : (m.det != -1) = true := by simpa using h2
        have e3 : unitB m.det = false := by simp [unitB, h1, h2]
        rw [e1, e2, e3]; rfl
def tLeast (a b : Int) : Option Value :=
  match a == 0 with
  | true => some (vI (if b > a then b else a))
  | false => match b == 0 with
    | true => some (vI (if b > a then b else a))
    | false => some (vI (if b < a then b else a))
def fLeast (a b : Int) : Value := vI (leastI a b)
theorem tLeast_eq (a b : Int) : tLeast a b = some (fLeast a b) := by
  unfold tLeast fLeast leastI
  cases a == 0 <;> cases b == 0 <;> rfl
def O3.send (o : O3) (t : V3) : V3 := ((o.r.appF t).add o.t).md 24
def tSend (o : O3) (t : V3) : Option Value := some (fAdd (o.r.appF t) o.t)
def fSend (o : O3) (t : V3) : Value := (o.send t).v
theorem tSend_eq (o : O3) (t : V3) : tSend o t = some (fSend o t) := rfl
def M3.w (m : M3) : M3 := ⟨W m.a, W m.b, W m.c, W m.d, W m.e, W m.f, W m.g, W m.h, W m.i⟩
def V3.w (m : V3) : V3 := ⟨W m.x, W m.y, W m.z⟩
theorem M3.w_eq {m : M3} (h : m.Bd 9000000000000000000) : m.w = m := by
  obtain ⟨h0, h1, h2, h3, h4, h5, h6, h7, h8⟩ := h
  unfold M3.w
  rw [W_in h0, W_in h1, W_in h2, W_in h3, W_in h4, W_in h5, W_in h6, W_in h7, W_in h8]
theorem V3.w_eq {m : V3} (h : m.Bd 9000000000000000000) : m.w = m := by
  obtain ⟨h0, h1, h2⟩ := h
  unfold V3.w
  rw [W_in h0, W_in h1, W_in h2]
def M3.negW (m : M3) : M3 := ⟨W (0 - m.a), W (0 - m.b), W (0 - m.c), W (0 - m.d), W (0 - m.e), W (0 - m.f), W (0 - m.g), W (0 - m.h), W (0 - m.i)⟩
theorem M3.negW_eq {m : M3} (h : m.Bd 1000) : m.negW = m.neg := by
  unfold M3.Bd at h
  unfold M3.negW M3.neg
  rw [W_in (n := 0 - m.a) (by omega), W_in (n := 0 - m.b) (by omega), W_in (n := 0 - m.c) (by omega), W_in (n := 0 - m.d) (by omega), W_in (n := 0 - m.e) (by omega), W_in (n := 0 - m.f) (by omega), W_in (n := 0 - m.g) (by omega), W_in (n := 0 - m.h) (by omega), W_in (n := 0 - m.i) (by omega)]
  simp only [Int.zero_sub]
def tOpposite (m : M3) : Option Value := some m.negW.v
def fOpposite (m : M3) : Value := m.negW.v
theorem tOpposite_eq (m : M3) : tOpposite m = some (fOpposite m) := rfl
def tOForm (o : O3) : Option Value := some (.bool (o.ck == 0))
def fOForm (o : O3) : Value := .bool (o.ck == 0)
theorem tOForm_eq (o : O3) : tOForm o = some (fOForm o) := rfl
def tMake (m : M3) (t : V3) : Option Value :=
  match m.form != 0 with
  | true => some (pOE O3.zero m.form)
  | false => some (pOE ⟨m, (t.add V3.zero).md 24⟩ 0)
def O3.makeF (m : M3) (t : V3) : O3 := bif m.form == 0 then ⟨m, t.md 24⟩ else O3.zero
def fMake (m : M3) (t : V3) : Value := pOE (O3.makeF m t) m.form
theorem V3.add_zero (t : V3) : t.add V3.zero = t := by unfold V3.add V3.zero; simp
theorem tMake_eq (m : M3) (t : V3) : tMake m t = some (fMake m t) := by
  unfold tMake fMake O3.makeF
  rw [V3.add_zero]
  by_cases h : m.form = 0
  · rw [h]; rfl
  · rw [(bif_beq h).1, (bif_beq h).2]; rfl
def tOne : Option Value := some O3.one.v
def fOne : Value := O3.one.v
theorem tOne_eq : tOne = some fOne := rfl
def tOMul (a b : O3) : Option Value :=
  match leastI a.ck b.ck != 0 with
  | true => some (pOE O3.zero (leastI a.ck b.ck))
  | false => match (a.r.mulF b.r).ck != 0 with
    | true => some (pOE O3.zero (a.r.mulF b.r).ck)
    | false => some (pOE ⟨a.r.mulF b.r, a.send b.t⟩ 0)
def fOMul (a b : O3) : Value := pOE (a.mulF b) (a.mulE b)
theorem O3.send_eq {o : O3} {t : V3} (h : o.r.ok = true) (ht : t.ok = true) : o.send t = ((o.r.app t).add o.t).md 24 := by
  unfold O3.send M3.appF; rw [h, ht]; rfl
theorem tOMul_eq (a b : O3) : tOMul a b = some (fOMul a b) := by
  unfold tOMul fOMul O3.mulF O3.mulE
  by_cases h : leastI a.ck b.ck = 0
  · obtain ⟨ha, hb⟩ := leastI_zero.1 h
    obtain ⟨a1, a2, a3⟩ := O3.ck_zero.1 ha
    obtain ⟨b1, b2, b3⟩ := O3.ck_zero.1 hb
    have e : a.r.mulF b.r = a.r.mul b.r := by unfold M3.mulF; rw [a2, b2]; rfl
    rw [h, e, O3.send_eq a2 (V3.part_ok b1)]
    unfold O3.small O3.smallE M3.ck
    simp only [O3.mul]
    cases (a.r.mul b.r).ok <;> rfl
  · rw [(bif_beq h).1, (bif_beq h).2]; rfl
def tOInverse (o : O3) : Option Value :=
  match o.ck != 0 with
  | true => some (pOE O3.zero o.ck)
  | false => match o.r.invF.ck != 0 with
    | true => some (pOE O3.zero o.r.invF.ck)
    | false => some (pOE ⟨o.r.invF, ((o.r.invF.appF o.t).neg).md 24⟩ 0)
def fOInverse (o : O3) : Value := pOE o.invF o.invE
theorem tOInverse_eq (o : O3) : tOInverse o = some (fOInverse o) := by
  unfold tOInverse fOInverse O3.invF O3.invE
  by_cases h : o.ck = 0
  · obtain ⟨a1, a2, a3⟩ := O3.ck_zero.1 h
    have e : o.r.invF = o.r.inv := by unfold M3.invF; rw [M3.form_zero.2 ⟨a2, a3⟩]; rfl
    rw [h, e]
    unfold O3.small O3.smallE M3.ck O3.inv M3.appF
    rw [V3.part_ok a1]
    cases o.r.inv.ok <;> rfl
  · rw [(bif_beq h).1, (bif_beq h).2]; rfl
/-- The kind of a matrix. -/
def M3.kindF (m : M3) : Int := bif m.det == 1 then m.ordI else -m.neg.ordI
theorem M3.neg_ok {m : M3} (h : m.ok = true) : m.neg.ok = true := by
  rw [M3.ok_iff] at *; unfold M3.Bd M3.neg at *; simp only; omega
theorem M3.det_neg (m : M3) : m.neg.det = -m.det := by unfold M3.det M3.neg; grind
theorem M3.U_neg {m : M3} (h : m.U) : m.neg.U := by
  unfold M3.U at *; rw [M3.det_neg]; omega
def M3.kindE (m : M3) : Int := bif m.kindF == 0 then 9 else 0
def O3.kindF (o : O3) : Int := bif o.ck == 0 then o.r.kindF else 0
def O3.kindE (o : O3) : Int := bif o.ck == 0 then o.r.kindE else o.ck
def tKind (o : O3) : Option Value :=
  match o.ck != 0 with
  | true => some (p2 (vI 0) (vI o.ck))
  | false => match (bif o.r.ok then o.r.det else 0) == 1 with
    | true => some (p2 (vI o.r.ordF) (vI o.r.ordE))
    | false => some (p2 (vI (W (0 - o.r.negW.ordF))) (vI o.r.negW.ordE))
def fKind (o : O3) : Value := p2 (vI o.kindF) (vI o.kindE)
theorem M3.ordI_bd (m : M3) : 0 ≤ m.ordI ∧ m.ordI ≤ 6 := by
  unfold M3.ordI
  cases m.eqB M3.one <;> cases (m.pow 2).eqB M3.one <;> cases (m.pow 3).eqB M3.one <;> cases (m.pow 4).eqB M3.one <;> cases (m.pow 6).eqB M3.one <;> decide
theorem tKind_eq (o : O3) : tKind o = some (fKind o) := by
  unfold tKind fKind O3.kindF O3.kindE
  by_cases h : o.ck = 0
  · obtain ⟨a1, a2, a3⟩ := O3.ck_zero.1 h
    rw [h, a2]
    unfold M3.kindE M3.kindF
    simp only [cond_true, bne_self_eq_false, beq_self_eq_true]
    cases hd : o.r.det == 1 with
    | true => unfold M3.ordF M3.ordE; rw [M3.form_zero.2 ⟨a2, a3⟩]; rfl
    | false =>
      rw [M3.negW_eq (M3.ok_iff.1 a2)]
      unfold M3.ordF M3.ordE
      rw [M3.form_zero.2 ⟨M3.neg_ok a2, M3.U_neg a3⟩]
      have := M3.ordI_bd o.r.neg
      simp only [beq_self_eq_true, cond_true, cond_false]
      rw [W_in (by omega), Int.zero_sub]
      congr 2
      have e : (o.r.neg.ordI == 0) = (-o.r.neg.ordI == 0) := beq_of_iff (by simp only [beq_iff_eq]; omega)
      rw [e]
  · rw [(bif_beq h).1, (bif_beq h).2]; rfl
/-- Apply. -/
def O3.app (o : O3) (p : P3) : P3 := ⟨p.m, ((o.r.app p.x).add (o.t.smul (p.m / 24))).md p.m⟩
def O3.appE (o : O3) (p : P3) : Int := bif p.form then o.ck else 3
def O3.appF (o : O3) (p : P3) : P3 := bif o.appE p == 0 then o.app p else P3.zero
def O3.appL (o : O3) (p : P3) : Int := bif !p.form then leastI o.ck 3 else o.ck
def tOApplyEnd (o : O3) (p : P3) (e : Int) : Option Value :=
  match e != 0 with
  | true => some (p2 P3.zero.v (vI e))
  | false => some (fShift (P3.place p.m (o.r.appF p.x)) o.t)
def tOApply (o : O3) (p : P3) : Option Value :=
  match !p.form with
  | true => tOApplyEnd o p (leastI o.ck 3)
  | false => tOApplyEnd o p o.ck
def fOApply (o : O3) (p : P3) : Value := p2 (o.appF p).v (vI (o.appE p))
theorem md_add_md (m : Int) (u v : V3) : ((u.md m).add v).md m = (u.add v).md m := by
  unfold V3.md V3.add
  simp only [Int.emod_add_emod]
theorem md_md (m : Int) (u : V3) : (u.md m).md m = u.md m := by
  unfold V3.md; simp only [Int.emod_emod]
theorem P3.x_ok {p : P3} (h : p.form = true) : p.x.ok = true := by
  obtain ⟨hm, h1, h2, h3⟩ := P3.form_spec h
  rw [V3.ok_iff]; unfold V3.Bd; omega
theorem tOApply_eq (o : O3) (p : P3) : tOApply o p = some (fOApply o p) := by
  unfold tOApply fOApply O3.appF O3.appE tOApplyEnd
  cases hp : p.form with
  | false =>
    have e : leastI o.ck 3 = 3 := by rcases O3.ck_cases o with h | h | h <;> rw [h] <;> rfl
    simp only [Bool.not_false, e]
    rfl
  | true =>
    simp only [Bool.not_true, cond_true]
    by_cases h : o.ck = 0
    · obtain ⟨a1, a2, a3⟩ := O3.ck_zero.1 h
      obtain ⟨hm, h1, h2, h3⟩ := P3.form_spec hp
      have hF : isF p.m = true := isF_iff.2 hm
      have e1 : P3.place p.m (o.r.appF p.x) = ⟨p.m, (o.r.app p.x).md p.m⟩ := by
        unfold P3.place M3.appF; rw [hF, a2, P3.x_ok hp]; rfl
      have e2 : P3.form ⟨p.m, (o.r.app p.x).md p.m⟩ = true := by
        unfold P3.form
        simp only [hF, md_md, V3.eqB_refl, Bool.and_self]
      rw [h, e1]
      unfold fShift
      rw [e2]
      simp only [bne_self_eq_false, beq_self_eq_true, cond_true]
      unfold P3.shift O3.app
      rw [md_add_md]
    · rw [(bif_beq h).1, (bif_beq h).2]; rfl

/-! The document's answer -/
def tMod (n m : Int) : Option Value := match m == 0 with
  | true => none
  | false => match m == 0 with
    | true => none
    | false => some (vI (Int.tmod (W (Int.tmod n m + m)) m))
theorem tMod_eq {n m : Int} (h : modB m = true) : tMod n m = some (vI (n % m)) := by
  obtain ⟨h0, h1⟩ := modB_iff.1 h
  have e : (m == 0) = false := by simp; omega
  unfold tMod
  rw [e]
  have hb := tmod_bd n m h0
  have e2 := Int.tmod_add_mul_tdiv n m
  have e3 : (n.tmod m) % m = n % m := by
    conv => rhs; rw [← e2]
    rw [Int.add_mul_emod_self_left]
  simp only
  rw [W_in (by omega), Int.tmod_eq_emod_of_nonneg (by omega), Int.add_emod_right, e3]
def tRDet (m : M3) : Option Value := some (vI (W (W (W (0 + W (m.a * minR m.e m.i m.f m.h)) + W (m.b * minR m.f m.g m.d m.i)) + W (m.c * minR m.d m.h m.e m.g))))
def fRDet (m : M3) : Value := vI (W m.det)
theorem tRDet_eq (m : M3) : tRDet m = some (fRDet m) := by
  unfold tRDet fRDet
  rw [← detW_W, Int.zero_add, W_W]; rfl
def tWithinM (m : M3) : Option Value := guardF [decide (m.a < -1000), decide (m.a > 1000), decide (m.b < -1000), decide (m.b > 1000), decide (m.c < -1000), decide (m.c > 1000), decide (m.d < -1000), decide (m.d > 1000), decide (m.e < -1000), decide (m.e > 1000), decide (m.f < -1000), decide (m.f > 1000), decide (m.g < -1000), decide (m.g > 1000), decide (m.h < -1000), decide (m.h > 1000), decide (m.i < -1000), decide (m.i > 1000)] (some (.bool true))
def fWithinM (m : M3) : Value := .bool m.ok
theorem guardF_all : ∀ (ts : List Bool), guardF ts (some (.bool true)) = some (.bool (ts.all (!·)))
  | [] => rfl
  | true :: ts => rfl
  | false :: ts => by simp only [guardF, List.all_cons, Bool.not_false, Bool.true_and]; exact guardF_all ts
theorem tWithinM_eq (m : M3) : tWithinM m = some (fWithinM m) := by
  unfold tWithinM fWithinM
  rw [guardF_all]
  congr 2
  rw [Bool.eq_iff_iff, M3.ok_iff]
  unfold M3.Bd
  simp only [List.all_cons, List.all_nil, Bool.and_true, Bool.and_eq_true, Bool.not_eq_true', decide_eq_false_iff_not]
  omega
def tPart (v : V3) : Option Value := guardF [decide (v.x < 0), decide (v.x > 23), decide (v.y < 0), decide (v.y > 23), decide (v.z < 0), decide (v.z > 23)] (some (.bool true))
def fPart (v : V3) : Value := .bool v.part
theorem tPart_eq (v : V3) : tPart v = some (fPart v) := by
  unfold tPart fPart
  rw [guardF_all]
  congr 2
  rw [Bool.eq_iff_iff, V3.part_iff]
  simp only [List.all_cons, List.all_nil, Bool.and_true, Bool.and_eq_true, Bool.not_eq_true', decide_eq_false_iff_not]
  omega
def tTimesM (m n : M3) : Option Value := some (M3.v ⟨rdot m.a m.b m.c n.a n.d n.g, rdot m.a m.b m.c n.b n.e n.h, rdot m.a m.b m.c n.c n.f n.i, rdot m.d m.e m.f n.a n.d n.g, rdot m.d m.e m.f n.b n.e n.h, rdot m.d m.e m.f n.c n.f n.i, rdot m.g m.h m.i n.a n.d n.g, rdot m.g m.h m.i n.b n.e n.h, rdot m.g m.h m.i n.c n.f n.i⟩)
def fTimesM (m n : M3) : Value := (m.mul n).w.v
theorem tTimesM_eq (m n : M3) : tTimesM m n = some (fTimesM m n) := by
  unfold tTimesM fTimesM
  simp only [rdot_eq, dotR_W]
  rfl
def tColumn (m : M3) (v : V3) : Option Value := some (V3.v ⟨rdot m.a m.b m.c v.x v.y v.z, rdot m.d m.e m.f v.x v.y v.z, rdot m.g m.h m.i v.x v.y v.z⟩)
def fColumn (m : M3) (v : V3) : Value := (m.app v).w.v
theorem tColumn_eq (m : M3) (v : V3) : tColumn m v = some (fColumn m v) := by
  unfold tColumn fColumn
  simp only [rdot_eq, dotR_W]
  rfl
def tBring (v : V3) (m : Int) : Option Value := onO (modB m) (onO (modB m) (onO (modB m) (some (v.md m).v)))
theorem tBring_eq {v : V3} {m : Int} (h : modB m = true) : tBring v m = some (v.md m).v := by
  unfold tBring; simp only [onO_true h]
def tRAdd (u v : V3) : Option Value := some (u.add v).w.v
def fRAdd (u v : V3) : Value := (u.add v).w.v
theorem tRAdd_eq (u v : V3) : tRAdd u v = some (fRAdd u v) := rfl
end Go.Proofs.Ytjpfnfckpgilgaa.Vx


namespace Go.Proofs.Ytjpfnfckpgilgaa
open Go Vx

def inlined : List Nat := [13, 14, 16, 17, 20, 21, 22, 23, 24, 25, 26, 27, 28, 29, 30, 31, 32, 33, 34, 35, 36, 37, 41, 43, 44, 45, 47, 48, 49, 50, 51, 52, 53, 54, 55, 56, 57, 58, 59, 60, 61, 62, 63, 64, 65, 66, 67, 68, 69, 70, 71, 72, 73, 74, 75, 76, 77, 80, 81, 84, 85, 86, 87, 88, 89, 90, 91, 92, 93, 94, 95, 96, 98, 99, 100, 101, 102, 103, 104, 105, 106, 107, 109, 112, 113, 117, 118, 119, 120, 121, 123, 124, 125, 126, 127, 128, 129, 131, 132, 133, 144, 145, 154, 155, 156, 157, 158, 167, 168, 169, 170, 173]
def C0 (P : Program) : Cx := base P inlined
theorem ok0 : CxOk (C0 Try.prog) := base_ok (by kernel_rfl) (by kernel_rfl)
/-- vec.within -/
theorem e1 (a0 a1 a2 b : Int) : exFun ((C0 Try.prog).at 100) 60 Try.f100 (pack [some 3, none] [a0, a1, a2, b]) = tWithin ⟨a0, a1, a2⟩ b := by kernel_rfl
def F_100 : List Int → Option Value
  | [a0, a1, a2, b] => some (fWithin ⟨a0, a1, a2⟩ b)
  | _ => none
def C1 (P : Program) : Cx := (C0 P).add 100 [some 3, none] F_100
theorem ok1 : CxOk (C1 Try.prog) := Cx.add_ok ok0 (n := 60) Try.func100 (by kernel_rfl) fun l v hl h => by
  match l, hl, h with
  | [a0, a1, a2, b], _, hh => rw [e1, tWithin_eq]; exact hh
/-- vec.Check -/
theorem e2 (a0 a1 a2 a3 a4 a5 a6 a7 a8 : Int) : exFun ((C1 Try.prog).at 99) 60 Try.f99 (pack [some 9] [a0, a1, a2, a3, a4, a5, a6, a7, a8]) = tCheck ⟨a0, a1, a2, a3, a4, a5, a6, a7, a8⟩ := by kernel_rfl
def F_99 : List Int → Option Value
  | [a0, a1, a2, a3, a4, a5, a6, a7, a8] => some (fCheck ⟨a0, a1, a2, a3, a4, a5, a6, a7, a8⟩)
  | _ => none
def C2 (P : Program) : Cx := (C1 P).add 99 [some 9] F_99
theorem ok2 : CxOk (C2 Try.prog) := Cx.add_ok ok1 (n := 60) Try.func99 (by kernel_rfl) fun l v hl h => by
  match l, hl, h with
  | [a0, a1, a2, a3, a4, a5, a6, a7, a8], _, hh => rw [e2, tCheck_eq]; exact hh
/-- vec.checkBoth -/
theorem e3 (a0 a1 a2 a3 a4 a5 a6 a7 a8 b0 b1 b2 : Int) : exFun ((C2 Try.prog).at 55) 60 Try.f55 (pack [some 9, some 3] [a0, a1, a2, a3, a4, a5, a6, a7, a8, b0, b1, b2]) = tBoth ⟨a0, a1, a2, a3, a4, a5, a6, a7, a8⟩ ⟨b0, b1, b2⟩ := by kernel_rfl
def F_55 : List Int → Option Value
  | [a0, a1, a2, a3, a4, a5, a6, a7, a8, b0, b1, b2] => some (fBoth ⟨a0, a1, a2, a3, a4, a5, a6, a7, a8⟩ ⟨b0, b1, b2⟩)
  | _ => none
def C3 (P : Program) : Cx := (C2 P).add 55 [some 9, some 3] F_55
theorem ok3 : CxOk (C3 Try.prog) := Cx.add_ok ok2 (n := 60) Try.func55 (by kernel_rfl) fun l v hl h => by
  match l, hl, h with
  | [a0, a1, a2, a3, a4, a5, a6, a7, a8, b0, b1, b2], _, hh => rw [e3, tBoth_eq]; exact hh
/-- vec.Mul -/
theorem e4 (a0 a1 a2 a3 a4 a5 a6 a7 a8 b0 b1 b2 b3 b4 b5 b6 b7 b8 : Int) : exFun ((C3 Try.prog).at 157) 60 Try.f157 (pack [some 9, some 9] [a0, a1, a2, a3, a4, a5, a6, a7, a8, b0, b1, b2, b3, b4, b5, b6, b7, b8]) = tMul ⟨a0, a1, a2, a3, a4, a5, a6, a7, a8⟩ ⟨b0, b1, b2, b3, b4, b5, b6, b7, b8⟩ := by kernel_rfl
def F_157 : List Int → Option Value
  | [a0, a1, a2, a3, a4, a5, a6, a7, a8, b0, b1, b2, b3, b4, b5, b6, b7, b8] => some (fMul ⟨a0, a1, a2, a3, a4, a5, a6, a7, a8⟩ ⟨b0, b1, b2, b3, b4, b5, b6, b7, b8⟩)
  | _ => none
def C4 (P : Program) : Cx := (C3 P).add 157 [some 9, some 9] F_157
theorem ok4 : CxOk (C4 Try.prog) := Cx.add_ok ok3 (n := 60) Try.func157 (by kernel_rfl) fun l v hl h => by
  match l, hl, h with
  | [a0, a1, a2, a3, a4, a5, a6, a7, a8, b0, b1, b2, b3, b4, b5, b6, b7, b8], _, hh => rw [e4, tMul_eq]; exact hh
/-- vec.Apply -/
theorem e5 (a0 a1 a2 a3 a4 a5 a6 a7 a8 b0 b1 b2 : Int) : exFun ((C4 Try.prog).at 17) 60 Try.f17 (pack [some 9, some 3] [a0, a1, a2, a3, a4, a5, a6, a7, a8, b0, b1, b2]) = tApply ⟨a0, a1, a2, a3, a4, a5, a6, a7, a8⟩ ⟨b0, b1, b2⟩ := by kernel_rfl
def F_17 : List Int → Option Value
  | [a0, a1, a2, a3, a4, a5, a6, a7, a8, b0, b1, b2] => some (fApply ⟨a0, a1, a2, a3, a4, a5, a6, a7, a8⟩ ⟨b0, b1, b2⟩)
  | _ => none
def C5 (P : Program) : Cx := (C4 P).add 17 [some 9, some 3] F_17
theorem ok5 : CxOk (C5 Try.prog) := Cx.add_ok ok4 (n := 60) Try.func17 (by kernel_rfl) fun l v hl h => by
  match l, hl, h with
  | [a0, a1, a2, a3, a4, a5, a6, a7, a8, b0, b1, b2], _, hh => rw [e5, tApply_eq]; exact hh
/-- vec.Det -/
theorem e6 (a0 a1 a2 a3 a4 a5 a6 a7 a8 : Int) : exFun ((C5 Try.prog).at 84) 60 Try.f84 (pack [some 9] [a0, a1, a2, a3, a4, a5, a6, a7, a8]) = tDet ⟨a0, a1, a2, a3, a4, a5, a6, a7, a8⟩ := by kernel_rfl
def F_84 : List Int → Option Value
  | [a0, a1, a2, a3, a4, a5, a6, a7, a8] => some (fDet ⟨a0, a1, a2, a3, a4, a5, a6, a7, a8⟩)
  | _ => none
def C6 (P : Program) : Cx := (C5 P).add 84 [some 9] F_84
theorem ok6 : CxOk (C6 Try.prog) := Cx.add_ok ok5 (n := 60) Try.func84 (by kernel_rfl) fun l v hl h => by
  match l, hl, h with
  | [a0, a1, a2, a3, a4, a5, a6, a7, a8], _, hh => rw [e6, tDet_eq]; exact hh
/-- vec.Inverse -/
theorem e7 (a0 a1 a2 a3 a4 a5 a6 a7 a8 : Int) : exFun ((C6 Try.prog).at 155) 60 Try.f155 (pack [some 9] [a0, a1, a2, a3, a4, a5, a6, a7, a8]) = tInverse ⟨a0, a1, a2, a3, a4, a5, a6, a7, a8⟩ := by kernel_rfl
def F_155 : List Int → Option Value
  | [a0, a1, a2, a3, a4, a5, a6, a7, a8] => some (fInverse ⟨a0, a1, a2, a3, a4, a5, a6, a7, a8⟩)
  | _ => none
def C7 (P : Program) : Cx := (C6 P).add 155 [some 9] F_155
theorem ok7 : CxOk (C7 Try.prog) := Cx.add_ok ok6 (n := 60) Try.func155 (by kernel_rfl) fun l v hl h => by
  match l, hl, h with
  | [a0, a1, a2, a3, a4, a5, a6, a7, a8], _, hh => rw [e7, tInverse_eq]; exact hh
/-- plain.Residue -/
theorem e8 (a b : Int) : exFun ((C7 Try.prog).at 73) 60 Try.f73 (pack [none, none] [a, b]) = tResidue a b := by kernel_rfl
def F_73 : List Int → Option (Bool × Value)
  | [a, b] => some (modB b, vI (a % b))
  | _ => none
def C8 (P : Program) : Cx := (C7 P).addD 73 [none, none] F_73
theorem ok8 : CxOk (C8 Try.prog) := Cx.addD_ok ok7 (n := 60) Try.func73 (by kernel_rfl) fun l v hl h => by
  match l, hl, h with
  | [a, b], _, hh => simp only [F_73, Option.some.injEq, Prod.mk.injEq] at hh; rw [e8, tResidue_eq hh.1, hh.2]
/-- frac.Add -/
theorem e9 (a0 a1 a2 b0 b1 b2 : Int) : exFun ((C8 Try.prog).at 170) 60 Try.f170 (pack [some 3, some 3] [a0, a1, a2, b0, b1, b2]) = tAdd ⟨a0, a1, a2⟩ ⟨b0, b1, b2⟩ := by kernel_rfl
def F_170 : List Int → Option Value
  | [a0, a1, a2, b0, b1, b2] => some (fAdd ⟨a0, a1, a2⟩ ⟨b0, b1, b2⟩)
  | _ => none
def C9 (P : Program) : Cx := (C8 P).add 170 [some 3, some 3] F_170
theorem ok9 : CxOk (C9 Try.prog) := Cx.add_ok ok8 (n := 60) Try.func170 (by kernel_rfl) fun l v hl h => by
  match l, hl, h with
  | [a0, a1, a2, b0, b1, b2], _, hh => rw [e9, tAdd_eq]; exact hh
/-- frac.Neg -/
theorem e10 (a0 a1 a2 : Int) : exFun ((C9 Try.prog).at 156) 60 Try.f156 (pack [some 3] [a0, a1, a2]) = tNeg ⟨a0, a1, a2⟩ := by kernel_rfl
def F_156 : List Int → Option Value
  | [a0, a1, a2] => some (fNeg ⟨a0, a1, a2⟩)
  | _ => none
def C10 (P : Program) : Cx := (C9 P).add 156 [some 3] F_156
theorem ok10 : CxOk (C10 Try.prog) := Cx.add_ok ok9 (n := 60) Try.func156 (by kernel_rfl) fun l v hl h => by
  match l, hl, h with
  | [a0, a1, a2], _, hh => rw [e10, tNeg_eq]; exact hh
/-- frac.isFineness -/
theorem e11 (a : Int) : exFun ((C10 Try.prog).at 85) 60 Try.f85 (pack [none] [a]) = tFine a := by kernel_rfl
def F_85 : List Int → Option Value
  | [a] => some (fFine a)
  | _ => none
def C11 (P : Program) : Cx := (C10 P).add 85 [none] F_85
theorem ok11 : CxOk (C11 Try.prog) := Cx.add_ok ok10 (n := 60) Try.func85 (by kernel_rfl) fun l v hl h => by
  match l, hl, h with
  | [a], _, hh => rw [e11, tFine_eq]; exact hh
/-- frac.Form -/
theorem e12 (a0 a1 a2 a3 : Int) : exFun ((C11 Try.prog).at 88) 60 Try.f88 (pack [some 4] [a0, a1, a2, a3]) = tPForm ⟨a0, ⟨a1, a2, a3⟩⟩ := by kernel_rfl
def F_88 : List Int → Option Value
  | [a0, a1, a2, a3] => some (fPForm ⟨a0, ⟨a1, a2, a3⟩⟩)
  | _ => none
def C12 (P : Program) : Cx := (C11 P).add 88 [some 4] F_88
theorem ok12 : CxOk (C12 Try.prog) := Cx.add_ok ok11 (n := 60) Try.func88 (by kernel_rfl) fun l v hl h => by
  match l, hl, h with
  | [a0, a1, a2, a3], _, hh => rw [e12, tPForm_eq]; exact hh
/-- frac.Place -/
theorem e13 (a b0 b1 b2 : Int) : exFun ((C12 Try.prog).at 41) 60 Try.f41 (pack [none, some 3] [a, b0, b1, b2]) = tPlace a ⟨b0, b1, b2⟩ := by kernel_rfl
def F_41 : List Int → Option Value
  | [a, b0, b1, b2] => some (fPlace a ⟨b0, b1, b2⟩)
  | _ => none
def C13 (P : Program) : Cx := (C12 P).add 41 [none, some 3] F_41
theorem ok13 : CxOk (C13 Try.prog) := Cx.add_ok ok12 (n := 60) Try.func41 (by kernel_rfl) fun l v hl h => by
  match l, hl, h with
  | [a, b0, b1, b2], _, hh => rw [e13, tPlace_eq]; exact hh

def CC (P : Program) : Cx := C13 P
theorem okC : CxOk (CC Try.prog) := ok13

end Go.Proofs.Ytjpfnfckpgilgaa


namespace Go.Proofs.Ytjpfnfckpgilgaa.Vx
open Go

/-- The cells of a list's maps. -/
def opRow (l : List O3) : Nat → List Value := fun i => ((l[i]?).getD O3.zero).cells
def decO (l : List Value) : O3 := match opCells l with
  | some o => o
  | none => O3.zero
def isO (l : List Value) : Bool := match opCells l with
  | some _ => true
  | none => false
def okOps (n : Nat) (row : Nat → List Value) : Bool := (List.range n).all fun i => isO (row i)
def opsOf (n : Nat) (row : Nat → List Value) : List O3 := (List.range n).map fun i => decO (row i)
theorem opCells_cells (o : O3) : opCells o.cells = some o := rfl
theorem isO_cells (o : O3) : isO o.cells = true := rfl
theorem decO_cells (o : O3) : decO o.cells = o := rfl
theorem okOps_opRow (xs : List O3) (n : Nat) : okOps n (opRow xs) = true := List.all_eq_true.2 fun _ _ => isO_cells _
theorem opsOf_opRow (xs : List O3) : opsOf xs.length (opRow xs) = xs := by
  apply List.ext_getElem?
  intro i
  unfold opsOf opRow
  rw [List.getElem?_map]
  by_cases hi : i < xs.length
  · rw [List.getElem?_range hi, List.getElem?_eq_getElem hi]
    simp [decO_cells, List.getElem?_eq_getElem hi]
  · rw [List.getElem?_eq_none (by simp; omega), List.getElem?_eq_none (by omega)]; rfl
theorem opsOf_length (n : Nat) (row : Nat → List Value) : (opsOf n row).length = n := by simp [opsOf]
theorem ops_like {n : Nat} {row : Nat → List Value} (h : okOps n row = true) : rowsLike n row (opRow (opsOf n row)) := by
  intro i hi
  have := List.all_eq_true.1 h i (List.mem_range.2 hi)
  unfold isO at this
  split at this
  · rename_i o ho
    unfold opRow opsOf
    rw [List.getElem?_map, List.getElem?_range hi]
    simp only [Option.map_some, Option.getD_some, decO, ho]
    exact opCells_spec ho
  · cases this
theorem like_ops {own : Bool} {n : Nat} {row : Nat → List Value} (h : okOps n row = true) : Like (.rows own true 12 n row) (.rows own true 12 (opsOf n row).length (opRow (opsOf n row))) := by
  rw [opsOf_length]; exact .rows (ops_like h)
theorem blt_ff {a b : Nat} (h : ¬ a < b) : Nat.blt a b = false := by
  cases hb : Nat.blt a b with
  | false => rfl
  | true => exact absurd (Nat.blt_eq.mp hb) h
/-- One map behind others. -/
theorem catR_one (xs : List O3) (o : O3) (i : Nat) (hi : i < xs.length + 1) : catR xs.length (opRow xs) (chop 12 0 o.cells) i = opRow (xs ++ [o]) i := by
  unfold catR opRow
  by_cases h : i < xs.length
  · rw [show Nat.blt i xs.length = true by simpa [Nat.blt_eq] using h, List.getElem?_append_left h]
  · have : i = xs.length := by omega
    subst this
    rw [blt_ff (Nat.lt_irrefl _)]
    simp only [Nat.sub_self]
    rw [List.getElem?_append_right (Nat.le_refl _)]
    simp only [Nat.sub_self, List.getElem?_cons_zero, Option.getD_some]
    rfl
theorem like_ng {pl : Bool} {n : Nat} {xs : List O3} (hx : xs.length = n) (o : O3) : Like (.grow pl 12 (n + 1) (catR n (opRow xs) (chop 12 0 o.cells))) (.grow pl 12 (n + 1) (opRow (xs ++ [o]))) := by
  subst hx
  exact .grow fun i hi => catR_one xs o i hi
theorem like_nr {own pl : Bool} {n : Nat} {xs : List O3} (hx : xs.length = n) (o : O3) : Like (.rows own pl 12 (n + 1) (catR n (opRow xs) (chop 12 0 o.cells))) (.rows own pl 12 (n + 1) (opRow (xs ++ [o]))) := by
  subst hx
  exact .rows fun i hi => catR_one xs o i hi
theorem like_chop {own pl : Bool} (o : O3) : Like (.rows own pl 12 1 (chop 12 0 o.cells)) (.rows own pl 12 1 (opRow [o])) := .rows fun i hi => by
  have : i = 0 := by omega
  subst this
  rfl
theorem like_one {own pl : Bool} (xs : List O3) (o : O3) : Like (.rows own pl 12 (xs.length + 1) (catR xs.length (opRow xs) (chop 12 0 o.cells))) (.rows own pl 12 (xs ++ [o]).length (opRow (xs ++ [o]))) := by
  rw [List.length_append]
  exact .rows fun i hi => catR_one xs o i hi

theorem like_oneg {pl : Bool} (xs : List O3) (o : O3) : Like (.grow pl 12 (xs.length + 1) (catR xs.length (opRow xs) (chop 12 0 o.cells))) (.grow pl 12 (xs ++ [o]).length (opRow (xs ++ [o]))) := by
  rw [List.length_append]
  exact .grow fun i hi => catR_one xs o i hi

/-! Guards -/
def tAt (st : St) (i : Nat) : Option Value := st.tmps[i]?
def gd {α : Type} (b : Bool) (x : Option α) : Option α := match b with
  | true => x
  | false => none
theorem gd_true {α : Type} (x : Option α) : gd true x = x := rfl
theorem LoopSem.like {P : Program} {B : Nat} {x : Code} {tm : List Value} {m m2 : Mem} {s : St} {e : Exit} (h : LoopSem P B x ⟨tm, m2⟩ e s) (hl : LikeL m m2) : LoopSem P B x ⟨tm, m⟩ e s := by
  intro Q w0 keep r0 a w hB hQ hr
  refine h Q w0 keep r0 a w hB hQ ?_
  obtain ⟨r, hx, h1, h2, h3⟩ := hr
  exact ⟨r, hx, h1, h2, h3.like hl⟩
theorem beq_len {a b : Nat} (h : Nat.beq a b = true) : a = b := Nat.eq_of_beq_eq_true h
/-- Of two errors the lesser one, 0 being none. -/
def leastN (a b : Int) : Int := match a == 0 with
  | true => b
  | false => match b != 0 with
    | true => match decide (b < a) with
      | true => b
      | false => a
    | false => a
end Go.Proofs.Ytjpfnfckpgilgaa.Vx


namespace Go.Proofs.Ytjpfnfckpgilgaa
open Go Vx
def leastM (a b : Int) : Mem := [.cells true 1 [.int .i64 a, .int .i64 b]]
def leastA : List Value := [.slice (some ⟨0, 0, none⟩) 2 1]
theorem eLeast (a b : Int) : (exFunA ((CC Try.prog).at 50) 60 Try.f50 leastA (leastM a b)).res = (match a == 0 with
    | true => some (vI b, leastM a b)
    | false => match b != 0 with
      | true => match decide (b < a) with
        | true => some (vI b, leastM a b)
        | false => some (vI a, leastM a b)
      | false => some (vI a, leastM a b)) := by kernel_rfl
theorem eLeast' (a b : Int) : (exFunA ((CC Try.prog).at 50) 60 Try.f50 leastA (leastM a b)).res = some (vI (leastN a b), leastM a b) := by
  rw [eLeast]
  unfold leastN
  cases a == 0 <;> cases b != 0 <;> cases decide (b < a) <;> rfl
def leastS : List Value → Mem → Option (Ans (Value × Mem))
  | [.slice (some ⟨0, 0, none⟩) 2 1], [.cells true 1 [.int .i64 a, .int .i64 b]] => some (.out (vI (leastN a b), leastM a b))
  | _, _ => none
def CL (P : Program) : Cx := (CC P).addF 50 leastS
theorem okL : CxOk (CL Try.prog) := Cx.addF_ok okC fun args m ans v m' h hr => by
  unfold leastS at h
  split at h
  · rename_i a b
    simp only [Option.some.injEq] at h
    subst h
    simp only [Ans.res, Option.some.injEq, Prod.mk.injEq] at hr
    obtain ⟨rfl, rfl⟩ := hr
    exact exFunA_ok (n := 60) okC Try.func50 (by kernel_rfl) (eLeast' a b)
  · cases h
end Go.Proofs.Ytjpfnfckpgilgaa


namespace Go.Proofs.Ytjpfnfckpgilgaa.Vx
open Go

def tRCheck (o : O3) : Option Value :=
  match !o.t.part with
  | true => some (vI 3)
  | false => match o.r.ok with
    | true => match W o.r.det != 1 with
      | true => match W o.r.det != -1 with
        | true => some (vI 3)
        | false => match !o.r.ok with
          | true => some (vI 4)
          | false => some (vI 0)
      | false => match !o.r.ok with
        | true => some (vI 4)
        | false => some (vI 0)
    | false => match !o.r.ok with
      | true => some (vI 4)
      | false => some (vI 0)
theorem Wdet {m : M3} (h : m.ok = true) : W m.det = m.det := by rw [← detW_W, detW_eq h]
theorem tRCheck_eq (o : O3) : tRCheck o = some (fOCheck o) := by
  unfold tRCheck fOCheck O3.ck M3.form
  cases h0 : o.t.part
  · rfl
  · cases h : o.r.ok
    · rfl
    · simp only [Wdet h, Bool.not_true, cond_true]
      by_cases h1 : o.r.det = 1
      · rw [h1]; rfl
      · by_cases h2 : o.r.det = -1
        · rw [h2]; rfl
        · have e1 : (o.r.det != 1) = true := by simpa using h1
          have e2 : (o.r.det != -1) = true := by simpa using h2
          have e3 : unitB o.r.det = false := by simp [unitB, h1, h2]
          rw [e1, e2, e3]; rfl
def tTwo (a b : O3) : Option Value :=
  match a.ck == 0 with
  | true => some (vI b.ck)
  | false => match b.ck != 0 with
    | true => match decide (b.ck < a.ck) with
      | true => some (vI b.ck)
      | false => some (vI a.ck)
    | false => some (vI a.ck)
def fTwo (a b : O3) : Value := vI (leastI a.ck b.ck)
theorem tTwo_eq (a b : O3) : tTwo a b = some (fTwo a b) := by
  unfold tTwo fTwo
  rcases O3.ck_cases a with h | h | h <;> rcases O3.ck_cases b with k | k | k <;> rw [h, k] <;> rfl
def fRMul (a b : O3) : Value := O3.v ⟨(a.r.mul b.r).w, (((a.r.app b.t).w).add a.t).w.md 24⟩
def tRMul (a b : O3) : Option Value := some (fRMul a b)
theorem tRMul_eq (a b : O3) : tRMul a b = some (fRMul a b) := rfl
def tUndone (m : M3) : Option Value := some (M3.v ⟨W (W (M3.det ⟨1, m.b, m.c, 0, m.e, m.f, 0, m.h, m.i⟩) * W m.det), W (W (M3.det ⟨0, m.b, m.c, 1, m.e, m.f, 0, m.h, m.i⟩) * W m.det), W (W (M3.det ⟨0, m.b, m.c, 0, m.e, m.f, 1, m.h, m.i⟩) * W m.det), W (W (M3.det ⟨m.a, 1, m.c, m.d, 0, m.f, m.g, 0, m.i⟩) * W m.det), W (W (M3.det ⟨m.a, 0, m.c, m.d, 1, m.f, m.g, 0, m.i⟩) * W m.det), W (W (M3.det ⟨m.a, 0, m.c, m.d, 0, m.f, m.g, 1, m.i⟩) * W m.det), W (W (M3.det ⟨m.a, m.b, 1, m.d, m.e, 0, m.g, m.h, 0⟩) * W m.det), W (W (M3.det ⟨m.a, m.b, 0, m.d, m.e, 1, m.g, m.h, 0⟩) * W m.det), W (W (M3.det ⟨m.a, m.b, 0, m.d, m.e, 0, m.g, m.h, 1⟩) * W m.det)⟩)
def fUndone (m : M3) : Value := m.inv.w.v
theorem W_mul2 (m n : Int) : W (W m * W n) = W (m * n) := by rw [W_mull, W_mulr]
theorem tUndone_eq (m : M3) : tUndone m = some (fUndone m) := by
  unfold tUndone fUndone
  simp only [W_mul2]
  unfold M3.w M3.inv M3.smul M3.adj
  simp only [M3.det]
  congr 2
  simp only [M3.mk.injEq]
  refine ⟨?_, ?_, ?_, ?_, ?_, ?_, ?_, ?_, ?_⟩ <;> (congr 2; grind)
def fBack (o : O3) : Value := O3.v ⟨o.r.inv.w, ((o.r.inv.w.app o.t).w.neg).w.md 24⟩
def tBack (o : O3) : Option Value := some (O3.v ⟨o.r.inv.w, V3.md 24 ⟨W (0 - (o.r.inv.w.app o.t).w.x), W (0 - (o.r.inv.w.app o.t).w.y), W (0 - (o.r.inv.w.app o.t).w.z)⟩⟩)
theorem tBack_eq (o : O3) : tBack o = some (fBack o) := by
  unfold tBack fBack V3.neg V3.w
  simp only [Int.zero_sub]
def tTrace (m : M3) : Option Value := some (vI (W (W (m.a + m.e) + m.i)))
def fTrace (m : M3) : Value := vI (W m.tr)
theorem tTrace_eq (m : M3) : tTrace m = some (fTrace m) := by
  unfold tTrace fTrace M3.tr; rw [W_addl]
def tRotation (m : M3) : Option Value :=
  match W m.tr != W m.inv.w.tr with
  | true => some (vI 0)
  | false => match W m.tr == 3 with
    | true => match m.eqB M3.one with
      | true => some (vI 1)
      | false => some (vI 0)
    | false => match W m.tr == -1 with
      | true => match (m.mul m).w.eqB M3.one with
        | true => some (vI 2)
        | false => some (vI 0)
      | false => match W m.tr == 0 with
        | true => some (vI 3)
        | false => match W m.tr == 1 with
          | true => some (vI 4)
          | false => match W m.tr == 2 with
            | true => some (vI 6)
            | false => some (vI 0)
def M3.rotW (m : M3) : Int :=
  bif W m.tr != W m.inv.w.tr then 0 else bif W m.tr == 3 then (bif m.eqB M3.one then 1 else 0) else bif W m.tr == -1 then (bif (m.mul m).w.eqB M3.one then 2 else 0) else
    bif W m.tr == 0 then 3 else bif W m.tr == 1 then 4 else bif W m.tr == 2 then 6 else 0
def fRotation (m : M3) : Value := vI m.rotW
theorem tRotation_eq (m : M3) : tRotation m = some (fRotation m) := by
  unfold tRotation fRotation M3.rotW
  cases W m.tr != W m.inv.w.tr <;> cases W m.tr == 3 <;> cases m.eqB M3.one <;> cases W m.tr == -1 <;> cases (m.mul m).w.eqB M3.one <;> cases W m.tr == 0 <;> cases W m.tr == 1 <;> cases W m.tr == 2 <;> rfl
def tRKind (m : M3) : Option Value :=
  match W m.det == 1 with
  | true => some (vI m.rotW)
  | false => some (vI (W (0 - m.negW.rotW)))
def M3.kindW (m : M3) : Int := bif W m.det == 1 then m.rotW else W (0 - m.negW.rotW)
def fRKind (m : M3) : Value := vI m.kindW
theorem tRKind_eq (m : M3) : tRKind m = some (fRKind m) := by
  unfold tRKind fRKind M3.kindW
  cases W m.det == 1 <;> rfl
def orderOfI (a : Int) : Int := bif decide (a > 0) then a else bif Int.tmod a 2 != 0 then W (-2 * a) else W (0 - a)
def tOrderOf (a : Int) : Option Value :=
  match decide (a > 0) with
  | true => some (vI a)
  | false => match Int.tmod a 2 != 0 with
    | true => some (vI (W (-2 * a)))
    | false => some (vI (W (0 - a)))
def fOrderOf (a : Int) : Value := vI (orderOfI a)
theorem tOrderOf_eq (a : Int) : tOrderOf a = some (fOrderOf a) := by
  unfold tOrderOf fOrderOf orderOfI
  cases decide (a > 0) <;> cases Int.tmod a 2 != 0 <;> rfl
def tSmall (o : O3) : Option Value :=
  match !o.r.ok with
  | true => some (pOE O3.zero 4)
  | false => some (pOE o 0)
def fSmall (o : O3) : Value := pOE o.small o.smallE
theorem tSmall_eq (o : O3) : tSmall o = some (fSmall o) := by
  unfold tSmall fSmall O3.small O3.smallE
  cases o.r.ok <;> rfl
def tDocMake (m : M3) (t : V3) : Option Value :=
  match (O3.mk m (t.md 24)).ck != 0 with
  | true => some (pOE O3.zero (O3.mk m (t.md 24)).ck)
  | false => some (pOE ⟨m, t.md 24⟩ 0)
theorem tDocMake_eq (m : M3) (t : V3) : tDocMake m t = some (fMake m t) := by
  have e : (O3.mk m (t.md 24)).ck = m.form := by unfold O3.ck; simp only [V3.md_part, cond_true]
  unfold tDocMake fMake O3.makeF
  rw [e]
  by_cases h : m.form = 0
  · rw [h]; rfl
  · rw [(bif_beq h).1, (bif_beq h).2]; rfl
/-- The document's product and inverse, before they are held against the bounds. -/
def O3.rmul (a b : O3) : O3 := ⟨(a.r.mul b.r).w, (((a.r.app b.t).w).add a.t).w.md 24⟩
def O3.rback (o : O3) : O3 := ⟨o.r.inv.w, ((o.r.inv.w.app o.t).w.neg).w.md 24⟩
theorem V3.part_bd {v : V3} (h : v.part = true) : v.Bd 23 := by rw [V3.part_iff] at h; unfold V3.Bd; omega
theorem V3.Bd.add {u v : V3} {k l : Int} (h : u.Bd k) (h' : v.Bd l) : (u.add v).Bd (k + l) := by unfold V3.Bd V3.add at *; simp only; omega
theorem V3.Bd.neg {u : V3} {k : Int} (h : u.Bd k) : u.neg.Bd k := by unfold V3.Bd V3.neg at *; simp only; omega
theorem O3.rmul_eq {a b : O3} (ha : a.ck = 0) (hb : b.ck = 0) : a.rmul b = a.mul b := by
  obtain ⟨a1, a2, a3⟩ := O3.ck_zero.1 ha
  obtain ⟨b1, b2, b3⟩ := O3.ck_zero.1 hb
  have h1 := (M3.ok_iff.1 a2).mul (M3.ok_iff.1 b2)
  have h2 := (M3.ok_iff.1 a2).app (V3.part_bd b1)
  have h3 := h2.add (V3.part_bd a1)
  unfold O3.rmul O3.mul
  rw [M3.w_eq (h1.mono (by omega)), V3.w_eq (h2.mono (by omega)), V3.w_eq (h3.mono (by omega))]
theorem O3.rback_eq {o : O3} (ho : o.ck = 0) : o.rback = o.inv := by
  obtain ⟨a1, a2, a3⟩ := O3.ck_zero.1 ho
  have h1 := (M3.ok_iff.1 a2).inv a3
  have h2 := h1.app (V3.part_bd a1)
  unfold O3.rback O3.inv
  rw [M3.w_eq (h1.mono (by omega)), V3.w_eq (h2.mono (by omega)), V3.w_eq (h2.neg.mono (by omega))]
def tDocMul (a b : O3) : Option Value :=
  match leastI a.ck b.ck != 0 with
  | true => some (pOE O3.zero (leastI a.ck b.ck))
  | false => some (fSmall (a.rmul b))
theorem tDocMul_eq (a b : O3) : tDocMul a b = some (fOMul a b) := by
  unfold tDocMul fOMul O3.mulF O3.mulE
  by_cases h : leastI a.ck b.ck = 0
  · obtain ⟨ha, hb⟩ := leastI_zero.1 h
    rw [h, O3.rmul_eq ha hb]; rfl
  · rw [(bif_beq h).1, (bif_beq h).2]; rfl
def tDocInverse (o : O3) : Option Value :=
  match o.ck != 0 with
  | true => some (pOE O3.zero o.ck)
  | false => some (fSmall o.rback)
theorem tDocInverse_eq (o : O3) : tDocInverse o = some (fOInverse o) := by
  unfold tDocInverse fOInverse O3.invF O3.invE
  by_cases h : o.ck = 0
  · rw [h, O3.rback_eq h]; rfl
  · rw [(bif_beq h).1, (bif_beq h).2]; rfl
def tRPlace (p : P3) : Option Value :=
  match p.m != 24 with
  | true => match p.m != 48 with
    | true => match p.m != 96 with
      | true => match p.m != 192 with
        | true => some (.bool false)
        | false => onO (modB p.m) (some (.bool (p.x.eqB (p.x.md p.m))))
      | false => onO (modB p.m) (some (.bool (p.x.eqB (p.x.md p.m))))
    | false => onO (modB p.m) (some (.bool (p.x.eqB (p.x.md p.m))))
  | false => onO (modB p.m) (some (.bool (p.x.eqB (p.x.md p.m))))
theorem tRPlace_eq (p : P3) : tRPlace p = some (fPForm p) := by
  obtain ⟨m, x⟩ := p
  unfold tRPlace fPForm P3.form
  cases h : isF m with
  | true =>
    simp only [onO_true (isF_modB h), Bool.true_and]
    rcases isF_iff.1 h with rfl | rfl | rfl | rfl <;> rfl
  | false =>
    have h' : ¬ (m = 24 ∨ m = 48 ∨ m = 96 ∨ m = 192) := by rw [← isF_iff, h]; simp
    have e1 : (m != 24) = true := by simp; omega
    have e2 : (m != 48) = true := by simp; omega
    have e3 : (m != 96) = true := by simp; omega
    have e4 : (m != 192) = true := by simp; omega
    simp only [e1, e2, e3, e4]; rfl
def rapp1 (x t m : Int) : Int := W (x + W (t * W (Int.tdiv m 24)))
def O3.rapp (o : O3) (p : P3) : P3 := ⟨p.m, V3.md p.m ⟨rapp1 (o.r.app p.x).w.x o.t.x p.m, rapp1 (o.r.app p.x).w.y o.t.y p.m, rapp1 (o.r.app p.x).w.z o.t.z p.m⟩⟩
def tRApply (o : O3) (p : P3) : Option Value := onO (modB p.m) (some (o.rapp p).v)
theorem tRApply_eq {o : O3} {p : P3} (h : modB p.m = true) : tRApply o p = some (o.rapp p).v := by unfold tRApply; rw [onO_true h]
theorem rapp1_eq {x t m : Int} (hm : m = 24 ∨ m = 48 ∨ m = 96 ∨ m = 192) (hx : -1000000 ≤ x ∧ x ≤ 1000000) (ht : 0 ≤ t ∧ t ≤ 23) : rapp1 x t m = x + m / 24 * t := by
  unfold rapp1
  rcases hm with rfl | rfl | rfl | rfl
  · rw [show W (Int.tdiv 24 24) = 1 from rfl, W_in (n := t * 1) (by omega), W_in (by omega)]; omega
  · rw [show W (Int.tdiv 48 24) = 2 from rfl, W_in (n := t * 2) (by omega), W_in (by omega)]; omega
  · rw [show W (Int.tdiv 96 24) = 4 from rfl, W_in (n := t * 4) (by omega), W_in (by omega)]; omega
  · rw [show W (Int.tdiv 192 24) = 8 from rfl, W_in (n := t * 8) (by omega), W_in (by omega)]; omega
theorem O3.rapp_eq {o : O3} {p : P3} (ho : o.ck = 0) (hp : p.form = true) : o.rapp p = o.app p := by
  obtain ⟨a1, a2, a3⟩ := O3.ck_zero.1 ho
  obtain ⟨hm, h1, h2, h3⟩ := P3.form_spec hp
  have hx : p.x.Bd 192 := by unfold V3.Bd; omega
  have hb := (M3.ok_iff.1 a2).app hx
  have hp' := V3.part_iff.1 a1
  unfold O3.rapp O3.app
  rw [V3.w_eq (hb.mono (by omega))]
  unfold V3.Bd at hb
  rw [rapp1_eq hm (by omega) hp'.1, rapp1_eq hm (by omega) hp'.2.1, rapp1_eq hm (by omega) hp'.2.2]
  rfl
def tDocApplyEnd (o : O3) (p : P3) (e : Int) : Option Value :=
  match e != 0 with
  | true => some (p2 P3.zero.v (vI e))
  | false => onO (modB p.m) (some (p2 (o.rapp p).v (vI 0)))
def tDocApply (o : O3) (p : P3) : Option Value :=
  match !p.form with
  | true => tDocApplyEnd o p 3
  | false => tDocApplyEnd o p o.ck
theorem tDocApply_eq (o : O3) (p : P3) : tDocApply o p = some (fOApply o p) := by
  unfold tDocApply fOApply O3.appF O3.appE tDocApplyEnd
  cases hp : p.form with
  | false => rfl
  | true =>
    simp only [Bool.not_true, cond_true]
    by_cases h : o.ck = 0
    · have hm : modB p.m = true := modB_iff.2 (by have := (P3.form_spec hp).1; omega)
      rw [h, O3.rapp_eq h hp, onO_true hm]
      rfl
    · rw [(bif_beq h).1, (bif_beq h).2]; rfl
end Go.Proofs.Ytjpfnfckpgilgaa.Vx


namespace Go.Proofs.Ytjpfnfckpgilgaa.Vx
open Go

/-- So many times more; the map that was reached, and the error. -/
def powL (o : O3) : Nat → O3 → O3 × Int
  | 0, p => (p, 0)
  | k + 1, p => match o.mulE p != 0 with
    | true => (p, o.mulE p)
    | false => powL o k (o.mulF p)
def powOut (x : O3 × Int) : O3 × Int := bif x.2 == 0 then (x.1, 0) else (O3.zero, x.2)
def O3.pow (o : O3) (n : Int) : O3 × Int :=
  bif decide (n < -1000) || decide (n > 1000) then (O3.zero, 1)
  else bif o.ck != 0 then (O3.zero, o.ck)
  else bif decide (n < 0) then (bif o.invE != 0 then (O3.zero, o.invE) else powOut (powL o.invF (-n).toNat O3.one))
  else powOut (powL o n.toNat O3.one)
def tPowEnd (x : O3 × Int) : Option Value := match x.2 == 0 with
  | true => some (pOE x.1 0)
  | false => some (pOE O3.zero x.2)
def rngB (i n : Int) : Bool := decide (0 ≤ i) && (decide (i ≤ n) && decide (n ≤ 1000))
theorem rngB_iff {i n : Int} : rngB i n = true ↔ 0 ≤ i ∧ i ≤ n ∧ n ≤ 1000 := by simp [rngB]
def tPower (o : O3) (n : Int) : Option Value := match decide (n < -1000) with
  | true => some (pOE O3.zero 1)
  | false => match decide (n > 1000) with
    | true => some (pOE O3.zero 1)
    | false => match o.ck != 0 with
      | true => some (pOE O3.zero o.ck)
      | false => match decide (n < 0) with
        | true => match o.invE != 0 with
          | true => some (pOE O3.zero o.invE)
          | false => onO (rngB 0 (W (0 - n))) (tPowEnd (powL o.invF (W (0 - n) - 0).toNat O3.one))
        | false => onO (rngB 0 n) (tPowEnd (powL o (n - 0).toNat O3.one))
def fPower (o : O3) (n : Int) : Value := pOE (o.pow n).1 (o.pow n).2
theorem tPowEnd_eq (x : O3 × Int) : tPowEnd x = some (pOE (powOut x).1 (powOut x).2) := by
  unfold tPowEnd powOut
  cases x.2 == 0 <;> rfl
theorem tPower_eq (o : O3) (n : Int) : tPower o n = some (fPower o n) := by
  unfold tPower fPower O3.pow
  by_cases h1 : n < -1000
  · simp [h1]
  · by_cases h2 : n > 1000
    · simp [h1, h2]
    · by_cases h3 : o.ck = 0
      · by_cases h4 : n < 0
        · by_cases h5 : o.invE = 0
          · have hr : rngB 0 (0 - n) = true := rngB_iff.2 (by omega)
            simp only [h1, h2, h3, h4, h5, decide_false, decide_true, Bool.or_self, cond_false, cond_true, bne_self_eq_false]
            rw [W_in (by omega), onO_true hr, tPowEnd_eq, show (0 - n - 0).toNat = (-n).toNat by omega]
          · simp [h1, h2, h3, h4, (bif_beq h5).2]
        · have hr : rngB 0 n = true := rngB_iff.2 (by omega)
          simp only [h1, h2, h3, h4, decide_false, Bool.or_self, cond_false, bne_self_eq_false]
          rw [onO_true hr, tPowEnd_eq, show (n - 0).toNat = n.toNat by omega]
      · simp [h1, h2, (bif_beq h3).2]

/-! The document's -/
/-- What the document's loop does: so many times more; the map that was reached, and the error. -/
def rpowL (o : O3) : Nat → O3 → O3 × Int
  | 0, p => (p, 0)
  | k + 1, p => match (o.rmul p).smallE != 0 with
    | true => ((o.rmul p).small, (o.rmul p).smallE)
    | false => rpowL o k (o.rmul p).small
theorem O3.ck_mul {a b : O3} (ha : a.ck = 0) (hb : b.ck = 0) (h : (a.mul b).r.ok = true) : (a.mul b).ck = 0 := by
  obtain ⟨_, _, a3⟩ := O3.ck_zero.1 ha
  obtain ⟨_, _, b3⟩ := O3.ck_zero.1 hb
  exact O3.ck_zero.2 ⟨V3.md_part _, h, M3.U_mul a3 b3⟩
theorem O3.mulF_eq {a b : O3} (ha : a.ck = 0) (hb : b.ck = 0) : a.mulF b = (a.mul b).small ∧ a.mulE b = (a.mul b).smallE := by
  have : leastI a.ck b.ck = 0 := leastI_zero.2 ⟨ha, hb⟩
  unfold O3.mulF O3.mulE
  rw [this]; exact ⟨rfl, rfl⟩
theorem O3.smallE_zero {o : O3} : o.smallE = 0 ↔ o.r.ok = true := by unfold O3.smallE; cases o.r.ok <;> simp
theorem O3.small_ok {o : O3} (h : o.r.ok = true) : o.small = o := by unfold O3.small; rw [h]; rfl
theorem O3.ck_one : O3.one.ck = 0 := by decide
theorem rpow_eq (o : O3) (ho : o.ck = 0) : ∀ (k : Nat) (p : O3), p.ck = 0 → powOut (rpowL o k p) = powOut (powL o k p)
  | 0, p, _ => rfl
  | k + 1, p, hp => by
    simp only [rpowL, powL]
    rw [O3.rmul_eq ho hp, (O3.mulF_eq ho hp).1, (O3.mulF_eq ho hp).2]
    cases he : (o.mul p).smallE != 0 with
    | true =>
      have : ((o.mul p).smallE == 0) = false := by simpa using he
      simp only [powOut, this, cond_false]
    | false =>
      have h0 : (o.mul p).smallE = 0 := by simpa using he
      have hok := O3.smallE_zero.1 h0
      simp only
      rw [O3.small_ok hok]
      exact rpow_eq o ho k (o.mul p) (O3.ck_mul ho hp hok)
def tDocPower (o : O3) (n : Int) : Option Value := match decide (n < -1000) with
  | true => some (pOE O3.zero 1)
  | false => match decide (n > 1000) with
    | true => some (pOE O3.zero 1)
    | false => match o.ck != 0 with
      | true => some (pOE O3.zero o.ck)
      | false => match decide (n < 0) with
        | true => match o.rback.smallE != 0 with
          | true => some (pOE O3.zero o.rback.smallE)
          | false => onO (rngB 0 (W (0 - n))) (tPowEnd (rpowL o.rback.small (W (0 - n)).toNat O3.one))
        | false => onO (rngB 0 n) (tPowEnd (rpowL o n.toNat O3.one))
theorem O3.ck_inv {a : O3} (ha : a.ck = 0) (h : a.inv.r.ok = true) : a.inv.ck = 0 := by
  obtain ⟨_, _, a3⟩ := O3.ck_zero.1 ha
  exact O3.ck_zero.2 ⟨V3.md_part _, h, M3.U_inv a3⟩
theorem tDocPower_eq (o : O3) (n : Int) : tDocPower o n = some (fPower o n) := by
  rw [← tPower_eq]
  unfold tDocPower tPower
  by_cases h3 : o.ck = 0
  · have e1 : o.invE = o.rback.smallE ∧ o.invF = o.rback.small := by
      unfold O3.invE O3.invF
      rw [h3, O3.rback_eq h3]; exact ⟨rfl, rfl⟩
    rw [e1.1, e1.2]
    rw [tPowEnd_eq, tPowEnd_eq, tPowEnd_eq, tPowEnd_eq, rpow_eq o h3 _ _ O3.ck_one, show (n - 0).toNat = n.toNat by omega, show (W (0 - n) - 0).toNat = (W (0 - n)).toNat by omega]
    cases he : o.rback.smallE != 0 with
    | true => rfl
    | false =>
      have h0 : o.rback.smallE = 0 := by simpa using he
      have hok := O3.smallE_zero.1 h0
      have hck : o.rback.small.ck = 0 := by
        rw [O3.small_ok hok]
        rw [O3.rback_eq h3] at hok ⊢
        exact O3.ck_inv h3 hok
      rw [rpow_eq _ hck _ _ O3.ck_one]
  · rw [(bif_beq h3).2]
end Go.Proofs.Ytjpfnfckpgilgaa.Vx
