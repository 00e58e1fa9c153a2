/-
  What a call that only reads what it is handed does with parts of lists. Nothing here is trusted.
-/
import Derived.Test.YtjhijkdicmbbiaaKae
import Derived.Test.YtjhijkdicmbbiaaRows

namespace Go.Proofs.Ytjhijkdicmbbiaa.Vx
open Go Go.RowKit

def shiftR (i : Nat) (row : Nat → List Value) : Nat → List Value := match i with
  | 0 => row
  | i + 1 => fun j => row (i + 1 + j)
theorem shiftR_at (i : Nat) (row : Nat → List Value) (j : Nat) : shiftR i row j = row (i + j) := by cases i <;> simp [shiftR]
/-- Rows that can be lent. -/
def rowsAt : Option Blk → Option (Nat × Nat × (Nat → List Value))
  | some (.rows _ true e n row) => some (e, n, row)
  | some (.grow true e n row) => some (e, n, row)
  | _ => none
def sliceAt : Value → Option (Nat × Nat × Nat × Nat)
  | .slice (some a) n e => match a.off, a.spot with
    | 0, some i => some (a.block, i, n, e)
    | _, _ => none
  | _ => none
/-- The cells of what is handed in: each slice is a block of its own, which is only read. -/
def lendC (m : Mem) : List Value → Nat → Option (List Value × Mem × Bool)
  | [], _ => some ([], [], true)
  | v :: l, k => match sliceAt v with
    | some (b, i, n, e) => match rowsAt m[b]? with
      | some (e2, n2, row) => match Nat.beq e2 e with
        | true => match lendC m l (k + 1) with
          | some (ags, ms, c) => some (.slice (some ⟨k, 0, some 0⟩) n e :: ags, .rows false true e n (shiftR i row) :: ms, Nat.ble (i + n) n2 && c)
          | none => none
        | false => none
      | none => none
    | none => match nad0 v with
      | true => match lendC m l k with
        | some (ags, ms, c) => some (v :: ags, ms, c)
        | none => none
      | false => none
/-- Each slice that is handed in is a block of its own, which is only read. -/
def lendA (m : Mem) : List Value → Nat → Option (List Value × Mem × Bool)
  | [], _ => some ([], [], true)
  | v :: l, k => match sliceAt v with
    | some (b, i, n, e) => match rowsAt m[b]? with
      | some (e2, n2, row) => match Nat.beq e2 e with
        | true => match lendA m l (k + 1) with
          | some (ags, ms, c) => some (.slice (some ⟨k, 0, some 0⟩) n e :: ags, .rows false true e n (shiftR i row) :: ms, Nat.ble (i + n) n2 && c)
          | none => none
        | false => none
      | none => none
    | none => match nad v with
      | true => match lendA m l k with
        | some (ags, ms, c) => some (v :: ags, ms, c)
        | none => none
      | false => match v with
        | .agg cs => match lendC m cs.toList k with
          | some (cs', ms1, c1) => match lendA m l (k + ms1.length) with
            | some (ags, ms, c) => some (.agg cs'.toArray :: ags, ms1 ++ ms, c1 && c)
            | none => none
          | none => none
        | _ => none
theorem sliceAt_spec {v : Value} {b i n e : Nat} (h : sliceAt v = some (b, i, n, e)) : v = .slice (some ⟨b, 0, some i⟩) n e := by
  cases v with
  | slice a n2 e2 =>
    cases a with
    | none => cases h
    | some a =>
      obtain ⟨b2, off, spot⟩ := a
      cases off with
      | succ o => cases h
      | zero =>
        cases spot with
        | none => cases h
        | some j =>
          simp only [sliceAt, Option.some.injEq, Prod.mk.injEq] at h
          obtain ⟨rfl, rfl, rfl, rfl⟩ := h
          rfl
  | _ => cases h
theorem rowsAt_rel {w : World} {r : Ren} {p : Place} {kk : Blk} {e n : Nat} {row : Nat → List Value} (hb : BlkRel w r p kk) (h : rowsAt (some kk) = some (e, n, row)) :
    p.esz = e ∧ p.n = n ∧ (∀ i, i < n → allL nad0 (row i) = true) ∧ ∃ cs T fz, w.heap[p.blk]? = some (.cells cs T fz) ∧ ∀ i, i < n → (row i).length = e ∧ CellsAt r cs (p.off + i * e) (row i) := by
  cases kk with
  | rows own pl e2 n2 row2 =>
    cases pl with
    | false => cases h
    | true =>
      simp only [rowsAt, Option.some.injEq, Prod.mk.injEq] at h
      obtain ⟨rfl, rfl, rfl⟩ := h
      obtain ⟨h1, h2, h0, hp, cs, T, fz, h6, h3, h4, h5⟩ := hb
      exact ⟨h2, h0, hp rfl, cs, T, fz, h3, h5⟩
  | grow pl e2 n2 row2 =>
    cases pl with
    | false => cases h
    | true =>
      simp only [rowsAt, Option.some.injEq, Prod.mk.injEq] at h
      obtain ⟨rfl, rfl, rfl⟩ := h
      obtain ⟨h1, h2, h0, hp, cs, T, fz, h3, h4, h5⟩ := hb
      exact ⟨h2, h0, hp rfl, cs, T, fz, h3, h5⟩
  | _ => cases h
theorem lend_okC {w0 w : World} {keep : Keep} {r : Ren} {m : Mem} (hm : MemRel w0 keep r m w) : ∀ (args : List Value) (k : Nat) {ags : List Value} {ms : Mem} {c : Bool} {args' : List Value}, lendC m args k = some (ags, ms, c) → c = true → RL (R0 r) args args' →
    ∃ ps : List Place, ps.length = ms.length ∧ (∀ (rl : Ren), (∀ (i : Nat) p, ps[i]? = some p → rl (k + i) = some (some p)) → RL (R0 rl) ags args') ∧ ∀ (i : Nat) p, ps[i]? = some p → p.own = false ∧ p.room = 0 ∧ (∃ b q, r b = some (some q) ∧ q.blk = p.blk) ∧ ∃ kk, ms[i]? = some kk ∧ ∀ rl : Ren, BlkRel w rl p kk
  | [], k, ags, ms, c, args', h, hc, ha => by
    simp only [lendC, Option.some.injEq, Prod.mk.injEq] at h
    obtain ⟨rfl, rfl, -⟩ := h
    exact ⟨[], rfl, fun _ _ => by cases args' with | nil => trivial | cons => exact ha.elim, fun i p hp => by simp at hp⟩
  | v :: l, k, ags, ms, c, [], h, hc, ha => ha.elim
  | v :: l, k, ags, ms, c, v' :: l', h, hc, ha => by
    simp only [lendC] at h
    split at h
    · rename_i b i n e hv
      have hv := sliceAt_spec hv
      subst hv
      split at h
      · rename_i e2 n2 row hrow
        split at h
        · rename_i he
          have he := Nat.eq_of_beq_eq_true he
          subst he
          split at h
          · rename_i ags1 ms1 c1 hl
            simp only [Option.some.injEq, Prod.mk.injEq] at h
            obtain ⟨rfl, rfl, rfl⟩ := h
            rw [Bool.and_eq_true] at hc
            obtain ⟨ps, h1, h2, h3⟩ := lend_okC hm l (k + 1) hl hc.2 ha.2
            have hle : i + n ≤ n2 := Nat.le_of_ble_eq_true hc.1
            have hv : R0 r (.slice (some ⟨b, 0, some i⟩) n e2) v' := ha.1
            unfold R0 at hv
            simp only at hv
            cases hr : r b with
            | none => rw [hr] at hv; exact hv.elim
            | some q =>
              cases q with
              | none =>
                rw [hm.dead b hr] at hrow
                cases hrow
              | some p =>
                rw [hr] at hv
                simp only at hv
                obtain ⟨cc, rfl, s1, s2, s3, s4, s5⟩ := hv
                obtain ⟨kk, hkb, hrel⟩ := hm.blk b p hr
                rw [hkb] at hrow
                obtain ⟨q1, q2, q3, cs, T, fz, q4, q5⟩ := rowsAt_rel hrel hrow
                refine ⟨⟨p.blk, p.off + i * e2, e2, n, 0, false⟩ :: ps, by simp [h1], fun rl hrl => ⟨?_, h2 rl fun j q hq => ?_⟩, fun j q hq => ?_⟩
                · have := hrl 0 _ rfl
                  simp only [Nat.add_zero] at this
                  have hg : R0 rl (.slice (some ⟨k, 0, some 0⟩) n e2) (.slice (some (p.addr ⟨b, 0, some i⟩)) n cc) := by
                    unfold R0
                    simp only [this]
                    refine ⟨cc, by simp [Place.addr, q1], s1, fun j hj => ?_, fun _ => rfl, fun _ => rfl, fun h => by cases h⟩
                    simp only [Option.some.injEq] at hj
                    subst hj
                    simp
                  exact hg
                · have := hrl (j + 1) q (by simpa using hq)
                  rw [← this]; congr 1; omega
                · cases j with
                  | zero =>
                    simp only [List.getElem?_cons_zero, Option.some.injEq] at hq
                    subst hq
                    refine ⟨rfl, rfl, ⟨b, p, hr, rfl⟩, _, rfl, fun rl => ⟨rfl, rfl, rfl, fun _ j hj => ?_, cs, T, fz, fun _ => rfl, q4, (fun h => by cases h), fun j hj => ?_⟩⟩
                    · rw [shiftR_at]; exact q3 _ (by omega)
                    · rw [shiftR_at]
                      refine ⟨(q5 _ (by omega)).1, fun t u hu => ?_⟩
                      have hpu := allL_iff.1 (q3 (i + j) (by omega)) u (List.mem_of_getElem? hu)
                      obtain ⟨u', g1, g2⟩ := (q5 (i + j) (by omega)).2 t u hu
                      refine ⟨u', ?_, R0_nad hpu g2⟩
                      simp only
                      rw [Nat.add_assoc p.off, ← Nat.add_mul]
                      exact g1
                  | succ j =>
                    simp only [List.getElem?_cons_succ] at hq ⊢
                    exact h3 j q hq
          · cases h
        · cases h
      · cases h
    · split at h
      · rename_i hp
        split at h
        · rename_i ags1 ms1 c1 hl
          simp only [Option.some.injEq, Prod.mk.injEq] at h
          obtain ⟨rfl, rfl, rfl⟩ := h
          obtain ⟨ps, h1, h2, h3⟩ := lend_okC hm l k hl hc ha.2
          exact ⟨ps, h1, fun rl hrl => ⟨R0_nad hp ha.1, h2 rl hrl⟩, h3⟩
        · cases h
      · cases h

theorem lend_ok {w0 w : World} {keep : Keep} {r : Ren} {m : Mem} (hm : MemRel w0 keep r m w) : ∀ (args : List Value) (k : Nat) {ags : List Value} {ms : Mem} {c : Bool} {args' : List Value}, lendA m args k = some (ags, ms, c) → c = true → RL (R r) args args' →
    ∃ ps : List Place, ps.length = ms.length ∧ (∀ (rl : Ren), (∀ (i : Nat) p, ps[i]? = some p → rl (k + i) = some (some p)) → RL (R rl) ags args') ∧ ∀ (i : Nat) p, ps[i]? = some p → p.own = false ∧ p.room = 0 ∧ (∃ b q, r b = some (some q) ∧ q.blk = p.blk) ∧ ∃ kk, ms[i]? = some kk ∧ ∀ rl : Ren, BlkRel w rl p kk
  | [], k, ags, ms, c, args', h, hc, ha => by
    simp only [lendA, Option.some.injEq, Prod.mk.injEq] at h
    obtain ⟨rfl, rfl, -⟩ := h
    exact ⟨[], rfl, fun _ _ => by cases args' with | nil => trivial | cons => exact ha.elim, fun i p hp => by simp at hp⟩
  | v :: l, k, ags, ms, c, [], h, hc, ha => ha.elim
  | v :: l, k, ags, ms, c, v' :: l', h, hc, ha => by
    simp only [lendA] at h
    split at h
    · rename_i b i n e hv
      have hv := sliceAt_spec hv
      subst hv
      split at h
      · rename_i e2 n2 row hrow
        split at h
        · rename_i he
          have he := Nat.eq_of_beq_eq_true he
          subst he
          split at h
          · rename_i ags1 ms1 c1 hl
            simp only [Option.some.injEq, Prod.mk.injEq] at h
            obtain ⟨rfl, rfl, rfl⟩ := h
            rw [Bool.and_eq_true] at hc
            obtain ⟨ps, h1, h2, h3⟩ := lend_ok hm l (k + 1) hl hc.2 ha.2
            have hle : i + n ≤ n2 := Nat.le_of_ble_eq_true hc.1
            have hv : R0 r (.slice (some ⟨b, 0, some i⟩) n e2) v' := ha.1
            unfold R0 at hv
            simp only at hv
            cases hr : r b with
            | none => rw [hr] at hv; exact hv.elim
            | some q =>
              cases q with
              | none =>
                rw [hm.dead b hr] at hrow
                cases hrow
              | some p =>
                rw [hr] at hv
                simp only at hv
                obtain ⟨cc, rfl, s1, s2, s3, s4, s5⟩ := hv
                obtain ⟨kk, hkb, hrel⟩ := hm.blk b p hr
                rw [hkb] at hrow
                obtain ⟨q1, q2, q3, cs, T, fz, q4, q5⟩ := rowsAt_rel hrel hrow
                refine ⟨⟨p.blk, p.off + i * e2, e2, n, 0, false⟩ :: ps, by simp [h1], fun rl hrl => ⟨?_, h2 rl fun j q hq => ?_⟩, fun j q hq => ?_⟩
                · have := hrl 0 _ rfl
                  simp only [Nat.add_zero] at this
                  have hg : R0 rl (.slice (some ⟨k, 0, some 0⟩) n e2) (.slice (some (p.addr ⟨b, 0, some i⟩)) n cc) := by
                    unfold R0
                    simp only [this]
                    refine ⟨cc, by simp [Place.addr, q1], s1, fun j hj => ?_, fun _ => rfl, fun _ => rfl, fun h => by cases h⟩
                    simp only [Option.some.injEq] at hj
                    subst hj
                    simp
                  exact hg
                · have := hrl (j + 1) q (by simpa using hq)
                  rw [← this]; congr 1; omega
                · cases j with
                  | zero =>
                    simp only [List.getElem?_cons_zero, Option.some.injEq] at hq
                    subst hq
                    refine ⟨rfl, rfl, ⟨b, p, hr, rfl⟩, _, rfl, fun rl => ⟨rfl, rfl, rfl, fun _ j hj => ?_, cs, T, fz, fun _ => rfl, q4, (fun h => by cases h), fun j hj => ?_⟩⟩
                    · rw [shiftR_at]; exact q3 _ (by omega)
                    · rw [shiftR_at]
                      refine ⟨(q5 _ (by omega)).1, fun t u hu => ?_⟩
                      have hpu := allL_iff.1 (q3 (i + j) (by omega)) u (List.mem_of_getElem? hu)
                      obtain ⟨u', g1, g2⟩ := (q5 (i + j) (by omega)).2 t u hu
                      refine ⟨u', ?_, R0_nad hpu g2⟩
                      simp only
                      rw [Nat.add_assoc p.off, ← Nat.add_mul]
                      exact g1
                  | succ j =>
                    simp only [List.getElem?_cons_succ] at hq ⊢
                    exact h3 j q hq
          · cases h
        · cases h
      · cases h
    · split at h
      · rename_i hp
        split at h
        · rename_i ags1 ms1 c1 hl
          simp only [Option.some.injEq, Prod.mk.injEq] at h
          obtain ⟨rfl, rfl, rfl⟩ := h
          obtain ⟨ps, h1, h2, h3⟩ := lend_ok hm l k hl hc ha.2
          exact ⟨ps, h1, fun rl hrl => ⟨R_nad hp ha.1, h2 rl hrl⟩, h3⟩
        · cases h
      · split at h
        · rename_i cs0 _ _
          split at h
          · rename_i cs1 ms1 c1 hl1
            split at h
            · rename_i ags2 ms2 c2 hl2
              simp only [Option.some.injEq, Prod.mk.injEq] at h
              obtain ⟨rfl, rfl, rfl⟩ := h
              rw [Bool.and_eq_true] at hc
              obtain ⟨cs', rfl, hcs⟩ := ha.1
              obtain ⟨ps, h1, h2, h3⟩ := lend_okC hm cs0.toList k hl1 hc.1 hcs
              obtain ⟨qs, g1, g2, g3⟩ := lend_ok hm l (k + ms1.length) hl2 hc.2 ha.2
              refine ⟨ps ++ qs, by simp [h1, g1], fun rl hrl => ⟨⟨cs', rfl, ?_⟩, g2 rl fun j q hq => ?_⟩, fun j q hq => ?_⟩
              · refine h2 rl fun j q hq => hrl j q ?_
                rw [List.getElem?_append_left (List.getElem?_eq_some_iff.1 hq).1]
                exact hq
              · have := hrl (ms1.length + j) q (by rw [← h1, List.getElem?_append_right (by omega), Nat.add_sub_cancel_left]; exact hq)
                rw [← this]; congr 1; omega
              · by_cases hj : j < ps.length
                · rw [List.getElem?_append_left hj] at hq
                  obtain ⟨k1, k2, k3, kk, k4, k5⟩ := h3 j q hq
                  exact ⟨k1, k2, k3, kk, by rw [List.getElem?_append_left (by omega)]; exact k4, k5⟩
                · rw [List.getElem?_append_right (by omega)] at hq
                  obtain ⟨k1, k2, k3, kk, k4, k5⟩ := g3 _ q hq
                  exact ⟨k1, k2, k3, kk, by rw [List.getElem?_append_right (by omega), ← h1]; exact k4, k5⟩
            · cases h
          · cases h
        · cases h

def ownB : Blk → Bool
  | .cells own _ _ => own
  | .rows own _ _ _ _ => own
  | .view .. => false
  | _ => true
theorem ownB_own {w : World} {r : Ren} {p : Place} {k : Blk} (h : BlkRel w r p k) (ho : ownB k = true) : p.own = true := by
  cases k with
  | cells own e c => simp only [ownB] at ho; rw [h.1, ho]
  | rows own pl e n row => simp only [ownB] at ho; rw [h.1, ho]
  | grow pl e n row => exact h.1
  | view pl e n row => cases ho
  | iter s pos => exact h.1
  | mp u n es => exact h.1
  | no => exact h.elim
  | gone => exact h.elim
/-- What is made beside what is there. -/
theorem MemRel.join {w0 w w' : World} {keep kp : Keep} {r rn : Ren} {m mn : Mem} (hm : MemRel w0 keep r m w) (g : MemRel w kp rn mn w') (hk : ∀ j, keep j → kp j) (ho : ∀ b p, r b = some (some p) → kp p.blk) (hown : allB ownB mn = true) :
    MemRel w0 keep (r.back rn [] m.length) (m ++ mapB (unrB [] m.length) mn) w' ∧ Ext r (r.back rn [] m.length) := by
  have hlo : ∀ {b : Nat}, b < m.length → (r.back rn [] m.length) b = r b := fun {b} hb => by simp [Ren.back, idxN, hb]
  have hhi : ∀ {b : Nat}, ¬ b < m.length → (r.back rn [] m.length) b = rn (b - m.length) := fun {b} hb => by simp [Ren.back, idxN, hb]
  have mlo : ∀ {b : Nat}, b < m.length → (m ++ mapB (unrB [] m.length) mn)[b]? = m[b]? := fun {b} hb => List.getElem?_append_left hb
  have mhi : ∀ {b : Nat}, ¬ b < m.length → (m ++ mapB (unrB [] m.length) mn)[b]? = (mn[b - m.length]?).map (unrB [] m.length) := fun {b} hb => by
    rw [List.getElem?_append_right (by omega), mapB_get]
  have newO : ∀ {b : Nat} {p : Place}, rn b = some (some p) → p.own = true := fun {b p} hb => by
    obtain ⟨k, h1, h2⟩ := g.blk b p hb
    exact ownB_own h2 (allB_iff.1 hown k (List.mem_of_getElem? h1))
  have hext : Ext r (r.back rn [] m.length) := fun b => by
    by_cases hb : b < m.length
    · exact Or.inr (Or.inl (hlo hb))
    · exact Or.inl (hm.none b (Or.inl (List.getElem?_eq_none (by omega))))
  refine ⟨⟨g.os.trans hm.os, g.tape.trans hm.tape, g.output.trans hm.output, Nat.le_trans hm.drawn g.drawn, Nat.le_trans hm.size g.size, hm.klt, fun j hj => (g.kept j (hk j hj)).trans (hm.kept j hj), fun b hb => ?_, fun b hb => ?_, fun b p hb => ?_, fun b p hb hp => ?_, fun b p hb hp hz => ?_, fun b p hb hp hz => ?_, fun b c p q hb hc hp hz => ?_, fun b c p q hb hc hp hq he => ?_⟩, hext⟩
  · by_cases hl : b < m.length
    · rw [hlo hl]; rw [mlo hl] at hb; exact hm.none b hb
    · rw [hhi hl]
      rw [mhi hl] at hb
      refine g.none _ ?_
      cases hx : mn[b - m.length]? with
      | none => exact Or.inl rfl
      | some k =>
        rw [hx] at hb
        simp only [Option.map_some, Option.some.injEq, reduceCtorEq, false_or] at hb
        exact Or.inr (by rw [unrB_no.1 hb])
  · by_cases hl : b < m.length
    · rw [hlo hl] at hb; rw [mlo hl]; exact hm.dead b hb
    · rw [hhi hl] at hb
      rw [mhi hl, g.dead _ hb]
      rfl
  · by_cases hl : b < m.length
    · rw [hlo hl] at hb
      rw [mlo hl]
      obtain ⟨k, h1, h2⟩ := hm.blk b p hb
      exact ⟨k, h1, h2.mono (g.kept _ (ho b p hb)) hext⟩
    · rw [hhi hl] at hb
      rw [mhi hl]
      obtain ⟨k, h1, h2⟩ := g.blk _ p hb
      exact ⟨_, by rw [h1]; rfl, BlkRel_back (r := r) (ks := []) rfl rfl h2⟩
  · by_cases hl : b < m.length
    · rw [hlo hl] at hb; exact hm.own b p hb hp
    · rw [hhi hl] at hb; exact fun hk2 => g.own _ p hb hp (hk _ hk2)
  · by_cases hl : b < m.length
    · rw [hlo hl] at hb; exact hm.read b p hb hp hz
    · rw [hhi hl] at hb; rw [newO hb] at hp; cases hp
  · by_cases hl : b < m.length
    · rw [hlo hl] at hb; exact hm.vw b p hb hp hz
    · rw [hhi hl] at hb; rw [newO hb] at hp; cases hp
  · intro hq he
    by_cases hl : b < m.length
    · rw [hlo hl] at hb
      by_cases hl2 : c < m.length
      · rw [hlo hl2] at hc; rw [mlo hl2]; exact hm.sep b c p q hb hc hp hz hq he
      · rw [hhi hl2] at hc
        exact absurd (he ▸ ho b p hb) (g.own _ q hc hq)
    · rw [hhi hl] at hb; rw [newO hb] at hp; cases hp
  · by_cases hl : b < m.length
    · rw [hlo hl] at hb
      by_cases hl2 : c < m.length
      · rw [hlo hl2] at hc; exact hm.inj b c p q hb hc hp hq he
      · rw [hhi hl2] at hc
        exact absurd (he ▸ ho b p hb) (g.own _ q hc hq)
    · rw [hhi hl] at hb
      by_cases hl2 : c < m.length
      · rw [hlo hl2] at hc
        exact absurd (he ▸ ho c q hc) (g.own _ p hb hp)
      · rw [hhi hl2] at hc
        have := g.inj _ _ p q hb hc hp hq he
        omega

def fromN (k : Nat) : Nat → List Nat
  | 0 => []
  | n + 1 => k :: fromN (k + 1) n
def lendG (S : List Value → Mem → Option (Ans (Value × Mem))) (args : List Value) (m : Mem) : Option (Ans (Value × Mem)) := match lendA m args 0 with
  | some (ags, ms, c) => forceL ags fun ags => forceM ms fun ms => match S ags ms with
    | some ans => some (.br c (ans.bind fun vm => forceN (fromN ms.length (vm.2.length - ms.length)) fun ks => match noDup ks && allB noViewB m with
      | true => forceM (renM ks vm.2 ks) fun mn => match allB ownB mn with
        | true => .out (unrV [] m.length (renV ks vm.1), m ++ mapB (unrB [] m.length) mn)
        | false => .fail
      | false => .fail) .fail)
    | none => none
  | none => none
/-- A call that is lent what it reads: what was there is as it was. -/
theorem lend_call {P : Program} {f : FuncId} {args ags : List Value} {m ms mu : Mem} {c : Bool} {u : Value} (hA : lendA m args 0 = some (ags, ms, c)) (hc : c = true) (hS : MemSem P f ags ms u mu) {w0 : World} {keep : Keep} {r : Ren} {args' : List Value} {w : World} (hargs : RL (R r) args args') (hm : MemRel w0 keep r m w) {Q : Ending → World → Prop}
    (hQ : ∀ v' rs w' (kp : Keep), R rs u v' → MemRel w kp rs mu w' → (∀ j, keep j → kp j) → (∀ b p, r b = some (some p) → kp p.blk) → Q (.returned v') w') : Calls P f args'.toArray w Q := by
  obtain ⟨ps, hl, hR, hB⟩ := lend_ok hm args 0 hA hc hargs
  let rl : Ren := fun i => (ps[i]?).map some
  let K : Nat → Prop := fun j => keep j ∨ ∃ b p, r b = some (some p) ∧ p.blk = j
  let kp : Keep := ⟨K, K, fun _ h => h⟩
  have hrl : ∀ {i : Nat} {p : Place}, rl i = some (some p) → ps[i]? = some p := fun {i p} hi => by
    simp only [rl] at hi
    cases hx : ps[i]? with
    | none => rw [hx] at hi; cases hi
    | some q => rw [hx] at hi; simpa using hi
  have hsm : MemRel w kp rl ms w := by
    refine ⟨rfl, rfl, rfl, Nat.le_refl _, Nat.le_refl _, fun j hj => ?_, fun _ _ => rfl, fun b hb => ?_, fun b hb => ?_, fun b p hb => ?_, fun b p hb hp => ?_, fun b p hb hp hz => ?_, fun b p hb hp hz => ?_, fun b c p q hb hc hp hz => ?_, fun b c p q hb hc hp hq he => ?_⟩
    · rcases hj with hj | ⟨b, p, hb, rfl⟩
      · have := hm.klt j hj; have := hm.size; omega
      · obtain ⟨k, _, hk⟩ := hm.blk b p hb
        exact hk.lt
    · simp only [rl]
      cases hx : ps[b]? with
      | none => rfl
      | some p =>
        obtain ⟨_, _, _, kk, h5, h6⟩ := hB b p hx
        rw [h5] at hb
        rcases hb with hb | hb
        · cases hb
        · simp only [Option.some.injEq] at hb
          subst hb
          exact ((h6 rl) : False).elim
    · simp only [rl] at hb
      cases hx : ps[b]? with
      | none => rw [hx] at hb; cases hb
      | some p => rw [hx] at hb; cases hb
    · obtain ⟨_, _, _, kk, h5, h6⟩ := hB b p (hrl hb)
      exact ⟨kk, h5, h6 rl⟩
    · rw [(hB b p (hrl hb)).1] at hp; cases hp
    · exact Or.inr (hB b p (hrl hb)).2.2.1
    · exact absurd (hB b p (hrl hb)).2.1 hz
    · exact absurd (hB b p (hrl hb)).2.1 hz
    · rw [(hB b p (hrl hb)).1] at hp; cases hp
  refine (hS.2 w kp rl args' w (hR rl fun i p hp => by simp only [Nat.zero_add, rl, hp]; rfl) hsm).mono ?_
  rintro e w' ⟨v', rs, rfl, g1, g2, g3⟩
  exact hQ v' rs w' kp g1 g2 (fun j hj => Or.inl hj) (fun b p hb => Or.inr ⟨b, p, hb, rfl⟩)
theorem lendG_ok {P : Program} {f : FuncId} {S : List Value → Mem → Option (Ans (Value × Mem))} (h : ∀ args m ans v m', S args m = some ans → ans.res = some (v, m') → MemSem P f args m v m') {args : List Value} {m m' : Mem} {ans : Ans (Value × Mem)} {v : Value}
    (ha : lendG S args m = some ans) (hr : ans.res = some (v, m')) : MemSem P f args m v m' := by
  unfold lendG at ha
  split at ha
  rotate_left
  · cases ha
  rename_i ags ms c hA
  rw [forceL_eq, forceM_eq] at ha
  split at ha
  rotate_left
  · cases ha
  rename_i ans0 hS
  simp only [Option.some.injEq] at ha
  subst ha
  rcases Ans.br_some hr with ⟨hc, hr⟩ | ⟨_, hr⟩
  rotate_left
  · simp [Ans.res] at hr
  obtain ⟨⟨u, mu⟩, h1, h2⟩ := Ans.bind_some hr
  simp only at h2
  rw [forceN_eq] at h2
  split at h2
  rotate_left
  · simp [Ans.res] at h2
  rename_i hb
  rw [Bool.and_eq_true] at hb
  rw [forceM_eq] at h2
  split at h2
  rotate_left
  · simp [Ans.res] at h2
  rename_i hown
  simp only [Ans.res, Option.some.injEq, Prod.mk.injEq] at h2
  obtain ⟨rfl, rfl⟩ := h2
  have hS := h _ _ _ _ _ hS h1
  refine ⟨hS.1, fun w0 keep r args' w hargs hm => lend_call hA hc hS hargs hm fun v' rs w' kp g1 g2 k1 k2 => ?_⟩
  obtain ⟨j1, j2⟩ := MemRel.join hm (MemRel_via g2 hb.1) k1 k2 hown
  exact ⟨v', _, rfl, R_back (r := r) (ks := []) rfl rfl (R_via (ks := fromN ms.length (mu.length - ms.length)) g1), j1, j2⟩
def lendF (S : List Value → Mem → Option (Ans (Value × Mem))) (args : List Value) (m : Mem) : Option (Ans (Value × Mem)) := forceM (thaw (killV m)) fun m => lendG S args m
theorem lendF_ok {P : Program} {f : FuncId} {S : List Value → Mem → Option (Ans (Value × Mem))} (h : ∀ args m ans v m', S args m = some ans → ans.res = some (v, m') → MemSem P f args m v m') {args : List Value} {m m' : Mem} {ans : Ans (Value × Mem)} {v : Value}
    (ha : lendF S args m = some ans) (hr : ans.res = some (v, m')) : MemSem P f args m v m' := by
  unfold lendF at ha
  rw [forceM_eq] at ha
  exact (lendG_ok h ha hr).fresh
/-- What is told of a function, told where it is lent what it reads. -/
def Cx.lend (C : Cx) (f : FuncId) : Cx := C.addM f (lendF fun args m => C.tbm f args m)
theorem Cx.lend_ok {C : Cx} (hC : CxOk C) (f : FuncId) : CxOk (C.lend f) :=
  Cx.addM_ok hC fun _ _ _ _ _ ha hr => lendF_ok (fun args m ans v m' h hr => hC.tbm f args m ans v m' h hr) ha hr
/-- A call that makes nothing and changes nothing. -/
def lendP (S : List Value → Mem → Option (Ans (Value × Mem))) (args : List Value) (m : Mem) : Option (Ans (Value × Mem)) := match lendA m args 0 with
  | some (ags, ms, c) => forceL ags fun ags => forceM ms fun ms => match S ags ms with
    | some ans => some (.br c (ans.bind fun vm => match nad vm.1 with
      | true => .out (vm.1, m)
      | false => .fail) .fail)
    | none => none
  | none => none
theorem lendP_spec {S : List Value → Mem → Option (Ans (Value × Mem))} {args : List Value} {m m' : Mem} {ans : Ans (Value × Mem)} {v : Value} (ha : lendP S args m = some ans) (hr : ans.res = some (v, m')) :
    m' = m ∧ ∃ ags ms mu a0, lendA m args 0 = some (ags, ms, true) ∧ S ags ms = some a0 ∧ a0.res = some (v, mu) ∧ nad v = true := by
  unfold lendP at ha
  split at ha
  rotate_left
  · cases ha
  rename_i ags ms c hA
  rw [forceL_eq, forceM_eq] at ha
  split at ha
  rotate_left
  · cases ha
  rename_i ans0 hS
  simp only [Option.some.injEq] at ha
  subst ha
  rcases Ans.br_some hr with ⟨hc, hr⟩ | ⟨_, hr⟩
  rotate_left
  · simp [Ans.res] at hr
  obtain ⟨⟨u, mu⟩, h1, h2⟩ := Ans.bind_some hr
  simp only at h2
  split at h2
  · rename_i hp
    simp only [Ans.res, Option.some.injEq, Prod.mk.injEq] at h2
    obtain ⟨rfl, rfl⟩ := h2
    exact ⟨rfl, ags, ms, mu, ans0, by rw [hA, hc], hS, h1, hp⟩
  · simp [Ans.res] at h2
theorem lendP_ok {P : Program} {f : FuncId} {S : List Value → Mem → Option (Ans (Value × Mem))} (h : ∀ args m ans v m', S args m = some ans → ans.res = some (v, m') → MemSem P f args m v m') {args : List Value} {m m' : Mem} {ans : Ans (Value × Mem)} {v : Value}
    (ha : lendP S args m = some ans) (hr : ans.res = some (v, m')) : MemSem P f args m v m' := by
  obtain ⟨rfl, ags, ms, mu, a0, hA, hS, h1, hp⟩ := lendP_spec ha hr
  have hS := h _ _ _ _ _ hS h1
  refine ⟨hS.1, fun w0 keep r args' w hargs hm => lend_call hA rfl hS hargs hm fun v' rs w' kp g1 g2 k1 k2 => ?_⟩
  obtain ⟨j1, j2⟩ := MemRel.join hm (MemRel_via (ks := []) g2 rfl) k1 k2 rfl
  simp only [renM, mapB, List.append_nil] at j1
  exact ⟨v', _, rfl, R_nad hp g1, j1, j2⟩
theorem lendC_set {m : Mem} {q : Nat} {k : Blk} (hq : m[q]? = some .no) : ∀ (args : List Value) (i : Nat) (x : List Value × Mem × Bool), lendC m args i = some x → lendC (m.set q k) args i = some x
  | [], _, _, h => h
  | v :: l, i, x, h => by
    simp only [lendC] at h ⊢
    split at h
    · rename_i b j n e hv
      split at h
      · rename_i e2 n2 row hrow
        have hne : q ≠ b := fun e => by subst e; rw [hq] at hrow; cases hrow
        rw [List.getElem?_set_ne hne, hrow]
        simp only
        split at h
        · rename_i he
          try simp only [he]
          split at h
          · rename_i a1 m1 c1 hl
            rw [lendC_set hq l (i + 1) _ hl]
            exact h
          · cases h
        · cases h
      · cases h
    · split at h
      · rename_i hp
        try simp only [hp]
        split at h
        · rename_i a1 m1 c1 hl
          rw [lendC_set hq l i _ hl]
          exact h
        · cases h
      · cases h
theorem lendA_set {m : Mem} {q : Nat} {k : Blk} (hq : m[q]? = some .no) : ∀ (args : List Value) (i : Nat) (x : List Value × Mem × Bool), lendA m args i = some x → lendA (m.set q k) args i = some x
  | [], _, _, h => h
  | v :: l, i, x, h => by
    simp only [lendA] at h ⊢
    split at h
    · rename_i b j n e hv
      split at h
      · rename_i e2 n2 row hrow
        have hne : q ≠ b := fun e => by subst e; rw [hq] at hrow; cases hrow
        rw [List.getElem?_set_ne hne, hrow]
        simp only
        split at h
        · rename_i he
          try simp only [he]
          split at h
          · rename_i a1 m1 c1 hl
            rw [lendA_set hq l (i + 1) _ hl]
            exact h
          · cases h
        · cases h
      · cases h
    · split at h
      · rename_i hp
        try simp only [hp]
        split at h
        · rename_i a1 m1 c1 hl
          rw [lendA_set hq l i _ hl]
          exact h
        · cases h
      · rename_i hp
        try simp only [hp]
        split at h
        · rename_i cs0 _
          split at h
          · rename_i cs1 ms1 c1 hl1
            split at h
            · rename_i ags2 ms2 c2 hl2
              rw [lendC_set hq cs0.toList i _ hl1]
              simp only
              rw [lendA_set hq l (i + ms1.length) _ hl2]
              exact h
            · cases h
          · cases h
        · cases h
theorem allB_set {p : Blk → Bool} {m : Mem} {q : Nat} {k : Blk} (h : allB p m = true) (hk : p k = true) : allB p (m.set q k) = true := allB_iff.2 fun x hx => by
  rcases List.mem_or_eq_of_mem_set hx with h1 | h1
  · exact allB_iff.1 h x h1
  · rw [h1]; exact hk
theorem lendG_new {S : List Value → Mem → Option (Ans (Value × Mem))} {args : List Value} {m m' : Mem} {ans : Ans (Value × Mem)} {v : Value} (ha : lendG S args m = some ans) (hr : ans.res = some (v, m')) : ∃ new, m' = m ++ new ∧ ∀ (q : Nat) k, noViewB k = true → m[q]? = some .no → ∃ ans', lendG S args (m.set q k) = some ans' ∧ ans'.res = some (v, m.set q k ++ new) := by
  unfold lendG at ha
  split at ha
  rotate_left
  · cases ha
  rename_i ags ms c hA
  rw [forceL_eq, forceM_eq] at ha
  split at ha
  rotate_left
  · cases ha
  rename_i a0 hS
  simp only [Option.some.injEq] at ha
  subst ha
  rcases Ans.br_some hr with ⟨hc, hr⟩ | ⟨_, hr⟩
  rotate_left
  · simp [Ans.res] at hr
  obtain ⟨⟨u, mu⟩, h1, h2⟩ := Ans.bind_some hr
  simp only at h2
  rw [forceN_eq] at h2
  split at h2
  rotate_left
  · simp [Ans.res] at h2
  rename_i hb
  rw [forceM_eq] at h2
  split at h2
  rotate_left
  · simp [Ans.res] at h2
  rename_i hown
  simp only [Ans.res, Option.some.injEq, Prod.mk.injEq] at h2
  obtain ⟨rfl, rfl⟩ := h2
  refine ⟨_, rfl, fun q k hk hq => ?_⟩
  unfold lendG
  rw [lendA_set hq args 0 _ hA]
  simp only [forceL_eq, forceM_eq, forceN_eq, hS]
  refine ⟨_, rfl, ?_⟩
  rw [Bool.and_eq_true] at hb
  subst hc
  simp only [Ans.res]
  rw [Ans.res_bind, h1]
  simp only [Option.bind_some, hb.1, allB_set hb.2 hk, Bool.and_self, hown, List.length_set]
  rfl
theorem lendP_rd {S : List Value → Mem → Option (Ans (Value × Mem))} {args : List Value} {m m' : Mem} {ans : Ans (Value × Mem)} {v : Value} (ha : lendP S args m = some ans) (hr : ans.res = some (v, m')) :
    m' = m ∧ ∀ (q : Nat) k, m[q]? = some .no → ∃ ans', lendP S args (m.set q k) = some ans' ∧ ans'.res = some (v, m.set q k) := by
  obtain ⟨e, ags, ms, mu, a0, hA, hS, h1, hp⟩ := lendP_spec ha hr
  refine ⟨e, fun q k hq => ?_⟩
  unfold lendP
  rw [lendA_set hq args 0 _ hA]
  simp only [forceL_eq, forceM_eq, hS]
  refine ⟨_, rfl, ?_⟩
  simp only [Ans.res]
  rw [Ans.res_bind, h1]
  simp only [Option.bind_some, hp]
  rfl
end Go.Proofs.Ytjhijkdicmbbiaa.Vx


namespace Go.Proofs.Ytjhijkdicmbbiaa.Vx
open Go Go.RowKit
/-- One road of a tree; on the others nothing is told. -/
def pickA {α : Type} : List Bool → Ans α → Ans α
  | true :: p, .br b t _ => .br b (pickA p t) .fail
  | false :: p, .br b _ f => .br b .fail (pickA p f)
  | _, x => x
theorem pickA_ok {α : Type} {a : α} : ∀ (p : List Bool) (x : Ans α), (pickA p x).res = some a → x.res = some a
  | [], x, h => by cases x <;> exact h
  | true :: p, .br b t f, h => by
    rcases Ans.br_some h with ⟨hb, h1⟩ | ⟨hb, h1⟩
    · subst hb; exact pickA_ok p t h1
    · simp [Ans.res] at h1
  | false :: p, .br b t f, h => by
    rcases Ans.br_some h with ⟨hb, h1⟩ | ⟨hb, h1⟩
    · simp [Ans.res] at h1
    · subst hb; exact pickA_ok p f h1
  | true :: p, .out a, h => h
  | false :: p, .out a, h => h
  | true :: p, .fail, h => h
  | false :: p, .fail, h => h
/-- The same, with what it answers as it is. -/
def Cx.road (C : Cx) (f : FuncId) (p : List Bool) : Cx := C.addM f (lendF fun args m => match C.tbm f args m with
  | some ans => some (pickA p ans)
  | none => none)
theorem Cx.road_ok {C : Cx} (hC : CxOk C) (f : FuncId) (p : List Bool) : CxOk (C.road f p) :=
  Cx.addM_ok hC fun _ _ _ _ _ ha hr => lendF_ok (fun args m ans v m' h hr => by
    split at h
    · rename_i a0 h0
      simp only [Option.some.injEq] at h
      subst h
      exact hC.tbm f args m a0 v m' h0 (pickA_ok p a0 hr)
    · cases h) ha hr
/-- A function that only looks (1), or that makes something beside what is there (2). -/
def Cx.roadS (C : Cx) (f : FuncId) (p : List Bool) (args : List Value) (m : Mem) : Option (Ans (Value × Mem)) := match C.tbm f args m with
  | some ans => some (pickA p ans)
  | none => none
theorem Cx.roadS_ok {C : Cx} (hC : CxOk C) {f : FuncId} {p : List Bool} (args : List Value) (m : Mem) (ans : Ans (Value × Mem)) (v : Value) (m' : Mem) (h : C.roadS f p args m = some ans) (hr : ans.res = some (v, m')) : MemSem C.P f args m v m' := by
  unfold Cx.roadS at h
  split at h
  · rename_i a0 h0
    simp only [Option.some.injEq] at h
    subst h
    exact hC.tbm f args m a0 v m' h0 (pickA_ok p a0 hr)
  · cases h
def Cx.putRd (C : Cx) (f : FuncId) (z : Nat) (F : List Value → Mem → Option (Ans (Value × Mem))) : Cx := { C with
  tbm := fun g args m => match Nat.beq g f with
    | true => F args m
    | false => C.tbm g args m
  rd := fun g => match Nat.beq g f with
    | true => z
    | false => C.rd g
  inl := fun g => match Nat.beq g f with
    | true => none
    | false => C.inl g }
theorem Cx.putRd_ok {C : Cx} (hC : CxOk C) {f : FuncId} {z : Nat} {F : List Value → Mem → Option (Ans (Value × Mem))} (h0 : ∀ args m ans v m', F args m = some ans → ans.res = some (v, m') → MemSem C.P f args m v m')
    (h1 : z = 1 → ∀ args m ans v m', F args m = some ans → ans.res = some (v, m') → m' = m ∧ ∀ (q : Nat) k, m[q]? = some .no → ∃ ans', F args (m.set q k) = some ans' ∧ ans'.res = some (v, m.set q k))
    (h2 : z = 2 → ∀ args m ans v m', F args m = some ans → ans.res = some (v, m') → ∃ new, m' = m ++ new ∧ ∀ (q : Nat) k, noViewB k = true → m[q]? = some .no → ∃ ans', F args (m.set q k) = some ans' ∧ ans'.res = some (v, m.set q k ++ new)) : CxOk (C.putRd f z F) := by
  refine ⟨hC.mixed, hC.tbl, ?_, hC.keys, fun g fn hg => ?_, hC.lp, ?_, ?_, hC.ext⟩
  rotate_left
  · simp only [Cx.putRd] at hg
    cases hb : Nat.beq g f with
    | true => simp only [hb] at hg; cases hg
    | false => simp only [hb] at hg; exact hC.inl g fn hg
  rotate_right
  · intro g args m ans v m' ha hr
    simp only [Cx.putRd] at ha
    cases hg : Nat.beq g f with
    | false => simp only [hg] at ha; exact hC.tbm g args m ans v m' ha hr
    | true =>
      have hgf := Nat.eq_of_beq_eq_true hg
      subst hgf
      simp only [hg] at ha
      exact h0 args m ans v m' ha hr
  · intro g hg args m ans v m' ha hr
    simp only [Cx.putRd] at hg ha ⊢
    cases hb : Nat.beq g f with
    | false => simp only [hb] at hg ha ⊢; exact hC.rd g hg args m ans v m' ha hr
    | true => simp only [hb] at hg ha ⊢; exact h1 hg args m ans v m' ha hr
  · intro g hg args m ans v m' ha hr
    simp only [Cx.putRd] at hg ha ⊢
    cases hb : Nat.beq g f with
    | false => simp only [hb] at hg ha ⊢; exact hC.rd2 g hg args m ans v m' ha hr
    | true => simp only [hb] at hg ha ⊢; exact h2 hg args m ans v m' ha hr
def Cx.looks (C : Cx) (f : FuncId) (p : List Bool) : Cx := C.putRd f 1 (lendP (C.roadS f p))
theorem Cx.looks_ok {C : Cx} (hC : CxOk C) (f : FuncId) (p : List Bool) : CxOk (C.looks f p) :=
  Cx.putRd_ok hC (fun _ _ _ _ _ ha hr => lendP_ok (Cx.roadS_ok hC) ha hr) (fun _ _ _ _ _ _ ha hr => lendP_rd ha hr) (fun h => by cases h)
def Cx.makes (C : Cx) (f : FuncId) (p : List Bool) : Cx := C.putRd f 2 (lendG (C.roadS f p))
theorem Cx.makes_ok {C : Cx} (hC : CxOk C) (f : FuncId) (p : List Bool) : CxOk (C.makes f p) :=
  Cx.putRd_ok hC (fun _ _ _ _ _ ha hr => lendG_ok (Cx.roadS_ok hC) ha hr) (fun h => by cases h) (fun _ _ _ _ _ _ ha hr => lendG_new ha hr)
end Go.Proofs.Ytjhijkdicmbbiaa.Vx


namespace Go.Proofs.Ytjhijkdicmbbiaa.Vx
open Go Go.RowKit
theorem CodeSem.seq {P : Program} {B : Nat} {x y : Code} {st s s' : St} {e : Exit} (h1 : CodeSem P B x st .normal s) (h2 : CodeSem P B y s e s') : CodeSem P B (.seq x y) st e s' := fun Q w0 keep r0 a w hB hQ hr =>
  wp_seq (h1 _ w0 keep r0 a w hB (fun a' w' hr' => h2 Q w0 keep r0 a' w' hB hQ hr') hr)
theorem CodeSem.like {P : Program} {B : Nat} {x : Code} {st st2 s : St} {e : Exit} (h : CodeSem P B x st2 e s) (hl : StLike st st2) : CodeSem P B x st e s := fun Q w0 keep r0 a w hB hQ hr =>
  h Q w0 keep r0 a w hB hQ (hr.like hl)
def seqDrop : Nat → Code → Code
  | 0, c => c
  | k + 1, .seq _ y => seqDrop k y
  | _ + 1, _ => .skip
theorem seqDrop_loops : ∀ (k : Nat) (c : Code), ∀ x ∈ loopsIn (seqDrop k c), x ∈ loopsIn c
  | 0, c, x, h => h
  | k + 1, c, x, h => by
    cases c with
    | seq p q => simp only [seqDrop] at h; simp only [loopsIn, List.mem_append]; exact Or.inr (seqDrop_loops k q x h)
    | _ => simp [seqDrop, loopsIn] at h
/-- So many statements, one behind the other. -/
def exSeq (n : Nat) (C : Cx) : Nat → Code → St → Ans St
  | 0, _, st => .out st
  | k + 1, c, st => match c with
    | .seq x y => (exCode n C x st).bind fun es => match es.1 with
      | .normal => exSeq n C k y es.2
      | _ => .fail
    | _ => .fail
theorem exSeq_sound {C : Cx} (hC : CxOk C) {n f B : Nat} {e : Exit} {s' : St} : ∀ (k : Nat) (c : Code) (st s : St), InBody (C.into f B) c → (exSeq n (C.into f B) k c st).res = some s → CodeSem C.P B (seqDrop k c) s e s' → CodeSem C.P B c st e s'
  | 0, c, st, s, _, h, h2 => by
    simp only [exSeq, Ans.res, Option.some.injEq] at h
    subst h
    exact h2
  | k + 1, c, st, s, hin, h, h2 => by
    cases c with
    | seq x y =>
      simp only [exSeq] at h
      obtain ⟨⟨e1, s1⟩, h1, h3⟩ := Ans.bind_some h
      have hx := (exCode_sound hC n).1 f B x (hin.sub fun z hz => by simp [loopsIn, hz]) st e1 s1 h1
      simp only at h3
      cases e1 with
      | normal => exact hx.seq (exSeq_sound hC k y s1 s (hin.sub fun z hz => by simp [loopsIn, hz]) h3 h2)
      | _ => simp [Ans.res] at h3
    | _ => simp [exSeq, Ans.res] at h
/-- A piece: so many statements, and what is told on behind them (slots, blocks). -/
def segR (C : Cx) (n k : Nat) (c : Code) (mask : List Nat) (sp : List From) (st : St) : Option St := ((exSeq n C k c st).bind fun s => (cleanA mask mask sp sp C.fb (.ret, s)).bind fun es => .out es.2).res
theorem seg_rule {C : Cx} (hC : CxOk C) {f B n k : Nat} {c : Code} {mask : List Nat} {sp : List From} {st s s' : St} {e : Exit} (hin : InBody (C.into f B) c) (h : segR (C.into f B) n k c mask sp st = some s) (h2 : CodeSem C.P B (seqDrop k c) s e s') : CodeSem C.P B c st e s' := by
  unfold segR at h
  obtain ⟨s1, h3, h4⟩ := Ans.bind_some h
  obtain ⟨⟨e2, s2⟩, h5, h6⟩ := Ans.bind_some h4
  simp only [Ans.res, Option.some.injEq] at h6
  subst h6
  exact exSeq_sound hC k c st s1 hin h3 fun Q w0 keep r0 a w hB hQ hr => h2 Q w0 keep r0 a w hB hQ (clean_rel h5 hB hr).2
/-- The last piece. -/
theorem end_rule {C : Cx} (hC : CxOk C) {f B n : Nat} {c : Code} {mask : List Nat} {sp : List From} {st s : St} {e : Exit} (hin : InBody (C.into f B) c) (h : roundR (C.into f B) n c mask mask sp sp st = some (e, s)) : CodeSem C.P B c st e s := by
  obtain ⟨⟨e1, s1⟩, h3, h4⟩ := Ans.bind_some h
  intro Q w0 keep r0 a w hB hQ hr
  refine (exCode_sound hC n).1 f B c hin _ _ _ h3 _ w0 keep r0 a w hB ?_ hr
  intro a' w' hr'
  obtain ⟨he, hs⟩ := clean_rel h4 hB hr'
  subst he
  exact hQ a' w' hs
def bodyOf (P : Program) (f : Nat) : Code := match P.funcs[f]? with
  | some fn => match fn.body with
    | some b => b
    | none => .skip
  | none => .skip
theorem bodyOf_in {C : Cx} {f B k : Nat} {fn : Func} {b : Code} (hf : C.P.funcs[f]? = some fn) (hb : fn.body = some b) : InBody (C.into f B) (seqDrop k b) :=
  Or.inl ⟨fn, b, hf, hb, seqDrop_loops k b⟩
theorem seqDrop_drop (k l : Nat) : ∀ (c : Code), seqDrop l (seqDrop k c) = seqDrop (k + l) c := by
  induction k with
  | zero => intro c; rw [Nat.zero_add]; rfl
  | succ k ih =>
    intro c
    rw [Nat.succ_add]
    cases c with
    | seq p q => simp only [seqDrop]; exact ih q
    | _ => simp only [seqDrop]; cases l <;> rfl
/-- No error but this one. -/
def wantV (z : Int) : Value → Bool × Value
  | .int k e => (e == z, .int k z)
  | v => (true, v)
def wantA (z : Int) (x : Ans (Value × Mem)) : Ans (Value × Mem) := x.bind fun vm => .br (wantV z vm.1).1 (.out ((wantV z vm.1).2, vm.2)) .fail
/-- A function of which one road is wanted, with this answer. -/
def Cx.want (C : Cx) (f : FuncId) (p : List Bool) (z : Int) : Cx := C.addM f (lendF fun args m => match C.tbm f args m with
  | some ans => some (wantA z (pickA p ans))
  | none => none)
end Go.Proofs.Ytjhijkdicmbbiaa.Vx


namespace Go.Proofs.Ytjhijkdicmbbiaa.Vx
open Go Go.RowKit
theorem CodeSem.loop {P : Program} {B : Nat} {x : Code} {st s : St} {e : Exit} (h : LoopSem P B x st e s) : CodeSem P B (.loop x) st e s := fun Q w0 keep r0 a w hB hQ hr => (h Q w0 keep r0 a w hB hQ hr).wp
theorem CodeSem.block {P : Program} {B id : Nat} {x : Code} {st s : St} (h : CodeSem P B x st (.exit id) s) : CodeSem P B (.block id x) st .normal s := fun Q w0 keep r0 a w hB hQ hr =>
  wp_block (h _ w0 keep r0 a w hB (fun a' w' hr' => by
    simp only [Exit.inBlock]
    rw [if_pos trivial]
    exact hQ a' w' hr') hr)
/-- The k-th statement. -/
def stmt (k : Nat) (c : Code) : Code := match seqDrop k c with
  | .seq x _ => x
  | _ => .skip
def hasStmt (k : Nat) (c : Code) : Bool := match seqDrop k c with
  | .seq _ _ => true
  | _ => false
theorem stmt_rule {P : Program} {B k : Nat} {c : Code} {st s s' : St} {e : Exit} (hk : hasStmt k c = true) (h1 : CodeSem P B (stmt k c) st .normal s) (h2 : CodeSem P B (seqDrop (k + 1) c) s e s') : CodeSem P B (seqDrop k c) st e s' := by
  unfold hasStmt at hk
  unfold stmt at h1
  have e2 := seqDrop_drop k 1 c
  cases hc : seqDrop k c with
  | seq x y =>
    rw [hc] at h1 e2
    simp only [seqDrop] at e2
    rw [← e2] at h2
    exact h1.seq h2
  | _ => rw [hc] at hk; cases hk
/-- A 'for': what is ahead of it, then the loop. -/
def forHead : Code → Code
  | .seq x _ => x
  | _ => .skip
def forBody : Code → Code
  | .seq _ (.block _ (.loop x)) => x
  | _ => .skip
def isFor (id : Nat) : Code → Bool
  | .seq _ (.block i (.loop _)) => Nat.beq i id
  | _ => false
theorem for_rule {P : Program} {B id : Nat} {c : Code} {st s s' : St} (hf : isFor id c = true) (h1 : CodeSem P B (forHead c) st .normal s) (h2 : LoopSem P B (forBody c) s (.exit id) s') : CodeSem P B c st .normal s' := by
  unfold isFor at hf
  split at hf
  · rename_i x i y
    have := Nat.eq_of_beq_eq_true hf
    subst this
    exact h1.seq (CodeSem.block (CodeSem.loop h2))
  · cases hf
theorem for_in {C : Cx} {f B id k : Nat} {fn : Func} {b : Code} (hf : C.P.funcs[f]? = some fn) (hb : fn.body = some b) (hs : isFor id (stmt k b) = true) : InBody (C.into f B) (forHead (stmt k b)) ∧ InBody (C.into f B) (forBody (stmt k b)) := by
  have h0 : ∀ x ∈ loopsIn (stmt k b), x ∈ loopsIn b := fun x hx => by
    refine seqDrop_loops k b x ?_
    unfold stmt at hx
    cases hc : seqDrop k b with
    | seq p q => rw [hc] at hx; simp only at hx; simp [loopsIn, hx]
    | _ => rw [hc] at hx; simp [loopsIn] at hx
  unfold isFor at hs
  split at hs
  · rename_i x i y hst
    rw [hst] at h0 ⊢
    refine ⟨Or.inl ⟨fn, b, hf, hb, fun z hz => h0 z (by simp only [forHead] at hz; simp [loopsIn, hz])⟩, Or.inl ⟨fn, b, hf, hb, fun z hz => h0 z (by simp only [forBody] at hz; simp [loopsIn, hz])⟩⟩
  · cases hs
end Go.Proofs.Ytjhijkdicmbbiaa.Vx


namespace Go.Proofs.Ytjhijkdicmbbiaa.Vx
open Go Go.RowKit
theorem CodeSem.out {P : Program} {B : Nat} {x y : Code} {st s : St} {e : Exit} (h : CodeSem P B x st e s) (he : e ≠ .normal) : CodeSem P B (.seq x y) st e s := fun Q w0 keep r0 a w hB hQ hr =>
  wp_seq (h _ w0 keep r0 a w hB (fun a' w' hr' => by cases e <;> first | exact absurd rfl he | exact hQ a' w' hr') hr)
theorem CodeSem.blockN {P : Program} {B id : Nat} {x : Code} {st s : St} (h : CodeSem P B x st .normal s) : CodeSem P B (.block id x) st .normal s := fun _ w0 keep r0 a w hB hQ hr =>
  wp_block (h _ w0 keep r0 a w hB (fun a' w' hr' => hQ a' w' hr') hr)
theorem CodeSem.blockR {P : Program} {B id : Nat} {x : Code} {st s : St} (h : CodeSem P B x st .ret s) : CodeSem P B (.block id x) st .ret s := fun _ w0 keep r0 a w hB hQ hr =>
  wp_block (h _ w0 keep r0 a w hB (fun a' w' hr' => hQ a' w' hr') hr)
/-- States that tell the same, behind code. -/
theorem CodeSem.likes {P : Program} {B : Nat} {x : Code} {st s s2 : St} {e : Exit} (h : CodeSem P B x st e s) (hl : StLike s s2) : CodeSem P B x st e s2 := fun Q w0 keep r0 a w hB hQ hr =>
  h Q w0 keep r0 a w hB (fun a' w' hr' => hQ a' w' (hr'.like hl)) hr
/-- Parts of code. -/
def cL : Code → Code
  | .seq x _ => x
  | .block _ x => x
  | .loop x => x
  | .cond _ x _ => x
  | _ => .skip
def cR : Code → Code
  | .seq _ y => y
  | .cond _ _ y => y
  | _ => .skip
theorem cL_loops (c : Code) : ∀ x ∈ loopsIn (cL c), x ∈ loopsIn c := by
  cases c <;> simp [cL, loopsIn] <;> intro x h <;> simp [h]
theorem cR_loops (c : Code) : ∀ x ∈ loopsIn (cR c), x ∈ loopsIn c := by
  cases c <;> simp [cR, loopsIn] <;> intro x h <;> simp [h]
theorem InBody.left {C : Cx} {c : Code} (h : InBody C c) : InBody C (cL c) := h.sub (cL_loops c)
theorem InBody.right {C : Cx} {c : Code} (h : InBody C c) : InBody C (cR c) := h.sub (cR_loops c)
end Go.Proofs.Ytjhijkdicmbbiaa.Vx


namespace Go.Proofs.Ytjhijkdicmbbiaa.Vx
open Go Go.RowKit
theorem loop_leave {C : Cx} (hC : CxOk C) {f B n : Nat} {x : Code} {st s : St} {e : Exit} {mask mout : List Nat} {sp so : List From} (hin : InBody (C.into f B) x) (h : roundR (C.into f B) n x mask mout sp so st = some (e, s)) (he : e ≠ .normal) : LoopSem C.P B x st e s := by
  intro Q w0 keep r0 a w hB hQ hr
  obtain ⟨⟨e1, s1⟩, h3, h4⟩ := Ans.bind_some h
  refine LoopsTo.round ((exCode_sound hC n).1 f B x hin _ _ _ h3 _ w0 keep r0 a w hB ?_ hr)
  intro a' w' hr'
  obtain ⟨rfl, hs⟩ := clean_rel h4 hB hr'
  revert he hQ hs
  cases e <;> intro he hQ hs <;> first | exact absurd rfl he | exact hQ a' w' hs
theorem loop_next {C : Cx} (hC : CxOk C) {f B n : Nat} {x : Code} {st s s2 s3 : St} {e : Exit} {mask mout : List Nat} {sp so : List From} (hin : InBody (C.into f B) x) (h : roundR (C.into f B) n x mask mout sp so st = some (.normal, s)) (hl : StLike s s2) (hn : LoopSem C.P B x s2 e s3) : LoopSem C.P B x st e s3 := by
  intro Q w0 keep r0 a w hB hQ hr
  obtain ⟨⟨e1, s1⟩, h3, h4⟩ := Ans.bind_some h
  refine LoopsTo.round ((exCode_sound hC n).1 f B x hin _ _ _ h3 _ w0 keep r0 a w hB ?_ hr)
  intro a' w' hr'
  obtain ⟨he, hs⟩ := clean_rel h4 hB hr'
  subst he
  exact hn Q w0 keep r0 a' w' hB hQ (hs.like hl)
/-- A statement that returns. -/
theorem stmt_out {P : Program} {B k : Nat} {c : Code} {st s : St} {e : Exit} (hk : hasStmt k c = true) (h1 : CodeSem P B (stmt k c) st e s) (he : e ≠ .normal) : CodeSem P B (seqDrop k c) st e s := by
  unfold hasStmt at hk
  unfold stmt at h1
  cases hc : seqDrop k c with
  | seq x y => rw [hc] at h1; exact h1.out he
  | _ => rw [hc] at hk; cases hk
theorem stmt_in {C : Cx} {f B k : Nat} {fn : Func} {b : Code} (hf : C.P.funcs[f]? = some fn) (hb : fn.body = some b) : InBody (C.into f B) (stmt k b) := by
  refine Or.inl ⟨fn, b, hf, hb, fun x hx => ?_⟩
  refine seqDrop_loops k b x ?_
  unfold stmt at hx
  cases hc : seqDrop k b with
  | seq p q => rw [hc] at hx; simp only at hx; simp [loopsIn, hx]
  | _ => rw [hc] at hx; simp [loopsIn] at hx
/-- A piece whose masks hang on how it ends. -/
theorem end_rule' {C : Cx} (hC : CxOk C) {f B n : Nat} {c : Code} {mask mout : List Nat} {sp so : List From} {st s : St} {e : Exit} (hin : InBody (C.into f B) c) (h : roundR (C.into f B) n c mask mout sp so st = some (e, s)) : CodeSem C.P B c st e s := by
  obtain ⟨⟨e1, s1⟩, h3, h4⟩ := Ans.bind_some h
  intro Q w0 keep r0 a w hB hQ hr
  refine (exCode_sound hC n).1 f B c hin _ _ _ h3 _ w0 keep r0 a w hB ?_ hr
  intro a' w' hr'
  obtain ⟨he, hs⟩ := clean_rel h4 hB hr'
  subst he
  exact hQ a' w' hs
/-- A function without memory, told by a proof. -/
theorem Cx.addP_ok {C : Cx} (hC : CxOk C) {f : FuncId} {F : List Value → Option (Bool × Value)} (h : ∀ args v, (∀ x ∈ args, Vx.plain x = true) → F args = some (true, v) → Vx.plain v = true → PlainSem C.P f args v) : CxOk (C.addR f F) := by
  refine ⟨hC.mixed, ?_, hC.tbm, hC.keys, hC.inl, hC.lp, hC.rd, hC.rd2, hC.ext⟩
  intro g args v hargs hv hp
  simp only [Cx.addR] at hv
  cases hg : Nat.beq g f with
  | false => simp only [hg] at hv; exact hC.tbl g args v hargs hv hp
  | true =>
    have hgf : g = f := Nat.eq_of_beq_eq_true hg
    subst hgf
    simp only [hg] at hv
    exact h args v hargs hv hp
def gn {α : Type} (b : Bool) (x : Option α) : Option α := match b with
  | true => none
  | false => x
theorem bd_ok' {i k : Nat} (h : i < k) : boundsI (i : Int) k = true := by simp [boundsI]; omega
end Go.Proofs.Ytjhijkdicmbbiaa.Vx


namespace Go.Proofs.Ytjhijkdicmbbiaa.Vx
open Go Go.RowKit
def Cx.addI (C : Cx) (f : FuncId) : Cx := { C with inl := fun g => match Nat.beq g f with
  | true => C.P.funcs[g]?
  | false => C.inl g }
theorem Cx.addI_ok {C : Cx} (hC : CxOk C) {f : FuncId} (hok : okFunc C.P f = true) : CxOk (C.addI f) := by
  refine ⟨hC.mixed, hC.tbl, hC.tbm, hC.keys, fun g fn hg => ?_, hC.lp, hC.rd, hC.rd2, hC.ext⟩
  simp only [Cx.addI] at hg
  cases hb : Nat.beq g f with
  | false => rw [hb] at hg; exact hC.inl g fn hg
  | true =>
    rw [hb] at hg
    have := Nat.eq_of_beq_eq_true hb
    subst this
    exact ⟨hg, okFunc_name hok hg⟩
end Go.Proofs.Ytjhijkdicmbbiaa.Vx


namespace Go.Proofs.Ytjhijkdicmbbiaa.Vx
open Go Go.RowKit

def keepAll (W : World) : Keep := ⟨fun j => j < W.heap.size, fun j => j < W.heap.size, fun _ h => h⟩
/-- An argument: a float, a complex number, a plain value. -/
inductive FD where
  | n (k : FloatKind) (b : Nat)
  | c (k : FloatKind) (a b : Nat)
  | v (v : Value)
end Go.Proofs.Ytjhijkdicmbbiaa.Vx


namespace Go.Proofs.Ytjhijkdicmbbiaa
open Go Vx
def inlinedr : List Nat := [20, 21, 22, 23, 24, 25, 27, 28, 29, 30, 31, 32, 33, 34, 35, 36, 37, 38, 39, 40, 41, 42, 43, 44, 45, 46, 47, 57, 58, 59, 60, 61, 62, 63, 64, 65, 66, 67, 68, 69, 70, 71, 72, 73, 74, 75, 76, 77, 78, 79, 80, 82, 83, 84, 92, 93, 94, 95, 96, 97, 98, 99, 100, 101, 102, 103, 104, 105, 106, 107, 108, 109, 110, 111, 112, 113, 114, 115, 116, 117, 118, 119, 120, 121, 122, 123, 124, 125, 127, 131, 132, 133, 134, 137, 139, 140, 141, 142, 143, 144]
def Crb (P : Program) : Cx := base P inlinedr
theorem okrb : CxOk (Crb Try.prog) := base_ok (by kernel_rfl) (by kernel_rfl)
def Crx138 (P : Program) : Cx := (Crb P).addX 138 6
theorem okrx138 : CxOk (Crx138 Try.prog) := Cx.addX_ok okrb Try.func138 (by kernel_rfl) (by kernel_rfl) (by kernel_rfl) (by kernel_rfl)
def Crx148 (P : Program) : Cx := (Crx138 P).addX 148 7
theorem okrx148 : CxOk (Crx148 Try.prog) := Cx.addX_ok okrx138 Try.func148 (by kernel_rfl) (by kernel_rfl) (by kernel_rfl) (by kernel_rfl)
def Cr0 (P : Program) : Cx := Crx148 P
theorem okr0 : CxOk (Cr0 Try.prog) := okrx148
end Go.Proofs.Ytjhijkdicmbbiaa


namespace Go.Proofs.Ytjhijkdicmbbiaa.Vx
open Go

/-- The number of 64 bits that is left of a whole number. -/
def W (n : Int) : Int := IntKind.wrap .i64 n

theorem W_eq (n : Int) : W n = (n + 9223372036854775808) % 18446744073709551616 - 9223372036854775808 := by
  unfold W IntKind.wrap
  simp only [IntKind.bits, IntKind.signed]
  have h1 : ((2 : Int) ^ 64) = 18446744073709551616 := rfl
  have h2 : ((2 : Int) ^ (64 - 1)) = 9223372036854775808 := rfl
  simp only [h1, h2, Bool.true_and, decide_eq_true_eq]
  split <;> omega

theorem W_id {n : Int} (h1 : -9223372036854775808 ≤ n) (h2 : n ≤ 9223372036854775807) : W n = n := by rw [W_eq]; omega
end Go.Proofs.Ytjhijkdicmbbiaa.Vx


namespace Go.Proofs.Ytjhijkdicmbbiaa.Vx
open Go

structure M3 where
  (a b c d e f g h i : Int)
structure V3 where
  (x y z : Int)

theorem M3.ext' {m n : M3} (h : m.a = n.a ∧ m.b = n.b ∧ m.c = n.c ∧ m.d = n.d ∧ m.e = n.e ∧ m.f = n.f ∧ m.g = n.g ∧ m.h = n.h ∧ m.i = n.i) : m = n := by
  cases m; cases n; simp only [M3.mk.injEq]; exact h
theorem V3.ext' {m n : V3} (h : m.x = n.x ∧ m.y = n.y ∧ m.z = n.z) : m = n := by
  cases m; cases n; simp only [V3.mk.injEq]; exact h

def M3.mul (m n : M3) : M3 :=
  ⟨m.a * n.a + m.b * n.d + m.c * n.g, m.a * n.b + m.b * n.e + m.c * n.h, m.a * n.c + m.b * n.f + m.c * n.i,
   m.d * n.a + m.e * n.d + m.f * n.g, m.d * n.b + m.e * n.e + m.f * n.h, m.d * n.c + m.e * n.f + m.f * n.i,
   m.g * n.a + m.h * n.d + m.i * n.g, m.g * n.b + m.h * n.e + m.i * n.h, m.g * n.c + m.h * n.f + m.i * n.i⟩
def M3.one : M3 := ⟨1, 0, 0, 0, 1, 0, 0, 0, 1⟩
def M3.zero : M3 := ⟨0, 0, 0, 0, 0, 0, 0, 0, 0⟩
def M3.det (m : M3) : Int := m.a * (m.e * m.i - m.f * m.h) + m.b * (m.f * m.g - m.d * m.i) + m.c * (m.d * m.h - m.e * m.g)
def M3.smul (k : Int) (m : M3) : M3 := ⟨m.a * k, m.b * k, m.c * k, m.d * k, m.e * k, m.f * k, m.g * k, m.h * k, m.i * k⟩
def M3.neg (m : M3) : M3 := ⟨-m.a, -m.b, -m.c, -m.d, -m.e, -m.f, -m.g, -m.h, -m.i⟩
def V3.zero : V3 := ⟨0, 0, 0⟩
def V3.add (u v : V3) : V3 := ⟨u.x + v.x, u.y + v.y, u.z + v.z⟩
def V3.neg (u : V3) : V3 := ⟨-u.x, -u.y, -u.z⟩
def V3.md (m : Int) (u : V3) : V3 := ⟨u.x % m, u.y % m, u.z % m⟩

theorem M3.mul_assoc (m n o : M3) : (m.mul n).mul o = m.mul (n.mul o) := by
  refine M3.ext' ⟨?_, ?_, ?_, ?_, ?_, ?_, ?_, ?_, ?_⟩ <;> (simp only [M3.mul]; grind)
theorem M3.one_mul (m : M3) : M3.one.mul m = m := by
  refine M3.ext' ⟨?_, ?_, ?_, ?_, ?_, ?_, ?_, ?_, ?_⟩ <;> (simp only [M3.mul, M3.one]; omega)
theorem M3.mul_one (m : M3) : m.mul M3.one = m := by
  refine M3.ext' ⟨?_, ?_, ?_, ?_, ?_, ?_, ?_, ?_, ?_⟩ <;> (simp only [M3.mul, M3.one]; omega)
/-- The determinant is 1 or -1. -/
def M3.U (m : M3) : Prop := m.det = 1 ∨ m.det = -1
def M3.pow (m : M3) : Nat → M3
  | 0 => M3.one
  | n + 1 => m.mul (m.pow n)
end Go.Proofs.Ytjhijkdicmbbiaa.Vx


namespace Go.Proofs.Ytjhijkdicmbbiaa.Vx
open Go

end Go.Proofs.Ytjhijkdicmbbiaa.Vx


namespace Go.Proofs.Ytjhijkdicmbbiaa.Vx
open Go

def inB (n : Int) (l : List Int) : Bool := l.all fun x => decide (-n ≤ x) && decide (x ≤ n)

def det (a b c d e f g h i : Int) : Int := a * (e * i - f * h) + b * (f * g - d * i) + c * (d * h - e * g)
end Go.Proofs.Ytjhijkdicmbbiaa.Vx


namespace Go.Proofs.Ytjhijkdicmbbiaa.Vx
open Go

theorem bd_mul {m n x y : Int} (hx : -m ≤ x ∧ x ≤ m) (hy : -n ≤ y ∧ y ≤ n) : -(m * n) ≤ x * y ∧ x * y ≤ m * n := by
  have h1 := Int.mul_nonneg (show 0 ≤ m - x by omega) (show 0 ≤ n + y by omega)
  have h2 := Int.mul_nonneg (show 0 ≤ m + x by omega) (show 0 ≤ n - y by omega)
  have h3 := Int.mul_nonneg (show 0 ≤ m - x by omega) (show 0 ≤ n - y by omega)
  have h4 := Int.mul_nonneg (show 0 ≤ m + x by omega) (show 0 ≤ n + y by omega)
  have e1 : (m - x) * (n + y) + (m + x) * (n - y) = 2 * (m * n) - 2 * (x * y) := by grind
  have e2 : (m - x) * (n - y) + (m + x) * (n + y) = 2 * (m * n) + 2 * (x * y) := by grind
  omega

end Go.Proofs.Ytjhijkdicmbbiaa.Vx


namespace Go.Proofs.Ytjhijkdicmbbiaa.Vx
open Go

structure O3 where
  (r : M3) (t : V3)
structure P3 where
  (m : Int) (x : V3)
def O3.zero : O3 := ⟨M3.zero, V3.zero⟩
def P3.zero : P3 := ⟨0, V3.zero⟩

def vI (n : Int) : Value := .int .i64 n
def M3.v (m : M3) : Value := .agg #[.int .i64 m.a, .int .i64 m.b, .int .i64 m.c, .int .i64 m.d, .int .i64 m.e, .int .i64 m.f, .int .i64 m.g, .int .i64 m.h, .int .i64 m.i]
def V3.v (u : V3) : Value := .agg #[.int .i64 u.x, .int .i64 u.y, .int .i64 u.z]
def O3.v (o : O3) : Value := .agg #[.int .i64 o.r.a, .int .i64 o.r.b, .int .i64 o.r.c, .int .i64 o.r.d, .int .i64 o.r.e, .int .i64 o.r.f, .int .i64 o.r.g, .int .i64 o.r.h, .int .i64 o.r.i, .int .i64 o.t.x, .int .i64 o.t.y, .int .i64 o.t.z]
def P3.v (p : P3) : Value := .agg #[.int .i64 p.m, .int .i64 p.x.x, .int .i64 p.x.y, .int .i64 p.x.z]
def p2 (a b : Value) : Value := .tuple #[a, b]

def M3.l (m : M3) : List Int := [m.a, m.b, m.c, m.d, m.e, m.f, m.g, m.h, m.i]
def V3.l (m : V3) : List Int := [m.x, m.y, m.z]
def M3.ok (m : M3) : Bool := inB 1000 m.l
def V3.ok (v : V3) : Bool := inB 2147483648 v.l
def M3.Bd (n : Int) (m : M3) : Prop := (-n ≤ m.a ∧ m.a ≤ n) ∧ (-n ≤ m.b ∧ m.b ≤ n) ∧ (-n ≤ m.c ∧ m.c ≤ n) ∧ (-n ≤ m.d ∧ m.d ≤ n) ∧ (-n ≤ m.e ∧ m.e ≤ n) ∧ (-n ≤ m.f ∧ m.f ≤ n) ∧ (-n ≤ m.g ∧ m.g ≤ n) ∧ (-n ≤ m.h ∧ m.h ≤ n) ∧ (-n ≤ m.i ∧ m.i ≤ n)
def V3.Bd (n : Int) (m : V3) : Prop := (-n ≤ m.x ∧ m.x ≤ n) ∧ (-n ≤ m.y ∧ m.y ≤ n) ∧ (-n ≤ m.z ∧ m.z ≤ n)
theorem M3.Bd.mono {m : M3} {k n : Int} (h : m.Bd k) (hk : k ≤ n) : m.Bd n := by unfold M3.Bd at *; omega
theorem V3.Bd.mono {m : V3} {k n : Int} (h : m.Bd k) (hk : k ≤ n) : m.Bd n := by unfold V3.Bd at *; omega
/-- Products of three with three. -/
theorem dot_bd {m n a b c d e f : Int} (ha : -m ≤ a ∧ a ≤ m) (hb : -m ≤ b ∧ b ≤ m) (hc : -m ≤ c ∧ c ≤ m) (hd : -n ≤ d ∧ d ≤ n) (he : -n ≤ e ∧ e ≤ n) (hf : -n ≤ f ∧ f ≤ n) :
    -(3 * (m * n)) ≤ a * d + b * e + c * f ∧ a * d + b * e + c * f ≤ 3 * (m * n) := by
  have h1 := bd_mul ha hd
  have h2 := bd_mul hb he
  have h3 := bd_mul hc hf
  omega
theorem min_bd {m n a b c d : Int} (ha : -m ≤ a ∧ a ≤ m) (hb : -n ≤ b ∧ b ≤ n) (hc : -m ≤ c ∧ c ≤ m) (hd : -n ≤ d ∧ d ≤ n) :
    -(2 * (m * n)) ≤ a * b - c * d ∧ a * b - c * d ≤ 2 * (m * n) := by
  have h1 := bd_mul ha hb
  have h2 := bd_mul hc hd
  omega
theorem M3.Bd.mul {m n : M3} {k l : Int} (hm : m.Bd k) (hn : n.Bd l) : (m.mul n).Bd (3 * (k * l)) := by
  obtain ⟨a, b, c, d, e, f, g, h, i⟩ := hm
  obtain ⟨a', b', c', d', e', f', g', h', i'⟩ := hn
  exact ⟨dot_bd a b c a' d' g', dot_bd a b c b' e' h', dot_bd a b c c' f' i', dot_bd d e f a' d' g', dot_bd d e f b' e' h', dot_bd d e f c' f' i', dot_bd g h i a' d' g', dot_bd g h i b' e' h', dot_bd g h i c' f' i'⟩
theorem M3.Bd.det {m : M3} {k : Int} (hm : m.Bd k) : -(3 * (k * (2 * (k * k)))) ≤ m.det ∧ m.det ≤ 3 * (k * (2 * (k * k))) := by
  obtain ⟨a, b, c, d, e, f, g, h, i⟩ := hm
  exact dot_bd a b c (min_bd e i f h) (min_bd f g d i) (min_bd d h e g)
/-- A number wrapped round that lies within. -/
theorem W_in {n : Int} (h : -9000000000000000000 ≤ n ∧ n ≤ 9000000000000000000) : W n = n := W_id (by omega) (by omega)

def M3.ck (m : M3) : Int := bif m.ok then 0 else 4
def md (n m : Int) : Int := match decide (Int.tmod n m < 0) with
  | true => W (Int.tmod n m + m)
  | false => Int.tmod n m
def V3.smul (n : Int) (u : V3) : V3 := ⟨n * u.x, n * u.y, n * u.z⟩
def isF (m : Int) : Bool := (m == 24) || ((m == 48) || ((m == 96) || (m == 192)))
def P3.place (m : Int) (v : V3) : P3 := bif isF m then ⟨m, v.md m⟩ else P3.zero
def P3.shift (p : P3) (t : V3) : P3 := ⟨p.m, (p.x.add (t.smul (p.m / 24))).md p.m⟩
end Go.Proofs.Ytjhijkdicmbbiaa.Vx


namespace Go.Proofs.Ytjhijkdicmbbiaa.Vx
open Go

def O3.cells (o : O3) : List Value := [.int .i64 o.r.a, .int .i64 o.r.b, .int .i64 o.r.c, .int .i64 o.r.d, .int .i64 o.r.e, .int .i64 o.r.f, .int .i64 o.r.g, .int .i64 o.r.h, .int .i64 o.r.i, .int .i64 o.t.x, .int .i64 o.t.y, .int .i64 o.t.z]
def V3.cells (o : V3) : List Value := [.int .i64 o.x, .int .i64 o.y, .int .i64 o.z]
def M3.cells (m : M3) : List Value := [.int .i64 m.a, .int .i64 m.b, .int .i64 m.c, .int .i64 m.d, .int .i64 m.e, .int .i64 m.f, .int .i64 m.g, .int .i64 m.h, .int .i64 m.i]
end Go.Proofs.Ytjhijkdicmbbiaa.Vx


namespace Go.Proofs.Ytjhijkdicmbbiaa.Vx
open Go

def gd {α : Type} (b : Bool) (x : Option α) : Option α := match b with
  | true => x
  | false => none
theorem gd_true {α : Type} (x : Option α) : gd true x = x := rfl
theorem LoopSem.like {P : Program} {B : Nat} {x : Code} {tm : List Value} {m m2 : Mem} {s : St} {e : Exit} (h : LoopSem P B x ⟨tm, m2⟩ e s) (hl : LikeL m m2) : LoopSem P B x ⟨tm, m⟩ e s := by
  intro Q w0 keep r0 a w hB hQ hr
  refine h Q w0 keep r0 a w hB hQ ?_
  obtain ⟨r, hx, h1, h2, h3⟩ := hr
  exact ⟨r, hx, h1, h2, h3.like hl⟩
end Go.Proofs.Ytjhijkdicmbbiaa.Vx


namespace Go.Proofs.Ytjhijkdicmbbiaa.Vx
open Go
/-- The number of 64 bits, none of them a sign's, that is left of a whole number. -/
def U (n : Int) : Int := IntKind.wrap .u64 n
theorem U_eq (n : Int) : U n = n % 18446744073709551616 := by
  unfold U IntKind.wrap
  simp only [IntKind.bits, IntKind.signed]
  have h1 : ((2 : Int) ^ 64) = 18446744073709551616 := rfl
  simp only [h1, Bool.false_and]
  rfl
theorem U_in {n : Int} (h : 0 ≤ n ∧ n ≤ 18446744073709551615) : U n = n := by rw [U_eq]; omega
def vU (n : Int) : Value := .int .u64 n
/-- Products in two words. -/
def and32 (x : Int) : Int := U ((BitVec.ofInt 64 x &&& BitVec.ofInt 64 4294967295).toNat : Int)
def shr32 (x : Int) : Int := x.fdiv (2 ^ 32)
theorem shr32_eq (x : Int) : shr32 x = x / 4294967296 := by
  unfold shr32
  rw [Int.fdiv_eq_ediv_of_nonneg _ (by decide)]; rfl
theorem and32_eq {x : Int} (h : 0 ≤ x ∧ x ≤ 18446744073709551615) : and32 x = x % 4294967296 := by
  obtain ⟨n, rfl⟩ : ∃ n : Nat, x = (n : Int) := ⟨x.toNat, by omega⟩
  unfold and32
  rw [BitVec.toNat_and]
  have e1 : (BitVec.ofInt 64 (n : Int)).toNat = n := by
    rw [BitVec.toNat_ofInt]; omega
  have e2 : (BitVec.ofInt 64 4294967295).toNat = 2 ^ 32 - 1 := by decide
  rw [e1, e2, Nat.and_two_pow_sub_one_eq_mod, U_in (by omega)]
  omega
def m64w0 (x y : Int) : Int := U (and32 x * and32 y)
def m64t (x y : Int) : Int := U (U (shr32 x * and32 y) + shr32 (m64w0 x y))
def m64w1 (x y : Int) : Int := U (and32 (m64t x y) + U (and32 x * shr32 y))
def m64hi (x y : Int) : Int := U (U (U (shr32 x * shr32 y) + shr32 (m64t x y)) + shr32 (m64w1 x y))
theorem m64_hi {x y : Int} (hx : 0 ≤ x ∧ x ≤ 18446744073709551615) (hy : 0 ≤ y ∧ y ≤ 18446744073709551615) : m64hi x y = x * y / 18446744073709551616 := by
  have x0 := and32_eq hx
  have y0 := and32_eq hy
  have x1 := shr32_eq x
  have y1 := shr32_eq y
  obtain ⟨a0, ha0⟩ : ∃ a, a = x % 4294967296 := ⟨_, rfl⟩
  obtain ⟨a1, ha1⟩ : ∃ a, a = x / 4294967296 := ⟨_, rfl⟩
  obtain ⟨b0, hb0⟩ : ∃ a, a = y % 4294967296 := ⟨_, rfl⟩
  obtain ⟨b1, hb1⟩ : ∃ a, a = y / 4294967296 := ⟨_, rfl⟩
  have r0 : 0 ≤ a0 ∧ a0 ≤ 4294967295 := by omega
  have r1 : 0 ≤ a1 ∧ a1 ≤ 4294967295 := by omega
  have s0 : 0 ≤ b0 ∧ b0 ≤ 4294967295 := by omega
  have s1 : 0 ≤ b1 ∧ b1 ≤ 4294967295 := by omega
  have ex : x = a1 * 4294967296 + a0 := by omega
  have ey : y = b1 * 4294967296 + b0 := by omega
  have nn : ∀ {a b : Int}, 0 ≤ a ∧ a ≤ 4294967295 → 0 ≤ b ∧ b ≤ 4294967295 → 0 ≤ a * b ∧ a * b ≤ 18446744065119617025 := fun {a b} p q => ⟨Int.mul_nonneg p.1 q.1, by
    have := Int.mul_le_mul p.2 q.2 q.1 (by omega : (0 : Int) ≤ 4294967295)
    omega⟩
  have p := nn r1 s1
  have q := nn r1 s0
  have r := nn r0 s1
  have s := nn r0 s0
  have exy : x * y = a1 * b1 * 18446744073709551616 + a1 * b0 * 4294967296 + a0 * b1 * 4294967296 + a0 * b0 := by rw [ex, ey]; grind
  have t0 : m64w0 x y = a0 * b0 := by unfold m64w0; rw [x0, y0, ← ha0, ← hb0]; exact U_in (by omega)
  have t1 : m64t x y = a1 * b0 + a0 * b0 / 4294967296 := by
    unfold m64t
    rw [t0, x1, y0, ← ha1, ← hb0, shr32_eq, U_in (n := a1 * b0) (by omega)]
    exact U_in (by omega)
  have t2 : m64w1 x y = (a1 * b0 + a0 * b0 / 4294967296) % 4294967296 + a0 * b1 := by
    unfold m64w1
    rw [t1, x0, y1, ← ha0, ← hb1, and32_eq (by omega), U_in (n := a0 * b1) (by omega)]
    exact U_in (by omega)
  unfold m64hi
  rw [t2, t1, x1, y1, ← ha1, ← hb1, shr32_eq, shr32_eq, exy]
  generalize a1 * b1 = P at *
  generalize a1 * b0 = Q at *
  generalize a0 * b1 = R at *
  generalize a0 * b0 = S at *
  clear t0 t1 t2 exy
  rw [U_in (n := P) (by omega), U_in (n := P + _) (by omega), U_in (by omega)]
  omega
def u64B (x : Int) : Bool := decide (0 ≤ x) && decide (x ≤ 18446744073709551615)
theorem u64B_iff {x : Int} : u64B x = true ↔ 0 ≤ x ∧ x ≤ 18446744073709551615 := by simp [u64B]
theorem u64B_U (n : Int) : u64B (U n) = true := u64B_iff.2 (by rw [U_eq]; omega)

def hiW (v : Int) : Int := v / 18446744073709551616 % 18446744073709551616
def loW (v : Int) : Int := v % 18446744073709551616
def decW (h l : Int) : Int := h * 18446744073709551616 + l
def wV (v : Int) : Value := .agg #[.int .u64 (hiW v), .int .u64 (loW v)]
theorem hiW_ok (v : Int) : u64B (hiW v) = true := u64B_iff.2 (by unfold hiW; omega)
theorem loW_ok (v : Int) : u64B (loW v) = true := u64B_iff.2 (by unfold loW; omega)
theorem dec_hl (v : Int) : decW (hiW v) (loW v) = v % 340282366920938463463374607431768211456 := by unfold decW hiW loW; omega
/-- Alike in 128 bits. -/
theorem wV_congr {v w : Int} (h : v % 340282366920938463463374607431768211456 = w % 340282366920938463463374607431768211456) : hiW v = hiW w ∧ loW v = loW w := by
  unfold hiW loW
  constructor <;> omega
theorem wV_add (v w : Int) : wV (decW (hiW v) (loW v) + decW (hiW w) (loW w)) = wV (v + w) := by
  unfold wV
  obtain ⟨h1, h2⟩ := wV_congr (v := decW (hiW v) (loW v) + decW (hiW w) (loW w)) (w := v + w) (by rw [dec_hl, dec_hl]; omega)
  rw [h1, h2]
theorem wV_sub (v w : Int) : wV (decW (hiW v) (loW v) - decW (hiW w) (loW w)) = wV (v - w) := by
  unfold wV
  obtain ⟨h1, h2⟩ := wV_congr (v := decW (hiW v) (loW v) - decW (hiW w) (loW w)) (w := v - w) (by rw [dec_hl, dec_hl]; omega)
  rw [h1, h2]
/-- Two sums: the low words, then the high ones with what is carried. -/
theorem add_words {h1 l1 h2 l2 : Int} (a : u64B h1 = true) (b : u64B l1 = true) (c : u64B h2 = true) (d : u64B l2 = true) :
    ((l1.toNat + l2.toNat + (0 : Int).toNat) / 2 ^ 64 ≤ 1) ∧ Int.ofNat ((l1.toNat + l2.toNat + (0 : Int).toNat) % 2 ^ 64) = loW (decW h1 l1 + decW h2 l2) ∧ Int.ofNat ((h1.toNat + h2.toNat + (Int.ofNat ((l1.toNat + l2.toNat + (0 : Int).toNat) / 2 ^ 64)).toNat) % 2 ^ 64) = hiW (decW h1 l1 + decW h2 l2) := by
  rw [u64B_iff] at a b c d
  obtain ⟨p, rfl⟩ : ∃ n : Nat, h1 = (n : Int) := ⟨h1.toNat, by omega⟩
  obtain ⟨q, rfl⟩ : ∃ n : Nat, l1 = (n : Int) := ⟨l1.toNat, by omega⟩
  obtain ⟨r, rfl⟩ : ∃ n : Nat, h2 = (n : Int) := ⟨h2.toNat, by omega⟩
  obtain ⟨s, rfl⟩ : ∃ n : Nat, l2 = (n : Int) := ⟨l2.toNat, by omega⟩
  unfold decW hiW loW
  simp only [Int.toNat_natCast, Int.toNat_zero, Nat.add_zero, Int.ofNat_eq_natCast]
  refine ⟨by omega, by omega, by omega⟩
theorem sub_words {h1 l1 h2 l2 : Int} (a : u64B h1 = true) (b : u64B l1 = true) (c : u64B h2 = true) (d : u64B l2 = true) :
    ((Int.ofNat (if l1.toNat < l2.toNat + (0 : Int).toNat then 1 else 0)).toNat ≤ 1) ∧ Int.ofNat ((l1.toNat + 2 ^ 64 - l2.toNat - (0 : Int).toNat) % 2 ^ 64) = loW (decW h1 l1 - decW h2 l2) ∧ Int.ofNat ((h1.toNat + 2 ^ 64 - h2.toNat - (Int.ofNat (if l1.toNat < l2.toNat + (0 : Int).toNat then 1 else 0)).toNat) % 2 ^ 64) = hiW (decW h1 l1 - decW h2 l2) := by
  rw [u64B_iff] at a b c d
  obtain ⟨p, rfl⟩ : ∃ n : Nat, h1 = (n : Int) := ⟨h1.toNat, by omega⟩
  obtain ⟨q, rfl⟩ : ∃ n : Nat, l1 = (n : Int) := ⟨l1.toNat, by omega⟩
  obtain ⟨r, rfl⟩ : ∃ n : Nat, h2 = (n : Int) := ⟨h2.toNat, by omega⟩
  obtain ⟨s, rfl⟩ : ∃ n : Nat, l2 = (n : Int) := ⟨l2.toNat, by omega⟩
  unfold decW hiW loW
  simp only [Int.toNat_natCast, Int.toNat_zero, Nat.add_zero, Int.ofNat_eq_natCast]
  by_cases h : q < s
  · rw [if_pos h]
    refine ⟨by omega, by omega, by omega⟩
  · rw [if_neg h]
    refine ⟨by omega, by omega, by omega⟩
def i64B (x : Int) : Bool := decide (-9223372036854775808 ≤ x) && decide (x ≤ 9223372036854775807)
theorem i64B_iff {x : Int} : i64B x = true ↔ -9223372036854775808 ≤ x ∧ x ≤ 9223372036854775807 := by simp [i64B]
theorem wid_words {n : Int} (h : i64B n = true) : U (n.fdiv (2 ^ 63)) = hiW n ∧ U n = loW n := by
  rw [i64B_iff] at h
  rw [U_eq, U_eq, Int.fdiv_eq_ediv_of_nonneg _ (by decide)]
  unfold hiW loW
  rw [show (2 : Int) ^ 63 = 9223372036854775808 from rfl]
  constructor <;> omega
theorem prod_words {a b : Int} (ha : i64B a = true) (hb : i64B b = true) (hi : Int) (hh : hi = U a * U b / 18446744073709551616) :
    U (a * b) = loW (a * b) ∧ (match decide (b < 0) with
      | true => U ((match decide (a < 0) with | true => U (hi - U b) | false => hi) - U a)
      | false => (match decide (a < 0) with | true => U (hi - U b) | false => hi)) = hiW (a * b) := by
  rw [i64B_iff] at ha hb
  have nn : ∀ {x y : Int}, 0 ≤ x ∧ x ≤ 18446744073709551615 → 0 ≤ y ∧ y ≤ 18446744073709551615 → 0 ≤ x * y ∧ x * y ≤ 340282366920938463426481119284349108225 := fun {x y} p q => ⟨Int.mul_nonneg p.1 q.1, by
    have := Int.mul_le_mul p.2 q.2 q.1 (by omega : (0 : Int) ≤ 18446744073709551615)
    omega⟩
  refine ⟨by rw [U_eq]; rfl, ?_⟩
  by_cases h1 : a < 0 <;> by_cases h2 : b < 0
  · have e1 : U a = a + 18446744073709551616 := by rw [U_eq]; omega
    have e2 : U b = b + 18446744073709551616 := by rw [U_eq]; omega
    rw [decide_eq_true h1, decide_eq_true h2]
    simp only
    have ex : U a * U b = a * b + (a + b) * 18446744073709551616 + 340282366920938463463374607431768211456 := by rw [e1, e2]; grind
    rw [ex] at hh
    rw [U_eq, U_eq, e1, e2]
    unfold hiW
    generalize a * b = P at *
    omega
  · have e1 : U a = a + 18446744073709551616 := by rw [U_eq]; omega
    have e2 : U b = b := by rw [U_eq]; omega
    rw [decide_eq_true h1, decide_eq_false h2]
    simp only
    have ex : U a * U b = a * b + b * 18446744073709551616 := by rw [e1, e2]; grind
    rw [ex] at hh
    rw [U_eq, e2]
    unfold hiW
    generalize a * b = P at *
    omega
  · have e1 : U a = a := by rw [U_eq]; omega
    have e2 : U b = b + 18446744073709551616 := by rw [U_eq]; omega
    rw [decide_eq_false h1, decide_eq_true h2]
    simp only
    have ex : U a * U b = a * b + a * 18446744073709551616 := by rw [e1, e2]; grind
    rw [ex] at hh
    rw [U_eq, e1]
    unfold hiW
    generalize a * b = P at *
    omega
  · have e1 : U a = a := by rw [U_eq]; omega
    have e2 : U b = b := by rw [U_eq]; omega
    have hp := nn (x := a) (y := b) (by omega) (by omega)
    rw [decide_eq_false h1, decide_eq_false h2]
    simp only
    rw [hh, e1, e2]
    unfold hiW
    generalize a * b = P at *
    omega
end Go.Proofs.Ytjhijkdicmbbiaa.Vx


namespace Go.Proofs.Ytjhijkdicmbbiaa
open Go Vx Go.RowKit
theorem Cx.addRa_ok {C : Cx} (hC : CxOk C) {n : Nat} {f : FuncId} {fn : Func} (hf : C.P.funcs[f]? = some fn) (hok : okFunc C.P f = true) {F : List Value → Option (Bool × Value)}
    (h : ∀ args v, F args = some (true, v) → exFun (C.at f) n fn args = some v) : CxOk (C.addR f F) := by
  have := Cx.addR_ok (C := C.at f) (hC.at f) hf hok (Or.inl rfl) h
  exact ⟨this.mixed, this.tbl, this.tbm, this.keys, this.inl, this.lp, this.rd, this.rd2, this.ext⟩
def p2 (a b : Value) : Value := .tuple #[a, b]
def gd' {α : Type} (b : Bool) (x : Option α) : Option α := match b with
  | true => x
  | false => none
/-- bits.Mul64 -/
theorem e142 (a b : Int) : exFun ((Cr0 Try.prog).at 142) 60 Try.f142 [vU a, vU b] = some (p2 (vU (m64hi a b)) (vU (U (a * b)))) := by kernel_rfl
def F142 : List Value → Option (Bool × Value)
  | [.int .u64 a, .int .u64 b] => some (u64B a && u64B b, p2 (vU (a * b / 18446744073709551616)) (vU (a * b % 18446744073709551616)))
  | _ => none
def Cr142 (P : Program) : Cx := (Cr0 P).addR 142 F142
theorem okr142 : CxOk (Cr142 Try.prog) := Cx.addRa_ok okr0 (n := 60) Try.func142 (by kernel_rfl) fun args v h => by
  unfold F142 at h
  split at h
  · rename_i a b
    simp only [Option.some.injEq, Prod.mk.injEq, Bool.and_eq_true] at h
    obtain ⟨⟨h0, h1⟩, rfl⟩ := h
    rw [← m64_hi (u64B_iff.1 h0) (u64B_iff.1 h1), ← U_eq]
    exact e142 a b
  · cases h
/-- ring.widened -/
theorem e100 (n : Int) : exFun ((Cr142 Try.prog).at 100) 60 Try.f100 [vI n] = some (.agg #[vU (U (n.fdiv (2 ^ 63))), vU (U n)]) := by kernel_rfl
def F100 : List Value → Option (Bool × Value)
  | [.int .i64 n] => some (i64B n, wV n)
  | _ => none
def Cr100 (P : Program) : Cx := (Cr142 P).addR 100 F100
theorem okr100 : CxOk (Cr100 Try.prog) := Cx.addRa_ok okr142 (n := 60) Try.func100 (by kernel_rfl) fun args v h => by
  unfold F100 at h
  split at h
  · rename_i n
    simp only [Option.some.injEq, Prod.mk.injEq] at h
    obtain ⟨h0, rfl⟩ := h
    obtain ⟨g1, g2⟩ := wid_words h0
    refine (e100 n).trans ?_
    rw [g1, g2]
    rfl
  · cases h
/-- ring.plus -/
theorem e99 (h1 l1 h2 l2 : Int) : exFun ((Cr100 Try.prog).at 99) 60 Try.f99 [.agg #[vU h1, vU l1], .agg #[vU h2, vU l2]] = gd' (decide ((Int.ofNat ((l1.toNat + l2.toNat + (0 : Int).toNat) / 2 ^ 64)).toNat ≤ 1)) (some (.agg #[vU (Int.ofNat ((h1.toNat + h2.toNat + (Int.ofNat ((l1.toNat + l2.toNat + (0 : Int).toNat) / 2 ^ 64)).toNat) % 2 ^ 64)), vU (Int.ofNat ((l1.toNat + l2.toNat + (0 : Int).toNat) % 2 ^ 64))])) := by kernel_rfl
def F99 : List Value → Option (Bool × Value)
  | [.agg a, .agg b] => match a.toList, b.toList with
    | [.int .u64 h1, .int .u64 l1], [.int .u64 h2, .int .u64 l2] => some (u64B h1 && (u64B l1 && (u64B h2 && u64B l2)), wV (decW h1 l1 + decW h2 l2))
    | _, _ => none
  | _ => none
def Cr99 (P : Program) : Cx := (Cr100 P).addR 99 F99
theorem okr99 : CxOk (Cr99 Try.prog) := Cx.addRa_ok okr100 (n := 60) Try.func99 (by kernel_rfl) fun args v h => by
  unfold F99 at h
  split at h
  · rename_i a b
    split at h
    · rename_i h1 l1 h2 l2 ea eb
      simp only [Option.some.injEq, Prod.mk.injEq, Bool.and_eq_true] at h
      obtain ⟨⟨c1, c2, c3, c4⟩, rfl⟩ := h
      have ha : a = #[.int .u64 h1, .int .u64 l1] := by apply Array.ext'; simpa using ea
      have hb : b = #[.int .u64 h2, .int .u64 l2] := by apply Array.ext'; simpa using eb
      subst ha hb
      obtain ⟨g1, g2, g3⟩ := add_words c1 c2 c3 c4
      refine (e99 h1 l1 h2 l2).trans ?_
      rw [decide_eq_true (by exact g1), g2, g3]
      rfl
    · cases h
  · cases h
/-- ring.minus -/
theorem e143 (h1 l1 h2 l2 : Int) : exFun ((Cr99 Try.prog).at 143) 60 Try.f143 [.agg #[vU h1, vU l1], .agg #[vU h2, vU l2]] = gd' (decide ((Int.ofNat (if l1.toNat < l2.toNat + (0 : Int).toNat then 1 else 0)).toNat ≤ 1)) (some (.agg #[vU (Int.ofNat ((h1.toNat + 2 ^ 64 - h2.toNat - (Int.ofNat (if l1.toNat < l2.toNat + (0 : Int).toNat then 1 else 0)).toNat) % 2 ^ 64)), vU (Int.ofNat ((l1.toNat + 2 ^ 64 - l2.toNat - (0 : Int).toNat) % 2 ^ 64))])) := by kernel_rfl
def F143 : List Value → Option (Bool × Value)
  | [.agg a, .agg b] => match a.toList, b.toList with
    | [.int .u64 h1, .int .u64 l1], [.int .u64 h2, .int .u64 l2] => some (u64B h1 && (u64B l1 && (u64B h2 && u64B l2)), wV (decW h1 l1 - decW h2 l2))
    | _, _ => none
  | _ => none
def Cr143 (P : Program) : Cx := (Cr99 P).addR 143 F143
theorem okr143 : CxOk (Cr143 Try.prog) := Cx.addRa_ok okr99 (n := 60) Try.func143 (by kernel_rfl) fun args v h => by
  unfold F143 at h
  split at h
  · rename_i a b
    split at h
    · rename_i h1 l1 h2 l2 ea eb
      simp only [Option.some.injEq, Prod.mk.injEq, Bool.and_eq_true] at h
      obtain ⟨⟨c1, c2, c3, c4⟩, rfl⟩ := h
      have ha : a = #[.int .u64 h1, .int .u64 l1] := by apply Array.ext'; simpa using ea
      have hb : b = #[.int .u64 h2, .int .u64 l2] := by apply Array.ext'; simpa using eb
      subst ha hb
      obtain ⟨g1, g2, g3⟩ := sub_words c1 c2 c3 c4
      refine (e143 h1 l1 h2 l2).trans ?_
      rw [decide_eq_true (by exact g1), g2, g3]
      rfl
    · cases h
  · cases h
theorem lo_words (a b : Int) : U a * U b % 18446744073709551616 = loW (a * b) := by
  rw [U_eq, U_eq, ← Int.mul_emod]
  rfl
/-- ring.product -/
theorem e105 (a b : Int) : exFun ((Cr143 Try.prog).at 105) 60 Try.f105 [vI a, vI b] = gd' (u64B (U a) && u64B (U b)) (match decide (a < 0) with
    | true => (match decide (b < 0) with
      | true => some (.agg #[vU (U (U ((U a * U b / 18446744073709551616) - U b) - U a)), vU (U a * U b % 18446744073709551616)])
      | false => some (.agg #[vU (U ((U a * U b / 18446744073709551616) - U b)), vU (U a * U b % 18446744073709551616)]))
    | false => (match decide (b < 0) with
      | true => some (.agg #[vU (U ((U a * U b / 18446744073709551616) - U a)), vU (U a * U b % 18446744073709551616)])
      | false => some (.agg #[vU (U a * U b / 18446744073709551616), vU (U a * U b % 18446744073709551616)]))) := by kernel_rfl
def F105 : List Value → Option (Bool × Value)
  | [.int .i64 a, .int .i64 b] => some (i64B a && i64B b, wV (a * b))
  | _ => none
def Cr105 (P : Program) : Cx := (Cr143 P).addR 105 F105
theorem okr105 : CxOk (Cr105 Try.prog) := Cx.addRa_ok okr143 (n := 60) Try.func105 (by kernel_rfl) fun args v h => by
  unfold F105 at h
  split at h
  · rename_i a b
    simp only [Option.some.injEq, Prod.mk.injEq, Bool.and_eq_true] at h
    obtain ⟨⟨c1, c2⟩, rfl⟩ := h
    obtain ⟨_, g2⟩ := prod_words c1 c2 _ rfl
    refine (e105 a b).trans ?_
    rw [u64B_U, u64B_U, lo_words]
    unfold wV
    rw [← g2]
    cases decide (a < 0) <;> cases decide (b < 0) <;> rfl
  · cases h
/-- Is this one of the four? -/
def fineB (m : Int) : Bool := (m == 24) || ((m == 48) || ((m == 96) || (m == 192)))
theorem fine_tree (m : Int) : (match (m == 24) with
    | true => some (.bool true)
    | false => match (m == 48) with
      | true => some (.bool true)
      | false => match (m == 96) with
        | true => some (.bool true)
        | false => some (.bool (m == 192)) : Option Value) = some (.bool (fineB m)) := by
  unfold fineB
  cases (m == 24) <;> cases (m == 48) <;> cases (m == 96) <;> cases (m == 192) <;> rfl
/-- Within MaxRing? -/
def inRg (n : Int) : Bool := decide (-4503599627370496 ≤ n) && decide (n ≤ 4503599627370496)
theorem bey_tree (n : Int) : (match decide (n < -4503599627370496) with
    | true => some (.bool true)
    | false => some (.bool (decide (n > 4503599627370496))) : Option Value) = some (.bool (!inRg n)) := by
  unfold inRg
  by_cases h : n < -4503599627370496
  · rw [decide_eq_true h, decide_eq_false (by omega : ¬ -4503599627370496 ≤ n)]; rfl
  · rw [decide_eq_false h, decide_eq_true (by omega : -4503599627370496 ≤ n)]
    by_cases k : n > 4503599627370496
    · rw [decide_eq_true k, decide_eq_false (by omega : ¬ n ≤ 4503599627370496)]; rfl
    · rw [decide_eq_false k, decide_eq_true (by omega : n ≤ 4503599627370496)]; rfl
/-- one of the four -/
theorem e107 (m : Int) : exFun ((Cr105 Try.prog).at 107) 60 Try.f107 [vI m] = (match (m == 24) with
    | true => some (.bool true)
    | false => match (m == 48) with
      | true => some (.bool true)
      | false => match (m == 96) with
        | true => some (.bool true)
        | false => some (.bool (m == 192))) := by kernel_rfl
def F107 : List Value → Option (Bool × Value)
  | [.int .i64 m] => some (true, .bool (fineB m))
  | _ => none
def Cr107 (P : Program) : Cx := (Cr105 P).addR 107 F107
theorem okr107 : CxOk (Cr107 Try.prog) := Cx.addRa_ok okr105 (n := 60) Try.func107 (by kernel_rfl) fun args v h => by
  unfold F107 at h
  split at h
  · rename_i m
    simp only [Option.some.injEq, Prod.mk.injEq, true_and] at h
    subst h
    exact (e107 m).trans (fine_tree m)
  · cases h
/-- one of the four -/
theorem e109 (m : Int) : exFun ((Cr107 Try.prog).at 109) 60 Try.f109 [vI m] = (match (m == 24) with
    | true => some (.bool true)
    | false => match (m == 48) with
      | true => some (.bool true)
      | false => match (m == 96) with
        | true => some (.bool true)
        | false => some (.bool (m == 192))) := by kernel_rfl
def F109 : List Value → Option (Bool × Value)
  | [.int .i64 m] => some (true, .bool (fineB m))
  | _ => none
def Cr109 (P : Program) : Cx := (Cr107 P).addR 109 F109
theorem okr109 : CxOk (Cr109 Try.prog) := Cx.addRa_ok okr107 (n := 60) Try.func109 (by kernel_rfl) fun args v h => by
  unfold F109 at h
  split at h
  · rename_i m
    simp only [Option.some.injEq, Prod.mk.injEq, true_and] at h
    subst h
    exact (e109 m).trans (fine_tree m)
  · cases h
/-- ring.isBeyond -/
theorem e118 (n : Int) : exFun ((Cr109 Try.prog).at 118) 60 Try.f118 [vI n] = (match decide (n < -4503599627370496) with
    | true => some (.bool true)
    | false => some (.bool (decide (n > 4503599627370496)))) := by kernel_rfl
def F118 : List Value → Option (Bool × Value)
  | [.int .i64 n] => some (true, .bool (!inRg n))
  | _ => none
def Cr118 (P : Program) : Cx := (Cr109 P).addR 118 F118
theorem okr118 : CxOk (Cr118 Try.prog) := Cx.addRa_ok okr109 (n := 60) Try.func118 (by kernel_rfl) fun args v h => by
  unfold F118 at h
  split at h
  · rename_i n
    simp only [Option.some.injEq, Prod.mk.injEq, true_and] at h
    subst h
    exact (e118 n).trans (bey_tree n)
  · cases h
def Cr1 (P : Program) : Cx := Cr118 P
theorem okr1 : CxOk (Cr1 Try.prog) := okr118
end Go.Proofs.Ytjhijkdicmbbiaa


namespace Go.Proofs.Ytjhijkdicmbbiaa.Vx
open Go Go.RowKit
theorem for_ret {P : Program} {B id : Nat} {c : Code} {st s s' : St} (hf : isFor id c = true) (h1 : CodeSem P B (forHead c) st .normal s) (h2 : LoopSem P B (forBody c) s .ret s') : CodeSem P B c st .ret s' := by
  unfold isFor at hf
  split at hf
  · rename_i x i y
    exact h1.seq (CodeSem.blockR (CodeSem.loop h2))
  · cases hf
/-- The first of c places from i on that has a property. -/
def fst? (t : Nat → Bool) : Nat → Nat → Option Nat
  | 0, _ => none
  | c + 1, i => match t i with
    | true => some i
    | false => fst? t c (i + 1)
theorem fst?_some {t : Nat → Bool} : ∀ {c i k : Nat}, fst? t c i = some k → i ≤ k ∧ k < i + c ∧ t k = true ∧ ∀ j, i ≤ j → j < k → t j = false
  | 0, i, k, h => by simp [fst?] at h
  | c + 1, i, k, h => by
    simp only [fst?] at h
    cases ht : t i with
    | true =>
      rw [ht] at h
      simp only [Option.some.injEq] at h
      subst h
      exact ⟨Nat.le_refl _, by omega, ht, fun j h1 h2 => by omega⟩
    | false =>
      rw [ht] at h
      obtain ⟨h1, h2, h3, h4⟩ := fst?_some h
      refine ⟨by omega, by omega, h3, fun j g1 g2 => ?_⟩
      by_cases hj : j = i
      · subst hj; exact ht
      · exact h4 j (by omega) g2
theorem fst?_none {t : Nat → Bool} : ∀ {c i : Nat}, fst? t c i = none → ∀ j, i ≤ j → j < i + c → t j = false
  | 0, i, h, j, h1, h2 => by omega
  | c + 1, i, h, j, h1, h2 => by
    simp only [fst?] at h
    cases ht : t i with
    | true => rw [ht] at h; cases h
    | false =>
      rw [ht] at h
      by_cases hj : j = i
      · subst hj; exact ht
      · exact fst?_none h j (by omega) (by omega)
theorem scan_loop {C : Cx} (hC : CxOk C) {f B m : Nat} {x : Code} {mask mout : List Nat} {sp so : List From} (hin : InBody (C.into f B) x) {n : Nat} (hn : (n : Int) ≤ 9000000000000000000) (H : Int → St) (t : Nat → Bool) (sx : Nat → St) (id : Nat) (s0 : St)
    (hr : ∀ i : Nat, i ≤ n → roundR (C.into f B) m x mask mout sp so (H (i : Int)) = (match decide ((i : Int) < (n : Int)) with
      | true => gd (boundsI (i : Int) n) (match t i with
        | true => some (.ret, sx i)
        | false => some (.normal, H (W ((i : Int) + 1))))
      | false => some (.exit id, s0))) :
    (∀ k, fst? t n 0 = some k → LoopSem C.P B x (H 0) .ret (sx k)) ∧ (fst? t n 0 = none → LoopSem C.P B x (H 0) (.exit id) s0) := by
  have key : ∀ (c i : Nat), i + c = n → (∀ k, fst? t c i = some k → LoopSem C.P B x (H (i : Int)) .ret (sx k)) ∧ (fst? t c i = none → LoopSem C.P B x (H (i : Int)) (.exit id) s0) := by
    intro c
    induction c with
    | zero =>
      intro i hi
      have h := hr i (by omega)
      rw [show decide ((i : Int) < (n : Int)) = false by simp; omega] at h
      exact ⟨fun k hk => (by simp [fst?] at hk), fun _ => loop_leave hC hin h (by simp)⟩
    | succ c ih =>
      intro i hi
      have h := hr i (by omega)
      rw [show decide ((i : Int) < (n : Int)) = true by simp; omega, bd_ok' (show i < n by omega)] at h
      simp only [gd_true] at h
      simp only [fst?]
      cases ht : t i with
      | true =>
        rw [ht] at h
        refine ⟨fun k hk => ?_, fun hk => by cases hk⟩
        simp only [Option.some.injEq] at hk
        subst hk
        exact loop_leave hC hin h (by simp)
      | false =>
        rw [ht] at h
        rw [show W ((i : Int) + 1) = ((i + 1 : Nat) : Int) by rw [W_in (by omega)]; simp] at h
        have := ih (i + 1) (by omega)
        exact ⟨fun k hk => loop_next hC hin h (StLike.refl _) (this.1 k hk), fun hk => loop_next hC hin h (StLike.refl _) (this.2 hk)⟩
  exact key n 0 (by omega)
end Go.Proofs.Ytjhijkdicmbbiaa.Vx


namespace Go.Proofs.Ytjhijkdicmbbiaa.Vx
open Go Go.RowKit
theorem run_loop {C : Cx} (hC : CxOk C) {f B m : Nat} {x : Code} {mask mout : List Nat} {sp so : List From} (hin : InBody (C.into f B) x) {e : Exit} {sE : St} (he : e ≠ .normal) :
    ∀ (N : Nat) (H : Nat → St), (∀ i, i < N → ∃ s, roundR (C.into f B) m x mask mout sp so (H i) = some (.normal, s) ∧ StLike s (H (i + 1))) → roundR (C.into f B) m x mask mout sp so (H N) = some (e, sE) → LoopSem C.P B x (H 0) e sE
  | 0, H, _, hE => loop_leave hC hin hE he
  | N + 1, H, hr, hE => by
    obtain ⟨s, h1, h2⟩ := hr 0 (by omega)
    exact loop_next hC hin h1 h2 (run_loop hC hin he N (fun i => H (i + 1)) (fun i hi => hr (i + 1) (by omega)) hE)
/-- A loop of so many rounds, each told by code. -/
theorem run_loopC {P : Program} {B : Nat} {x : Code} {e : Exit} {sE : St} (he : e ≠ .normal) :
    ∀ (N : Nat) (H : Nat → St), (∀ i, i < N → CodeSem P B x (H i) .normal (H (i + 1))) → CodeSem P B x (H N) e sE → LoopSem P B x (H 0) e sE
  | 0, H, _, hE => by
    intro Q w0 keep r0 a w hB hQ hr
    refine LoopsTo.round (hE _ w0 keep r0 a w hB ?_ hr)
    intro a' w' hr'
    revert he hQ hr'
    cases e <;> intro he hQ hr' <;> first | exact absurd rfl he | exact hQ a' w' hr'
  | N + 1, H, hr, hE => by
    intro Q w0 keep r0 a w hB hQ hr'
    refine LoopsTo.round (hr 0 (by omega) _ w0 keep r0 a w hB ?_ hr')
    intro a' w' h2
    exact run_loopC he N (fun i => H (i + 1)) (fun i hi => hr (i + 1) (by omega)) hE Q w0 keep r0 a' w' hB hQ h2
/-- Rows of numbers of two words. -/
def wRow (g : Nat → Int) : Nat → List Value := fun i => [.int .u64 (hiW (g i)), .int .u64 (loW (g i))]
/-- Rows of integers. -/
def iRow (g : Nat → Int) : Nat → List Value := fun i => [.int .i64 (g i)]
/-- One put elsewhere. -/
def putG (g : Nat → Int) (j : Nat) (v : Int) : Nat → Int := fun q => if q = j then v else g q
def wid (v : Int) : Int := v % 340282366920938463463374607431768211456
/-- Rows, one of them written. -/
def stR (row : Nat → List Value) (j : Nat) (v : List Value) : Nat → List Value := fun q => match Nat.beq q j with
  | true => setMany (row j) 0 v
  | false => row q
def w2 (v : Int) : List Value := [.int .u64 (hiW v), .int .u64 (loW v)]
theorem beq_ne {q j : Nat} (h : q ≠ j) : Nat.beq q j = false := by
  cases hb : Nat.beq q j with
  | false => rfl
  | true => exact absurd (Nat.eq_of_beq_eq_true hb) h
theorem stR_w (g : Nat → Int) (j : Nat) (v : Int) (q : Nat) : stR (wRow g) j (w2 v) q = wRow (putG g j v) q := by
  unfold stR
  by_cases h : q = j
  · subst h
    rw [Nat.beq_refl]
    simp only [wRow, putG, w2, if_true]
    rfl
  · rw [beq_ne h]
    simp only [wRow, putG, if_neg h]
theorem stR_i (g : Nat → Int) (j : Nat) (v : Int) (q : Nat) : stR (iRow g) j [.int .i64 v] q = iRow (putG g j v) q := by
  unfold stR
  by_cases h : q = j
  · subst h
    rw [Nat.beq_refl]
    simp only [iRow, putG, if_true]
    rfl
  · rw [beq_ne h]
    simp only [iRow, putG, if_neg h]
theorem boundsI_ok {i : Int} {n : Nat} (h : 0 ≤ i ∧ i < (n : Int)) : boundsI i n = true := by simp [boundsI]; omega
theorem w2_add (v w : Int) : w2 (decW (hiW v) (loW v) + decW (hiW w) (loW w)) = w2 (v + w) := by
  have h := wV_add v w
  unfold wV at h
  simp only [Value.agg.injEq] at h
  have := congrArg Array.toList h
  simpa [w2] using this
theorem w2_sub (v w : Int) : w2 (decW (hiW v) (loW v) - decW (hiW w) (loW w)) = w2 (v - w) := by
  have h := wV_sub v w
  unfold wV at h
  simp only [Value.agg.injEq] at h
  have := congrArg Array.toList h
  simpa [w2] using this
/-- One power brought down. -/
def redG (d : Nat) (g : Nat → Int) (i : Nat) : Nat → Int := putG (putG g (i - d / 2) (g (i - d / 2) + g i)) (i - d) (g (i - d) - g i)
/-- So many powers brought down, of n. -/
def redN (d n : Nat) (g : Nat → Int) : Nat → (Nat → Int)
  | 0 => g
  | r + 1 => redG d (redN d n g r) (n - 1 - r)
end Go.Proofs.Ytjhijkdicmbbiaa.Vx


namespace Go.Proofs.Ytjhijkdicmbbiaa
open Go Vx Go.RowKit
def shB (P : Program) : Code := bodyOf P 114
theorem shB_eq : Try.f114.body = some (shB Try.prog) := by kernel_rfl
def shF (P : Program) : Code := forBody (stmt 2 (shB P))
abbrev Wr (n : Nat) (g : Nat → Int) : Blk := .rows true true 2 n (wRow g)
def SW (n : Nat) : Value := .slice (some ⟨0, 0, some 0⟩) n 2
def shH (n : Nat) (g : Nat → Int) (d i : Int) : St := stOf 54 [(1, SW n), (5, vI d), (6, vI i)] [Wr n g]
def shX (n : Nat) (row : Nat → List Value) (d i : Int) : St := stOf 54 [(1, SW n), (5, vI d), (6, vI i)] [.rows true true 2 n row]
theorem shFor : isFor 0 (stmt 2 (shB Try.prog)) = true := by kernel_rfl
theorem shHas : hasStmt 2 (shB Try.prog) = true := by kernel_rfl
theorem shCode : shF Try.prog = .seq (cL (shF Try.prog)) (.seq (.block 1 (.seq (cL (cL (cL (cR (shF Try.prog))))) (cR (cL (cL (cR (shF Try.prog))))))) (cR (cR (shF Try.prog)))) := by kernel_rfl
theorem shA (n : Nat) (g : Nat → Int) (d i : Int) : roundR ((Cr1 Try.prog).into 114 1) 60 (cL (shF Try.prog)) [1, 5, 6] [1, 5, 6] [.fix 0] [.fix 0] (shH n g d i) = (match decide (i ≥ d) with
  | true => some (.normal, shH n g d i)
  | false => some (.exit 0, shH n g d i)) := by kernel_rfl
theorem sh5 (n : Nat) (g : Nat → Int) (d i : Int) : roundR ((Cr1 Try.prog).into 114 1) 60 (cL (cL (cL (cR (shF Try.prog))))) [1, 5, 6] [1, 5, 6] [.fix 0] [.fix 0] (shH n g d i) =
  gd (boundsI (W (i - W (d.tdiv 2))) n) (gd (boundsI i n) (gd (u64B (hiW (g (W (i - W (d.tdiv 2))).toNat)) && (u64B (loW (g (W (i - W (d.tdiv 2))).toNat)) && (u64B (hiW (g i.toNat)) && u64B (loW (g i.toNat))))) (gd (boundsI (W (i - W (d.tdiv 2))) n)
    (some (.normal, shX n (stR (wRow g) (W (i - W (d.tdiv 2))).toNat (w2 (decW (hiW (g (W (i - W (d.tdiv 2))).toNat)) (loW (g (W (i - W (d.tdiv 2))).toNat)) + decW (hiW (g i.toNat)) (loW (g i.toNat))))) d i))))) := by kernel_rfl
theorem sh6 (n : Nat) (g : Nat → Int) (d i : Int) : roundR ((Cr1 Try.prog).into 114 1) 60 (cR (cL (cL (cR (shF Try.prog))))) [1, 5, 6] [1, 5, 6] [.fix 0] [.fix 0] (shH n g d i) =
  gd (boundsI (W (i - d)) n) (gd (boundsI i n) (gd (u64B (hiW (g (W (i - d)).toNat)) && (u64B (loW (g (W (i - d)).toNat)) && (u64B (hiW (g i.toNat)) && u64B (loW (g i.toNat))))) (gd (boundsI (W (i - d)) n)
    (some (.normal, shX n (stR (wRow g) (W (i - d)).toNat (w2 (decW (hiW (g (W (i - d)).toNat)) (loW (g (W (i - d)).toNat)) - decW (hiW (g i.toNat)) (loW (g i.toNat))))) d i))))) := by kernel_rfl
theorem sh4 (n : Nat) (g : Nat → Int) (d i : Int) : roundR ((Cr1 Try.prog).into 114 1) 60 (cR (cR (shF Try.prog))) [1, 5, 6] [1, 5, 6] [.fix 0] [.fix 0] (shH n g d i) = some (.normal, shH n g d (W (i - 1))) := by kernel_rfl
theorem shHead (n : Nat) (g : Nat → Int) (m : Int) : roundR ((Cr1 Try.prog).into 114 1) 60 (forHead (stmt 2 (shB Try.prog))) [1, 5, 6] [1, 5, 6] [.fix 0] [.fix 0] (stOf 54 [(1, SW n), (5, vI m)] [Wr n g]) = some (.normal, shH n g m (W ((n : Int) - 1))) := by kernel_rfl
theorem shP1 (n : Nat) (g : Nat → Int) (m : Int) : segR ((Cr1 Try.prog).into 114 1) 60 2 (shB Try.prog) [1, 5] [.fix 0] (enter Try.f114 [vI m, SW n] [Wr n g]) = some (stOf 54 [(1, SW n), (5, vI (W (m.tdiv 3)))] [Wr n g]) := by kernel_rfl
theorem shEnd (n : Nat) (g : Nat → Int) (d i : Int) : roundR ((Cr1 Try.prog).into 114 1) 60 (seqDrop 3 (shB Try.prog)) [4] [4] [.fix 0] [.fix 0] (shH n g d i) = gd (leI d n) (some (.ret, stOf 54 [(4, .slice (some ⟨0, 0, some 0⟩) d.toNat 2)] [Wr n g])) := by kernel_rfl
theorem shRet (n d : Nat) (g : Nat → Int) : (retA Try.prog Try.f114 (.ret, stOf 54 [(4, .slice (some ⟨0, 0, some 0⟩) d 2)] [Wr n g])).res = some (.slice (some ⟨0, 0, some 0⟩) d 2, [Wr n g]) := by kernel_rfl
end Go.Proofs.Ytjhijkdicmbbiaa


namespace Go.Proofs.Ytjhijkdicmbbiaa
open Go Vx Go.RowKit
theorem tdiv3 (d : Nat) : ((3 * d : Nat) : Int).tdiv 3 = (d : Int) := by
  rw [Int.tdiv_eq_ediv_of_nonneg (by omega)]; omega
theorem tdiv2 (d : Nat) : ((d : Nat) : Int).tdiv 2 = ((d / 2 : Nat) : Int) := by
  rw [Int.tdiv_eq_ediv_of_nonneg (by omega)]; omega
theorem shIn : InBody ((Cr1 Try.prog).into 114 1) (forHead (stmt 2 (shB Try.prog))) ∧ InBody ((Cr1 Try.prog).into 114 1) (shF Try.prog) := for_in (C := Cr1 Try.prog) (f := 114) (B := 1) (id := 0) (k := 2) (fn := Try.f114) (b := shB Try.prog) Try.func114 shB_eq shFor
theorem st_like {n : Nat} {row : Nat → List Value} {g : Nat → Int} {d i : Int} (h : ∀ q, q < n → row q = wRow g q) : StLike (shX n row d i) (shH n g d i) := ⟨rfl, .rows h, trivial⟩
theorem shRound (n d i : Nat) (hd : 2 ≤ d) (h1 : d ≤ i) (h2 : i < n) (hn : n ≤ 1048576) (g : Nat → Int) : CodeSem Try.prog 1 (shF Try.prog) (shH n g d i) .normal (shH n (redG d g i) d ((i : Int) - 1)) := by
  have hA := shA n g d i
  rw [show decide ((i : Int) ≥ (d : Int)) = true by simp; omega] at hA
  have a1 : W ((i : Int) - W ((d : Int).tdiv 2)) = ((i - d / 2 : Nat) : Int) := by
    rw [tdiv2, W_in (n := ((d / 2 : Nat) : Int)) (by omega), W_in (by omega)]; omega
  have a2 : W ((i : Int) - (d : Int)) = ((i - d : Nat) : Int) := by rw [W_in (by omega)]; omega
  have h5 := sh5 n g d i
  rw [a1, boundsI_ok (n := n) (i := ((i - d / 2 : Nat) : Int)) (by omega), boundsI_ok (n := n) (i := (i : Int)) (by omega)] at h5
  simp only [hiW_ok, loW_ok, Bool.and_self, gd_true, Int.toNat_natCast] at h5
  rw [w2_add] at h5
  have h6 := sh6 n (putG g (i - d / 2) (g (i - d / 2) + g i)) d i
  rw [a2, boundsI_ok (n := n) (i := ((i - d : Nat) : Int)) (by omega), boundsI_ok (n := n) (i := (i : Int)) (by omega)] at h6
  simp only [hiW_ok, loW_ok, Bool.and_self, gd_true, Int.toNat_natCast] at h6
  rw [w2_sub] at h6
  have e1 : putG g (i - d / 2) (g (i - d / 2) + g i) (i - d) = g (i - d) := by unfold putG; rw [if_neg (by omega)]
  have e2 : putG g (i - d / 2) (g (i - d / 2) + g i) i = g i := by unfold putG; rw [if_neg (by omega)]
  rw [e1, e2] at h6
  have h4 := sh4 n (redG d g i) d i
  rw [W_in (by omega)] at h4
  rw [shCode]
  have i1 := shIn.2
  have c5 := (end_rule (C := Cr1 Try.prog) okr1 (f := 114) (B := 1) i1.right.left.left.left h5).likes (st_like (g := putG g (i - d / 2) (g (i - d / 2) + g i)) fun q _ => stR_w g _ _ q)
  have c6 := (end_rule (C := Cr1 Try.prog) okr1 (f := 114) (B := 1) i1.right.left.left.right h6).likes (st_like (g := redG d g i) fun q _ => stR_w _ _ _ q)
  exact (end_rule (C := Cr1 Try.prog) okr1 (f := 114) (B := 1) i1.left hA).seq ((CodeSem.blockN (c5.seq c6)).seq (end_rule (C := Cr1 Try.prog) okr1 (f := 114) (B := 1) i1.right.right h4))
theorem shOut (n d : Nat) (i : Int) (h : i < (d : Int)) (g : Nat → Int) : CodeSem Try.prog 1 (shF Try.prog) (shH n g d i) (.exit 0) (shH n g d i) := by
  have hA := shA n g d i
  rw [show decide (i ≥ (d : Int)) = false by simp; omega] at hA
  rw [shCode]
  exact (end_rule (C := Cr1 Try.prog) okr1 (f := 114) (B := 1) shIn.2.left hA).out (by simp)
theorem shLoop (n d : Nat) (hd : 2 ≤ d) (h1 : d ≤ n) (hn : n ≤ 1048576) (g : Nat → Int) : LoopSem Try.prog 1 (shF Try.prog) (shH n g d ((n : Int) - 1)) (.exit 0) (shH n (redN d n g (n - d)) d ((d : Int) - 1)) := by
  have := run_loopC (P := Try.prog) (B := 1) (x := shF Try.prog) (e := .exit 0) (sE := shH n (redN d n g (n - d)) d ((d : Int) - 1)) (by simp) (n - d) (fun r => shH n (redN d n g r) d ((n : Int) - 1 - r)) (fun r hr => by
    have := shRound n d (n - 1 - r) hd (by omega) (by omega) hn (redN d n g r)
    rw [show (((n - 1 - r : Nat) : Nat) : Int) = (n : Int) - 1 - (r : Int) by omega, show (n : Int) - 1 - (r : Int) - 1 = (n : Int) - 1 - ((r + 1 : Nat) : Int) by omega] at this
    exact this) (by
    have := shOut n d ((n : Int) - 1 - ((n - d : Nat) : Int)) (by omega) (redN d n g (n - d))
    rw [show (n : Int) - 1 - ((n - d : Nat) : Int) = (d : Int) - 1 by omega] at this ⊢
    exact this)
  simpa [redN] using this
theorem shSem (n d : Nat) (hd : 2 ≤ d) (h1 : d ≤ n) (hn : n ≤ 1048576) (g : Nat → Int) : MemSem Try.prog 114 [vI ((3 * d : Nat) : Int), SW n] [Wr n g] (.slice (some ⟨0, 0, some 0⟩) d 2) [Wr n (redN d n g (n - d))] := by
  have body0 : InBody ((Cr1 Try.prog).into 114 1) (shB Try.prog) := Or.inl ⟨Try.f114, shB Try.prog, Try.func114, shB_eq, fun _ hx => hx⟩
  have r1 := shP1 n g ((3 * d : Nat) : Int)
  rw [tdiv3, W_in (by omega)] at r1
  have rh := shHead n g (d : Int)
  rw [W_in (by omega)] at rh
  have re := shEnd n (redN d n g (n - d)) d ((d : Int) - 1)
  rw [show leI (d : Int) n = true by unfold leI; simp; omega] at re
  simp only [gd_true, Int.toNat_natCast] at re
  refine body_mem (f := 114) Try.func114 shB_eq (by kernel_rfl) (seg_rule (C := Cr1 Try.prog) okr1 (f := 114) (B := 1) (k := 2) body0 r1 (stmt_rule shHas (for_rule shFor (end_rule (C := Cr1 Try.prog) okr1 (f := 114) (B := 1) shIn.1 rh) (shLoop n d hd h1 hn g)) (end_rule (C := Cr1 Try.prog) okr1 (f := 114) (B := 1) (bodyOf_in Try.func114 shB_eq) re))) (shRet n d _)
def okWs (n : Nat) (row : Nat → List Value) : Bool := (List.range n).all fun i => match row i with
  | [.int .u64 h, .int .u64 l] => u64B h && u64B l
  | _ => false
def gOf (row : Nat → List Value) (i : Nat) : Int := match row i with
  | [.int .u64 h, .int .u64 l] => decW h l
  | _ => 0
theorem okWs_row (n : Nat) (g : Nat → Int) : okWs n (wRow g) = true := List.all_eq_true.2 fun i _ => by simp [wRow, hiW_ok, loW_ok]
theorem gOf_row (g : Nat → Int) (i : Nat) : wid (gOf (wRow g) i) = wid (g i) := by
  show wid (decW (hiW (g i)) (loW (g i))) = _
  rw [dec_hl]
  unfold wid
  omega
theorem hl_dec {h l : Int} (a : u64B h = true) (b : u64B l = true) : hiW (decW h l) = h ∧ loW (decW h l) = l := by
  rw [u64B_iff] at a b
  unfold hiW loW decW
  omega
theorem ws_like {n : Nat} {row : Nat → List Value} (h : okWs n row = true) : rowsLike n row (wRow (gOf row)) := by
  intro i hi
  have := List.all_eq_true.1 h i (List.mem_range.2 hi)
  unfold wRow gOf
  split at this
  · rename_i a b hx
    simp only [hx]
    simp only [Bool.and_eq_true] at this
    obtain ⟨e1, e2⟩ := hl_dec this.1 this.2
    rw [e1, e2]
  · cases this
/-- The contract. -/
def shapedF : List Value → Mem → Option (Ans (Value × Mem))
  | [.int .i64 m, .slice (some ⟨0, 0, some 0⟩) N 2], [.rows true true 2 N2 row] => some (.br (fineB m && (Nat.beq N N2 && (okWs N row && (decide (m ≤ 3 * (N : Int)) && decide (N ≤ 1048576))))) (.out (.slice (some ⟨0, 0, some 0⟩) (m.toNat / 3) 2, [.rows true true 2 N (wRow (redN (m.toNat / 3) N (gOf row) (N - m.toNat / 3)))])) .fail)
  | _, _ => none
theorem fine_cases {m : Int} (h : fineB m = true) : m = 24 ∨ m = 48 ∨ m = 96 ∨ m = 192 := by
  unfold fineB at h
  simpa using h
theorem shapedF_ok {args : List Value} {m : Mem} {ans : Ans (Value × Mem)} {v : Value} {m' : Mem} (h : shapedF args m = some ans) (hr : ans.res = some (v, m')) : MemSem Try.prog 114 args m v m' := by
  unfold shapedF at h
  split at h
  · rename_i m N N2 row
    simp only [Option.some.injEq] at h
    subst h
    rcases Ans.br_some hr with ⟨hc, g⟩ | ⟨_, g⟩ <;> clear hr
    rotate_left
    · simp [Ans.res] at g
    simp only [Bool.and_eq_true, decide_eq_true_eq] at hc
    obtain ⟨c1, c2, c3, c4, c5⟩ := hc
    have e1 := Nat.eq_of_beq_eq_true c2
    subst e1
    simp only [Ans.res, Option.some.injEq, Prod.mk.injEq] at g
    obtain ⟨rfl, rfl⟩ := g
    have hm := fine_cases c1
    have := shSem N (m.toNat / 3) (by omega) (by omega) c5 (gOf row)
    rw [show ((3 * (m.toNat / 3) : Nat) : Int) = m by omega] at this
    exact MemSem.like this ⟨.rows (ws_like c3), trivial⟩
  · cases h
def Cr2 (P : Program) : Cx := (Cr1 P).addF 114 shapedF
theorem okr2 : CxOk (Cr2 Try.prog) := Cx.addF_ok okr1 fun _ _ _ _ _ h hr => shapedF_ok h hr
end Go.Proofs.Ytjhijkdicmbbiaa


namespace Go.Proofs.Ytjhijkdicmbbiaa
open Go Vx Go.RowKit
def tdB (P : Program) : Code := bodyOf P 101
theorem tdB_eq : Try.f101.body = some (tdB Try.prog) := by kernel_rfl
def pt (b : Nat) : Value := .pointer (some ⟨b, 0, none⟩)
def SI (b n : Nat) : Value := .slice (some ⟨b, 0, some 0⟩) n 1
def tdM (n d : Nat) (m : Int) (g : Nat → Int) (c : Nat → List Value) : Mem := [Wr n g, .cells true 0 [.int .i64 0, .slice none 0 0], .cells true 0 [.int .i64 m, SI 3 d], .rows true true 1 d c]
def tdS (n d : Nat) (m : Int) (g : Nat → Int) : St := stOf 42 [(0, vI m), (1, SW n), (4, pt 1), (5, vI 0), (6, pt 2)] (tdM n d m g (iRow fun _ => 0))
def tdX (n d : Nat) (m : Int) (g : Nat → Int) (c : Nat → List Value) (i : Int) : St := stOf 42 [(4, pt 1), (5, vI 0), (6, pt 2), (17, SW d), (18, vI d), (19, vI i)] (tdM n d m g c)
def tdH (n d : Nat) (m : Int) (g c : Nat → Int) (i : Int) : St := tdX n d m g (iRow c) i
def tdE (n d : Nat) (m : Int) (g c : Nat → Int) (e : Int) : St := stOf 42 [(4, pt 1), (5, vI e), (6, pt 2)] (tdM n d m g (iRow c))
def mkT (d : Int) : Bool := decide (0 ≤ d) && (decide (d ≤ d) && (decide (d * ((8 : Nat) : Int) ≤ 2 ^ 47) && decide (d ≤ 2 ^ 62)))
theorem tdP1 (n : Nat) (g : Nat → Int) (m : Int) : segR ((Cr2 Try.prog).into 101 1) 60 2 (tdB Try.prog) [0, 1, 4, 5, 6] [.fix 0, .slot 4, .slot 6, .cell 3 1] (enter Try.f101 [vI m, SW n] [Wr n g]) = gd (mkT (W (m.tdiv 3))) (some (tdS n (W (m.tdiv 3)).toNat m g)) := by kernel_rfl
def shT (n : Nat) (m : Int) (row : Nat → List Value) : Bool := fineB m && (Nat.beq n n && (okWs n row && (decide (m ≤ 3 * (n : Int)) && decide (n ≤ 1048576))))
def shG (n : Nat) (m : Int) (row : Nat → List Value) : Nat → Int := redN (m.toNat / 3) n (gOf row) (n - m.toNat / 3)
theorem tdHead (n d : Nat) (g : Nat → Int) (m : Int) : roundR ((Cr2 Try.prog).into 101 1) 60 (forHead (stmt 2 (tdB Try.prog))) [4, 5, 6, 17, 18, 19] [4, 5, 6, 17, 18, 19] [.fix 0, .slot 4, .slot 6, .cell 2 1] [.fix 0, .slot 4, .slot 6, .cell 2 1] (tdS n d m g) = gd (shT n m (wRow g)) (some (.normal, stOf 42 [(4, pt 1), (5, vI 0), (6, pt 2), (17, SW (m.toNat / 3)), (18, vI (m.toNat / 3 : Nat)), (19, vI 0)] (tdM n d m (shG n m (wRow g)) (iRow fun _ => 0)))) := by kernel_rfl
def nar (v : Int) : Int := W (loW v)
def fitW (v : Int) : Bool := (hiW (nar v) == hiW v && (loW (nar v) == loW v && true))
theorem tdR (n d : Nat) (g c : Nat → Int) (m i : Int) : roundR ((Cr2 Try.prog).into 101 1) 60 (forBody (stmt 2 (tdB Try.prog))) [4, 5, 6, 17, 18, 19] [4, 5, 6] [.fix 0, .slot 4, .slot 6, .cell 2 1] [.fix 0, .slot 4, .slot 6, .cell 2 1] (tdH n d m g c i) =
  (match decide (i < (d : Int)) with
  | true => gd (boundsI i d) (gd (i64B (nar (g i.toNat))) (match !fitW (g i.toNat) with
    | true => some (.ret, tdE n d m g c 4)
    | false => match !inRg (nar (g i.toNat)) with
      | true => some (.ret, tdE n d m g c 4)
      | false => gd (boundsI i d) (some (.normal, tdX n d m g (stR (iRow c) i.toNat [.int .i64 (nar (g i.toNat))]) (W (i + 1))))))
  | false => some (.exit 0, tdE n d m g c 0)) := by kernel_rfl
def tdY (n d : Nat) (m : Int) (g c : Nat → Int) : St := stOf 42 [(4, pt 1), (5, vI 0)] [Wr n g, .cells true 0 [.int .i64 m, SI 2 d], .rows true true 1 d (iRow c)]
theorem tdEnd (n d : Nat) (g c : Nat → Int) (m : Int) : roundR ((Cr2 Try.prog).into 101 1) 60 (seqDrop 3 (tdB Try.prog)) [4, 5] [4, 5] [.fix 0, .slot 4, .cell 1 1] [.fix 0, .slot 4, .cell 1 1] (tdE n d m g c 0) = some (.ret, tdY n d m g c) := by kernel_rfl
def rgV (m : Int) (s : Value) (e : Int) : Value := .tuple #[.agg #[vI m, s], vI e]
theorem tdRet (n d : Nat) (g c : Nat → Int) (m : Int) : (retA Try.prog Try.f101 (.ret, tdY n d m g c)).res = some (rgV m (SI 2 d) 0, [Wr n g, .cells true 0 [.int .i64 m, SI 2 d], .rows true true 1 d (iRow c)]) := by kernel_rfl
theorem tdTidy (n d : Nat) (g c : Nat → Int) (m : Int) : (tidyA 1 [.fix 0, .cell 1 1] (rgV m (SI 2 d) 0, [Wr n g, .cells true 0 [.int .i64 m, SI 2 d], .rows true true 1 d (iRow c)])).res = some (rgV m (SI 1 d) 0, [Wr n g, .rows true true 1 d (iRow c)]) := by kernel_rfl
theorem tdRetE (n d : Nat) (g c : Nat → Int) (m : Int) : (retA Try.prog Try.f101 (.ret, tdE n d m g c 4)).res = some (rgV 0 (.slice none 0 0) 4, tdM n d m g (iRow c)) := by kernel_rfl
theorem tdTidyE (n d : Nat) (g c : Nat → Int) (m : Int) : (tidyA 1 [.fix 0] (rgV 0 (.slice none 0 0) 4, tdM n d m g (iRow c))).res = some (rgV 0 (.slice none 0 0) 4, [Wr n g]) := by kernel_rfl
theorem tdFor : isFor 0 (stmt 2 (tdB Try.prog)) = true := by kernel_rfl
theorem tdHas : hasStmt 2 (tdB Try.prog) = true := by kernel_rfl
theorem tdIn : InBody ((Cr2 Try.prog).into 101 1) (forHead (stmt 2 (tdB Try.prog))) ∧ InBody ((Cr2 Try.prog).into 101 1) (forBody (stmt 2 (tdB Try.prog))) := for_in (C := Cr2 Try.prog) (f := 101) (B := 1) (id := 0) (k := 2) (fn := Try.f101) (b := tdB Try.prog) Try.func101 tdB_eq tdFor
end Go.Proofs.Ytjhijkdicmbbiaa


namespace Go.Proofs.Ytjhijkdicmbbiaa
open Go Vx Go.RowKit
def fits (v : Int) : Bool := fitW v && inRg (nar v)
def allF (d : Nat) (g : Nat → Int) : Bool := (List.range d).all fun i => fits (g i)
theorem i64B_W (n : Int) : i64B (W n) = true := i64B_iff.2 (by rw [W_eq]; omega)
def fill (g : Nat → Int) (i : Nat) (q : Nat) : Int := if q < i then nar (g q) else 0
theorem fill_step (g : Nat → Int) (i q : Nat) : putG (fill g i) i (nar (g i)) q = fill g (i + 1) q := by
  unfold putG fill
  by_cases h : q = i
  · subst h; rw [if_pos rfl, if_pos (by omega)]
  · rw [if_neg h]
    by_cases k : q < i
    · rw [if_pos k, if_pos (by omega)]
    · rw [if_neg k, if_neg (by omega)]
theorem tdNext (n d : Nat) (m : Int) (g : Nat → Int) (hd : d ≤ 1048576) (i : Nat) (hi : i < d) (hf : fits (g i) = true) : ∃ s, roundR ((Cr2 Try.prog).into 101 1) 60 (forBody (stmt 2 (tdB Try.prog))) [4, 5, 6, 17, 18, 19] [4, 5, 6] [.fix 0, .slot 4, .slot 6, .cell 2 1] [.fix 0, .slot 4, .slot 6, .cell 2 1] (tdH n d m g (fill g i) (i : Int)) = some (.normal, s) ∧ StLike s (tdH n d m g (fill g (i + 1)) ((i + 1 : Nat) : Int)) := by
  have h := tdR n d g (fill g i) m i
  unfold fits at hf
  rw [Bool.and_eq_true] at hf
  rw [show decide ((i : Int) < (d : Int)) = true by simp; omega, boundsI_ok (n := d) (i := (i : Int)) (by omega), show i64B (nar (g (i : Int).toNat)) = true from i64B_W _] at h
  simp only [gd_true, Int.toNat_natCast, hf.1, hf.2, Bool.not_true] at h
  refine ⟨_, h, ?_⟩
  rw [show W ((i : Int) + 1) = ((i + 1 : Nat) : Int) by rw [W_in (by omega)]; simp]
  refine ⟨rfl, .refl _, .refl _, .refl _, .rows fun q _ => ?_, trivial⟩
  rw [stR_i]
  simp only [iRow, fill_step]
theorem tdLoopT (n d : Nat) (m : Int) (g : Nat → Int) (hd : d ≤ 1048576) (hf : ∀ i, i < d → fits (g i) = true) : LoopSem Try.prog 1 (forBody (stmt 2 (tdB Try.prog))) (tdH n d m g (fill g 0) ((0 : Nat) : Int)) (.exit 0) (tdE n d m g (fill g d) 0) := by
  refine run_loop (C := Cr2 Try.prog) okr2 (f := 101) (B := 1) (m := 60) tdIn.2 (by simp) d (fun i => tdH n d m g (fill g i) (i : Int)) (fun i hi => tdNext n d m g hd i hi (hf i hi)) ?_
  have h := tdR n d g (fill g d) m d
  rw [show decide ((d : Int) < (d : Int)) = false by simp] at h
  exact h
theorem tdLoopF (n d : Nat) (m : Int) (g : Nat → Int) (hd : d ≤ 1048576) (k : Nat) (hk : k < d) (hf : ∀ i, i < k → fits (g i) = true) (hb : fits (g k) = false) : LoopSem Try.prog 1 (forBody (stmt 2 (tdB Try.prog))) (tdH n d m g (fill g 0) ((0 : Nat) : Int)) .ret (tdE n d m g (fill g k) 4) := by
  refine run_loop (C := Cr2 Try.prog) okr2 (f := 101) (B := 1) (m := 60) tdIn.2 (by simp) k (fun i => tdH n d m g (fill g i) (i : Int)) (fun i hi => tdNext n d m g hd i (by omega) (hf i hi)) ?_
  have h := tdR n d g (fill g k) m k
  rw [show decide ((k : Int) < (d : Int)) = true by simp; omega, boundsI_ok (n := d) (i := (k : Int)) (by omega), show i64B (nar (g (k : Int).toNat)) = true from i64B_W _] at h
  simp only [gd_true, Int.toNat_natCast] at h
  unfold fits at hb
  cases h1 : fitW (g k) with
  | false => rw [h1] at h; exact h
  | true =>
    rw [h1, Bool.true_and] at hb
    rw [h1, hb] at h
    exact h
theorem shT_ok {n d : Nat} {m : Int} (h : fineB m = true) (hm : m = ((3 * d : Nat) : Int)) (h1 : d ≤ n) (h2 : n ≤ 1048576) (g : Nat → Int) : shT n m (wRow g) = true := by
  unfold shT
  rw [h, Nat.beq_refl, okWs_row, decide_eq_true (by omega), decide_eq_true h2]
  rfl
/-- What the powers come to. -/
def cofG (n d : Nat) (g : Nat → Int) : Nat → Int := redN d n (gOf (wRow g)) (n - d)
theorem tdHd (n d : Nat) (m : Int) (g : Nat → Int) (h : fineB m = true) (hm : m = ((3 * d : Nat) : Int)) (h1 : d ≤ n) (h2 : n ≤ 1048576) : CodeSem Try.prog 1 (forHead (stmt 2 (tdB Try.prog))) (tdS n d m g) .normal (tdH n d m (cofG n d g) (fill (cofG n d g) 0) ((0 : Nat) : Int)) := by
  have rh := tdHead n d g m
  rw [shT_ok h hm h1 h2] at rh
  have e : m.toNat / 3 = d := by omega
  simp only [gd_true, shG, e] at rh
  have := end_rule (C := Cr2 Try.prog) okr2 (f := 101) (B := 1) tdIn.1 rh
  exact this
theorem tdS1 (n d : Nat) (m : Int) (g : Nat → Int) (h : fineB m = true) (hm : m = ((3 * d : Nat) : Int)) {e : Exit} {s : St} (hc : CodeSem Try.prog 1 (seqDrop 2 (tdB Try.prog)) (tdS n d m g) e s) : CodeSem Try.prog 1 (tdB Try.prog) (enter Try.f101 [vI m, SW n] [Wr n g]) e s := by
  have body0 : InBody ((Cr2 Try.prog).into 101 1) (tdB Try.prog) := Or.inl ⟨Try.f101, tdB Try.prog, Try.func101, tdB_eq, fun _ hx => hx⟩
  have hf := fine_cases h
  have r1 := tdP1 n g m
  have e1 : W (m.tdiv 3) = (d : Int) := by rw [hm, tdiv3, W_in (by omega)]
  rw [e1, show mkT (d : Int) = true by unfold mkT; simp; omega] at r1
  simp only [gd_true, Int.toNat_natCast] at r1
  exact seg_rule (C := Cr2 Try.prog) okr2 (f := 101) (B := 1) (k := 2) body0 r1 hc
theorem toldT (n d : Nat) (m : Int) (g : Nat → Int) (h : fineB m = true) (hm : m = ((3 * d : Nat) : Int)) (h1 : d ≤ n) (h2 : n ≤ 1048576) (hf : ∀ i, i < d → fits (cofG n d g i) = true) : MemSem Try.prog 101 [vI m, SW n] [Wr n g] (rgV m (SI 1 d) 0) [Wr n (cofG n d g), .rows true true 1 d (iRow fun i => nar (cofG n d g i))] := by
  have c1 := stmt_rule tdHas (for_rule tdFor (tdHd n d m g h hm h1 h2) (tdLoopT n d m (cofG n d g) (by omega) hf)) (end_rule (C := Cr2 Try.prog) okr2 (f := 101) (B := 1) (bodyOf_in Try.func101 tdB_eq) (tdEnd n d (cofG n d g) (fill (cofG n d g) d) m))
  have s1 := body_mem (m := [Wr n g]) (args := [vI m, SW n]) (f := 101) Try.func101 tdB_eq (by kernel_rfl) (tdS1 n d m g h hm c1) (tdRet n d (cofG n d g) (fill (cofG n d g) d) m)
  have s2 := s1.tidy (tdTidy n d (cofG n d g) (fill (cofG n d g) d) m)
  refine s2.likes ⟨.refl _, .rows fun i hi => ?_, trivial⟩
  simp only [iRow, fill, if_pos hi]
theorem toldE (n d : Nat) (m : Int) (g : Nat → Int) (h : fineB m = true) (hm : m = ((3 * d : Nat) : Int)) (h1 : d ≤ n) (h2 : n ≤ 1048576) (k : Nat) (hk : k < d) (hf : ∀ i, i < k → fits (cofG n d g i) = true) (hb : fits (cofG n d g k) = false) : MemSem Try.prog 101 [vI m, SW n] [Wr n g] (rgV 0 (.slice none 0 0) 4) [Wr n (cofG n d g)] := by
  have c1 := stmt_out tdHas (for_ret tdFor (tdHd n d m g h hm h1 h2) (tdLoopF n d m (cofG n d g) (by omega) k hk hf hb)) (by simp)
  have s1 := body_mem (m := [Wr n g]) (args := [vI m, SW n]) (f := 101) Try.func101 tdB_eq (by kernel_rfl) (tdS1 n d m g h hm c1) (tdRetE n d (cofG n d g) (fill (cofG n d g) k) m)
  exact s1.tidy (tdTidyE n d (cofG n d g) (fill (cofG n d g) k) m)
theorem allF_none {d : Nat} {g : Nat → Int} (h : allF d g = false) : ∃ k, k < d ∧ (∀ i, i < k → fits (g i) = true) ∧ fits (g k) = false := by
  cases hq : fst? (fun i => !fits (g i)) d 0 with
  | none =>
    have := fst?_none hq
    have : allF d g = true := List.all_eq_true.2 fun i hi => by
      have := this i (by omega) (by simpa using hi)
      simpa using this
    rw [this] at h; cases h
  | some k =>
    obtain ⟨_, a, b, c⟩ := fst?_some hq
    exact ⟨k, by omega, fun i hi => by simpa using c i (by omega) hi, by simpa using b⟩
/-- The contract. -/
def toldF : List Value → Mem → Option (Ans (Value × Mem))
  | [.int .i64 m, .slice (some ⟨0, 0, some 0⟩) N 2], [.rows true true 2 N2 row] => some (.br (fineB m && (Nat.beq N N2 && (okWs N row && (decide (m ≤ 3 * (N : Int)) && decide (N ≤ 1048576))))) (.br (allF (m.toNat / 3) (cofG N (m.toNat / 3) (gOf row)))
    (.out (rgV m (SI 1 (m.toNat / 3)) 0, [.rows true true 2 N (wRow (cofG N (m.toNat / 3) (gOf row))), .rows true true 1 (m.toNat / 3) (iRow fun i => nar (cofG N (m.toNat / 3) (gOf row) i))]))
    (.out (rgV 0 (.slice none 0 0) 4, [.rows true true 2 N (wRow (cofG N (m.toNat / 3) (gOf row)))]))) .fail)
  | _, _ => none
theorem toldF_ok {args : List Value} {m : Mem} {ans : Ans (Value × Mem)} {v : Value} {m' : Mem} (h : toldF args m = some ans) (hr : ans.res = some (v, m')) : MemSem Try.prog 101 args m v m' := by
  unfold toldF at h
  split at h
  · rename_i m N N2 row
    simp only [Option.some.injEq] at h
    subst h
    rcases Ans.br_some hr with ⟨hc, g⟩ | ⟨_, g⟩ <;> clear hr
    rotate_left
    · simp [Ans.res] at g
    simp only [Bool.and_eq_true, decide_eq_true_eq] at hc
    obtain ⟨c1, c2, c3, c4, c5⟩ := hc
    have e1 := Nat.eq_of_beq_eq_true c2
    subst e1
    have hm := fine_cases c1
    have hm3 : m = ((3 * (m.toNat / 3) : Nat) : Int) := by omega
    have hl : LikeL [.rows true true 2 N row] [Wr N (gOf row)] := ⟨.rows (ws_like c3), trivial⟩
    rcases Ans.br_some g with ⟨hf, g2⟩ | ⟨hf, g2⟩ <;> clear g
    · simp only [Ans.res, Option.some.injEq, Prod.mk.injEq] at g2
      obtain ⟨rfl, rfl⟩ := g2
      exact (toldT N (m.toNat / 3) m (gOf row) c1 hm3 (by omega) c5 fun i hi => List.all_eq_true.1 hf i (List.mem_range.2 hi)).like hl
    · simp only [Ans.res, Option.some.injEq, Prod.mk.injEq] at g2
      obtain ⟨rfl, rfl⟩ := g2
      obtain ⟨k, a, b, c⟩ := allF_none hf
      exact (toldE N (m.toNat / 3) m (gOf row) c1 hm3 (by omega) c5 k a b c).like hl
  · cases h
def Cr3 (P : Program) : Cx := (Cr2 P).addF 101 toldF
theorem okr3 : CxOk (Cr3 Try.prog) := Cx.addF_ok okr2 fun _ _ _ _ _ h hr => toldF_ok h hr
end Go.Proofs.Ytjhijkdicmbbiaa
