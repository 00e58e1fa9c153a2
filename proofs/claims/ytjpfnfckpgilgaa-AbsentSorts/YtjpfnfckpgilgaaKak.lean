/-
  What a call that only reads what it is handed does with parts of lists. Nothing here is trusted.
-/
import Derived.Test.YtjpfnfckpgilgaaKaf
import Derived.Test.YtjpfnfckpgilgaaKag
import Derived.Test.YtjpfnfckpgilgaaKaj

namespace Go.Proofs.Ytjpfnfckpgilgaa.Vx
open Go Go.RowKit

def shiftR (i : Nat) (row : Nat → List Value) : Nat → List Value := match i with
  | 0 => row
  | i + 1 => fun j => row (i + 1 + j)
theorem shiftR_at (i : Nat) (row : Nat → List Value) (j : Nat) : shiftR i row j = row (i + j) := by cases i <;> simp [shiftR]
/-- Rows that can be lent. -/
def rowsAt : Option Blk → Option (Nat × Nat × (Nat → List Value))
  | some (.rows _ true e n row) => some (e, n, row)
  | some (.grow true e n row) => some (e, n, row)
  | _ => none
def sliceAt : Value → Option (Nat × Nat × Nat × Nat)
  | .slice (some a) n e => match a.off, a.spot with
    | 0, some i => some (a.block, i, n, e)
    | _, _ => none
  | _ => none
/-- Each slice that is handed in is a block of its own, which is only read. -/
def lendA (m : Mem) : List Value → Nat → Option (List Value × Mem × Bool)
  | [], _ => some ([], [], true)
  | v :: l, k => match sliceAt v with
    | some (b, i, n, e) => match rowsAt m[b]? with
      | some (e2, n2, row) => match Nat.beq e2 e with
        | true => match lendA m l (k + 1) with
          | some (ags, ms, c) => some (.slice (some ⟨k, 0, some 0⟩) n e :: ags, .rows false true e n (shiftR i row) :: ms, Nat.ble (i + n) n2 && c)
          | none => none
        | false => none
      | none => none
    | none => match plain v with
      | true => match lendA m l k with
        | some (ags, ms, c) => some (v :: ags, ms, c)
        | none => none
      | false => none
theorem sliceAt_spec {v : Value} {b i n e : Nat} (h : sliceAt v = some (b, i, n, e)) : v = .slice (some ⟨b, 0, some i⟩) n e := by
  cases v with
  | slice a n2 e2 =>
    cases a with
    | none => cases h
    | some a =>
      obtain ⟨b2, off, spot⟩ := a
      cases off with
      | succ o => cases h
      | zero =>
        cases spot with
        | none => cases h
        | some j =>
          simp only [sliceAt, Option.some.injEq, Prod.mk.injEq] at h
          obtain ⟨rfl, rfl, rfl, rfl⟩ := h
          rfl
  | _ => cases h
theorem rowsAt_rel {w : World} {r : Ren} {p : Place} {kk : Blk} {e n : Nat} {row : Nat → List Value} (hb : BlkRel w r p kk) (h : rowsAt (some kk) = some (e, n, row)) :
    p.esz = e ∧ p.n = n ∧ (∀ i, i < n → allL plain0 (row i) = true) ∧ ∃ cs T fz, w.heap[p.blk]? = some (.cells cs T fz) ∧ ∀ i, i < n → (row i).length = e ∧ CellsAt r cs (p.off + i * e) (row i) := by
  cases kk with
  | rows own pl e2 n2 row2 =>
    cases pl with
    | false => cases h
    | true =>
      simp only [rowsAt, Option.some.injEq, Prod.mk.injEq] at h
      obtain ⟨rfl, rfl, rfl⟩ := h
      obtain ⟨h1, h2, h0, hp, cs, T, fz, h6, h3, h4, h5⟩ := hb
      exact ⟨h2, h0, hp rfl, cs, T, fz, h3, h5⟩
  | grow pl e2 n2 row2 =>
    cases pl with
    | false => cases h
    | true =>
      simp only [rowsAt, Option.some.injEq, Prod.mk.injEq] at h
      obtain ⟨rfl, rfl, rfl⟩ := h
      obtain ⟨h1, h2, h0, hp, cs, T, fz, h3, h4, h5⟩ := hb
      exact ⟨h2, h0, hp rfl, cs, T, fz, h3, h5⟩
  | _ => cases h
theorem lend_ok {w0 w : World} {keep : Keep} {r : Ren} {m : Mem} (hm : MemRel w0 keep r m w) : ∀ (args : List Value) (k : Nat) {ags : List Value} {ms : Mem} {c : Bool} {args' : List Value}, lendA m args k = some (ags, ms, c) → c = true → RL (R r) args args' →
    ∃ ps : List Place, ps.length = ms.length ∧ (∀ (rl : Ren), (∀ (i : Nat) p, ps[i]? = some p → rl (k + i) = some (some p)) → RL (R rl) ags args') ∧ ∀ (i : Nat) p, ps[i]? = some p → p.own = false ∧ p.room = 0 ∧ (∃ b q, r b = some (some q) ∧ q.blk = p.blk) ∧ ∃ kk, ms[i]? = some kk ∧ ∀ rl : Ren, BlkRel w rl p kk
  | [], k, ags, ms, c, args', h, hc, ha => by
    simp only [lendA, Option.some.injEq, Prod.mk.injEq] at h
    obtain ⟨rfl, rfl, -⟩ := h
    exact ⟨[], rfl, fun _ _ => by cases args' with | nil => trivial | cons => exact ha.elim, fun i p hp => by simp at hp⟩
  | v :: l, k, ags, ms, c, [], h, hc, ha => ha.elim
  | v :: l, k, ags, ms, c, v' :: l', h, hc, ha => by
    simp only [lendA] at h
    split at h
    · rename_i b i n e hv
      have hv := sliceAt_spec hv
      subst hv
      split at h
      · rename_i e2 n2 row hrow
        split at h
        · rename_i he
          have he := Nat.eq_of_beq_eq_true he
          subst he
          split at h
          · rename_i ags1 ms1 c1 hl
            simp only [Option.some.injEq, Prod.mk.injEq] at h
            obtain ⟨rfl, rfl, rfl⟩ := h
            rw [Bool.and_eq_true] at hc
            obtain ⟨ps, h1, h2, h3⟩ := lend_ok hm l (k + 1) hl hc.2 ha.2
            have hle : i + n ≤ n2 := Nat.le_of_ble_eq_true hc.1
            have hv : R0 r (.slice (some ⟨b, 0, some i⟩) n e2) v' := ha.1
            unfold R0 at hv
            simp only at hv
            cases hr : r b with
            | none => rw [hr] at hv; exact hv.elim
            | some q =>
              cases q with
              | none =>
                rw [hm.dead b hr] at hrow
                cases hrow
              | some p =>
                rw [hr] at hv
                simp only at hv
                obtain ⟨cc, rfl, s1, s2, s3, s4, s5⟩ := hv
                obtain ⟨kk, hkb, hrel⟩ := hm.blk b p hr
                rw [hkb] at hrow
                obtain ⟨q1, q2, q3, cs, T, fz, q4, q5⟩ := rowsAt_rel hrel hrow
                refine ⟨⟨p.blk, p.off + i * e2, e2, n, 0, false⟩ :: ps, by simp [h1], fun rl hrl => ⟨?_, h2 rl fun j q hq => ?_⟩, fun j q hq => ?_⟩
                · have := hrl 0 _ rfl
                  simp only [Nat.add_zero] at this
                  have hg : R0 rl (.slice (some ⟨k, 0, some 0⟩) n e2) (.slice (some (p.addr ⟨b, 0, some i⟩)) n cc) := by
                    unfold R0
                    simp only [this]
                    refine ⟨cc, by simp [Place.addr, q1], s1, fun j hj => ?_, fun _ => rfl, fun _ => rfl, fun h => by cases h⟩
                    simp only [Option.some.injEq] at hj
                    subst hj
                    simp
                  exact hg
                · have := hrl (j + 1) q (by simpa using hq)
                  rw [← this]; congr 1; omega
                · cases j with
                  | zero =>
                    simp only [List.getElem?_cons_zero, Option.some.injEq] at hq
                    subst hq
                    refine ⟨rfl, rfl, ⟨b, p, hr, rfl⟩, _, rfl, fun rl => ⟨rfl, rfl, rfl, fun _ j hj => ?_, cs, T, fz, fun _ => rfl, q4, (fun h => by cases h), fun j hj => ?_⟩⟩
                    · rw [shiftR_at]; exact q3 _ (by omega)
                    · rw [shiftR_at]
                      refine ⟨(q5 _ (by omega)).1, fun t u hu => ?_⟩
                      have hpu := allL_iff.1 (q3 (i + j) (by omega)) u (List.mem_of_getElem? hu)
                      obtain ⟨u', g1, g2⟩ := (q5 (i + j) (by omega)).2 t u hu
                      refine ⟨u', ?_, (R0_plain hpu).2 ((R0_plain hpu).1 g2)⟩
                      simp only
                      rw [Nat.add_assoc p.off, ← Nat.add_mul]
                      exact g1
                  | succ j =>
                    simp only [List.getElem?_cons_succ] at hq ⊢
                    exact h3 j q hq
          · cases h
        · cases h
      · cases h
    · split at h
      · rename_i hp
        split at h
        · rename_i ags1 ms1 c1 hl
          simp only [Option.some.injEq, Prod.mk.injEq] at h
          obtain ⟨rfl, rfl, rfl⟩ := h
          obtain ⟨ps, h1, h2, h3⟩ := lend_ok hm l k hl hc ha.2
          exact ⟨ps, h1, fun rl hrl => ⟨(R_plain hp).2 ((R_plain hp).1 ha.1), h2 rl hrl⟩, h3⟩
        · cases h
      · cases h

def ownB : Blk → Bool
  | .cells own _ _ => own
  | .rows own _ _ _ _ => own
  | .view .. => false
  | _ => true
theorem ownB_own {w : World} {r : Ren} {p : Place} {k : Blk} (h : BlkRel w r p k) (ho : ownB k = true) : p.own = true := by
  cases k with
  | cells own e c => simp only [ownB] at ho; rw [h.1, ho]
  | rows own pl e n row => simp only [ownB] at ho; rw [h.1, ho]
  | grow pl e n row => exact h.1
  | view pl e n row => cases ho
  | iter s pos => exact h.1
  | mp u n es => exact h.1
  | no => exact h.elim
  | gone => exact h.elim
/-- What is made beside what is there. -/
theorem MemRel.join {w0 w w' : World} {keep kp : Keep} {r rn : Ren} {m mn : Mem} (hm : MemRel w0 keep r m w) (g : MemRel w kp rn mn w') (hk : ∀ j, keep j → kp j) (ho : ∀ b p, r b = some (some p) → kp p.blk) (hown : allB ownB mn = true) :
    MemRel w0 keep (r.back rn [] m.length) (m ++ mapB (unrB [] m.length) mn) w' ∧ Ext r (r.back rn [] m.length) := by
  have hlo : ∀ {b : Nat}, b < m.length → (r.back rn [] m.length) b = r b := fun {b} hb => by simp [Ren.back, idxN, hb]
  have hhi : ∀ {b : Nat}, ¬ b < m.length → (r.back rn [] m.length) b = rn (b - m.length) := fun {b} hb => by simp [Ren.back, idxN, hb]
  have mlo : ∀ {b : Nat}, b < m.length → (m ++ mapB (unrB [] m.length) mn)[b]? = m[b]? := fun {b} hb => List.getElem?_append_left hb
  have mhi : ∀ {b : Nat}, ¬ b < m.length → (m ++ mapB (unrB [] m.length) mn)[b]? = (mn[b - m.length]?).map (unrB [] m.length) := fun {b} hb => by
    rw [List.getElem?_append_right (by omega), mapB_get]
  have newO : ∀ {b : Nat} {p : Place}, rn b = some (some p) → p.own = true := fun {b p} hb => by
    obtain ⟨k, h1, h2⟩ := g.blk b p hb
    exact ownB_own h2 (allB_iff.1 hown k (List.mem_of_getElem? h1))
  have hext : Ext r (r.back rn [] m.length) := fun b => by
    by_cases hb : b < m.length
    · exact Or.inr (Or.inl (hlo hb))
    · exact Or.inl (hm.none b (Or.inl (List.getElem?_eq_none (by omega))))
  refine ⟨⟨g.os.trans hm.os, g.tape.trans hm.tape, g.output.trans hm.output, Nat.le_trans hm.drawn g.drawn, Nat.le_trans hm.size g.size, hm.klt, fun j hj => (g.kept j (hk j hj)).trans (hm.kept j hj), fun b hb => ?_, fun b hb => ?_, fun b p hb => ?_, fun b p hb hp => ?_, fun b p hb hp hz => ?_, fun b p hb hp hz => ?_, fun b c p q hb hc hp hz => ?_, fun b c p q hb hc hp hq he => ?_⟩, hext⟩
  · by_cases hl : b < m.length
    · rw [hlo hl]; rw [mlo hl] at hb; exact hm.none b hb
    · rw [hhi hl]
      rw [mhi hl] at hb
      refine g.none _ ?_
      cases hx : mn[b - m.length]? with
      | none => exact Or.inl rfl
      | some k =>
        rw [hx] at hb
        simp only [Option.map_some, Option.some.injEq, reduceCtorEq, false_or] at hb
        exact Or.inr (by rw [unrB_no.1 hb])
  · by_cases hl : b < m.length
    · rw [hlo hl] at hb; rw [mlo hl]; exact hm.dead b hb
    · rw [hhi hl] at hb
      rw [mhi hl, g.dead _ hb]
      rfl
  · by_cases hl : b < m.length
    · rw [hlo hl] at hb
      rw [mlo hl]
      obtain ⟨k, h1, h2⟩ := hm.blk b p hb
      exact ⟨k, h1, h2.mono (g.kept _ (ho b p hb)) hext⟩
    · rw [hhi hl] at hb
      rw [mhi hl]
      obtain ⟨k, h1, h2⟩ := g.blk _ p hb
      exact ⟨_, by rw [h1]; rfl, BlkRel_back (r := r) (ks := []) rfl rfl h2⟩
  · by_cases hl : b < m.length
    · rw [hlo hl] at hb; exact hm.own b p hb hp
    · rw [hhi hl] at hb; exact fun hk2 => g.own _ p hb hp (hk _ hk2)
  · by_cases hl : b < m.length
    · rw [hlo hl] at hb; exact hm.read b p hb hp hz
    · rw [hhi hl] at hb; rw [newO hb] at hp; cases hp
  · by_cases hl : b < m.length
    · rw [hlo hl] at hb; exact hm.vw b p hb hp hz
    · rw [hhi hl] at hb; rw [newO hb] at hp; cases hp
  · intro hq he
    by_cases hl : b < m.length
    · rw [hlo hl] at hb
      by_cases hl2 : c < m.length
      · rw [hlo hl2] at hc; rw [mlo hl2]; exact hm.sep b c p q hb hc hp hz hq he
      · rw [hhi hl2] at hc
        exact absurd (he ▸ ho b p hb) (g.own _ q hc hq)
    · rw [hhi hl] at hb; rw [newO hb] at hp; cases hp
  · by_cases hl : b < m.length
    · rw [hlo hl] at hb
      by_cases hl2 : c < m.length
      · rw [hlo hl2] at hc; exact hm.inj b c p q hb hc hp hq he
      · rw [hhi hl2] at hc
        exact absurd (he ▸ ho b p hb) (g.own _ q hc hq)
    · rw [hhi hl] at hb
      by_cases hl2 : c < m.length
      · rw [hlo hl2] at hc
        exact absurd (he ▸ ho c q hc) (g.own _ p hb hp)
      · rw [hhi hl2] at hc
        have := g.inj _ _ p q hb hc hp hq he
        omega

def fromN (k : Nat) : Nat → List Nat
  | 0 => []
  | n + 1 => k :: fromN (k + 1) n
def lendG (S : List Value → Mem → Option (Ans (Value × Mem))) (args : List Value) (m : Mem) : Option (Ans (Value × Mem)) := match lendA m args 0 with
  | some (ags, ms, c) => forceL ags fun ags => forceM ms fun ms => match S ags ms with
    | some ans => some (.br c (ans.bind fun vm => forceN (fromN ms.length (vm.2.length - ms.length)) fun ks => match noDup ks && allB noViewB m with
      | true => forceM (renM ks vm.2 ks) fun mn => match allB ownB mn with
        | true => .out (unrV [] m.length (renV ks vm.1), m ++ mapB (unrB [] m.length) mn)
        | false => .fail
      | false => .fail) .fail)
    | none => none
  | none => none
/-- A call that is lent what it reads: what was there is as it was. -/
theorem lend_call {P : Program} {f : FuncId} {args ags : List Value} {m ms mu : Mem} {c : Bool} {u : Value} (hA : lendA m args 0 = some (ags, ms, c)) (hc : c = true) (hS : MemSem P f ags ms u mu) {w0 : World} {keep : Keep} {r : Ren} {args' : List Value} {w : World} (hargs : RL (R r) args args') (hm : MemRel w0 keep r m w) {Q : Ending → World → Prop}
    (hQ : ∀ v' rs w' (kp : Keep), R rs u v' → MemRel w kp rs mu w' → (∀ j, keep j → kp j) → (∀ b p, r b = some (some p) → kp p.blk) → Q (.returned v') w') : Calls P f args'.toArray w Q := by
  obtain ⟨ps, hl, hR, hB⟩ := lend_ok hm args 0 hA hc hargs
  let rl : Ren := fun i => (ps[i]?).map some
  let K : Nat → Prop := fun j => keep j ∨ ∃ b p, r b = some (some p) ∧ p.blk = j
  let kp : Keep := ⟨K, K, fun _ h => h⟩
  have hrl : ∀ {i : Nat} {p : Place}, rl i = some (some p) → ps[i]? = some p := fun {i p} hi => by
    simp only [rl] at hi
    cases hx : ps[i]? with
    | none => rw [hx] at hi; cases hi
    | some q => rw [hx] at hi; simpa using hi
  have hsm : MemRel w kp rl ms w := by
    refine ⟨rfl, rfl, rfl, Nat.le_refl _, Nat.le_refl _, fun j hj => ?_, fun _ _ => rfl, fun b hb => ?_, fun b hb => ?_, fun b p hb => ?_, fun b p hb hp => ?_, fun b p hb hp hz => ?_, fun b p hb hp hz => ?_, fun b c p q hb hc hp hz => ?_, fun b c p q hb hc hp hq he => ?_⟩
    · rcases hj with hj | ⟨b, p, hb, rfl⟩
      · have := hm.klt j hj; have := hm.size; omega
      · obtain ⟨k, _, hk⟩ := hm.blk b p hb
        exact hk.lt
    · simp only [rl]
      cases hx : ps[b]? with
      | none => rfl
      | some p =>
        obtain ⟨_, _, _, kk, h5, h6⟩ := hB b p hx
        rw [h5] at hb
        rcases hb with hb | hb
        · cases hb
        · simp only [Option.some.injEq] at hb
          subst hb
          exact ((h6 rl) : False).elim
    · simp only [rl] at hb
      cases hx : ps[b]? with
      | none => rw [hx] at hb; cases hb
      | some p => rw [hx] at hb; cases hb
    · obtain ⟨_, _, _, kk, h5, h6⟩ := hB b p (hrl hb)
      exact ⟨kk, h5, h6 rl⟩
    · rw [(hB b p (hrl hb)).1] at hp; cases hp
    · exact Or.inr (hB b p (hrl hb)).2.2.1
    · exact absurd (hB b p (hrl hb)).2.1 hz
    · exact absurd (hB b p (hrl hb)).2.1 hz
    · rw [(hB b p (hrl hb)).1] at hp; cases hp
  refine (hS.2 w kp rl args' w (hR rl fun i p hp => by simp only [Nat.zero_add, rl, hp]; rfl) hsm).mono ?_
  rintro e w' ⟨v', rs, rfl, g1, g2, g3⟩
  exact hQ v' rs w' kp g1 g2 (fun j hj => Or.inl hj) (fun b p hb => Or.inr ⟨b, p, hb, rfl⟩)
theorem lendG_ok {P : Program} {f : FuncId} {S : List Value → Mem → Option (Ans (Value × Mem))} (h : ∀ args m ans v m', S args m = some ans → ans.res = some (v, m') → MemSem P f args m v m') {args : List Value} {m m' : Mem} {ans : Ans (Value × Mem)} {v : Value}
    (ha : lendG S args m = some ans) (hr : ans.res = some (v, m')) : MemSem P f args m v m' := by
  unfold lendG at ha
  split at ha
  rotate_left
  · cases ha
  rename_i ags ms c hA
  rw [forceL_eq, forceM_eq] at ha
  split at ha
  rotate_left
  · cases ha
  rename_i ans0 hS
  simp only [Option.some.injEq] at ha
  subst ha
  rcases Ans.br_some hr with ⟨hc, hr⟩ | ⟨_, hr⟩
  rotate_left
  · simp [Ans.res] at hr
  obtain ⟨⟨u, mu⟩, h1, h2⟩ := Ans.bind_some hr
  simp only at h2
  rw [forceN_eq] at h2
  split at h2
  rotate_left
  · simp [Ans.res] at h2
  rename_i hb
  rw [Bool.and_eq_true] at hb
  rw [forceM_eq] at h2
  split at h2
  rotate_left
  · simp [Ans.res] at h2
  rename_i hown
  simp only [Ans.res, Option.some.injEq, Prod.mk.injEq] at h2
  obtain ⟨rfl, rfl⟩ := h2
  have hS := h _ _ _ _ _ hS h1
  refine ⟨hS.1, fun w0 keep r args' w hargs hm => lend_call hA hc hS hargs hm fun v' rs w' kp g1 g2 k1 k2 => ?_⟩
  obtain ⟨j1, j2⟩ := MemRel.join hm (MemRel_via g2 hb.1) k1 k2 hown
  exact ⟨v', _, rfl, R_back (r := r) (ks := []) rfl rfl (R_via (ks := fromN ms.length (mu.length - ms.length)) g1), j1, j2⟩
def lendF (S : List Value → Mem → Option (Ans (Value × Mem))) (args : List Value) (m : Mem) : Option (Ans (Value × Mem)) := forceM (thaw (killV m)) fun m => lendG S args m
theorem lendF_ok {P : Program} {f : FuncId} {S : List Value → Mem → Option (Ans (Value × Mem))} (h : ∀ args m ans v m', S args m = some ans → ans.res = some (v, m') → MemSem P f args m v m') {args : List Value} {m m' : Mem} {ans : Ans (Value × Mem)} {v : Value}
    (ha : lendF S args m = some ans) (hr : ans.res = some (v, m')) : MemSem P f args m v m' := by
  unfold lendF at ha
  rw [forceM_eq] at ha
  exact (lendG_ok h ha hr).fresh
/-- A function that reads what it is handed, and makes what it answers. -/
def Cx.addE (C : Cx) (f : FuncId) (S : List Value → Mem → Option (Ans (Value × Mem))) : Cx := C.addM f (lendF S)
theorem Cx.addE_ok {C : Cx} (hC : CxOk C) {f : FuncId} {S : List Value → Mem → Option (Ans (Value × Mem))} (h : ∀ args m ans v m', S args m = some ans → ans.res = some (v, m') → MemSem C.P f args m v m') : CxOk (C.addE f S) :=
  Cx.addM_ok hC fun _ _ _ _ _ ha hr => lendF_ok h ha hr
/-- What is told of a function, told where it is lent what it reads. -/
def Cx.lend (C : Cx) (f : FuncId) : Cx := C.addM f (lendF fun args m => C.tbm f args m)
theorem Cx.lend_ok {C : Cx} (hC : CxOk C) (f : FuncId) : CxOk (C.lend f) :=
  Cx.addM_ok hC fun _ _ _ _ _ ha hr => lendF_ok (fun args m ans v m' h hr => hC.tbm f args m ans v m' h hr) ha hr
/-- A call that makes nothing and changes nothing. -/
def lendP (S : List Value → Mem → Option (Ans (Value × Mem))) (args : List Value) (m : Mem) : Option (Ans (Value × Mem)) := match lendA m args 0 with
  | some (ags, ms, c) => forceL ags fun ags => forceM ms fun ms => match S ags ms with
    | some ans => some (.br c (ans.bind fun vm => match plain vm.1 with
      | true => .out (vm.1, m)
      | false => .fail) .fail)
    | none => none
  | none => none
theorem lendP_spec {S : List Value → Mem → Option (Ans (Value × Mem))} {args : List Value} {m m' : Mem} {ans : Ans (Value × Mem)} {v : Value} (ha : lendP S args m = some ans) (hr : ans.res = some (v, m')) :
    m' = m ∧ ∃ ags ms mu a0, lendA m args 0 = some (ags, ms, true) ∧ S ags ms = some a0 ∧ a0.res = some (v, mu) ∧ plain v = true := by
  unfold lendP at ha
  split at ha
  rotate_left
  · cases ha
  rename_i ags ms c hA
  rw [forceL_eq, forceM_eq] at ha
  split at ha
  rotate_left
  · cases ha
  rename_i ans0 hS
  simp only [Option.some.injEq] at ha
  subst ha
  rcases Ans.br_some hr with ⟨hc, hr⟩ | ⟨_, hr⟩
  rotate_left
  · simp [Ans.res] at hr
  obtain ⟨⟨u, mu⟩, h1, h2⟩ := Ans.bind_some hr
  simp only at h2
  split at h2
  · rename_i hp
    simp only [Ans.res, Option.some.injEq, Prod.mk.injEq] at h2
    obtain ⟨rfl, rfl⟩ := h2
    exact ⟨rfl, ags, ms, mu, ans0, by rw [hA, hc], hS, h1, hp⟩
  · simp [Ans.res] at h2
theorem lendP_ok {P : Program} {f : FuncId} {S : List Value → Mem → Option (Ans (Value × Mem))} (h : ∀ args m ans v m', S args m = some ans → ans.res = some (v, m') → MemSem P f args m v m') {args : List Value} {m m' : Mem} {ans : Ans (Value × Mem)} {v : Value}
    (ha : lendP S args m = some ans) (hr : ans.res = some (v, m')) : MemSem P f args m v m' := by
  obtain ⟨rfl, ags, ms, mu, a0, hA, hS, h1, hp⟩ := lendP_spec ha hr
  have hS := h _ _ _ _ _ hS h1
  refine ⟨hS.1, fun w0 keep r args' w hargs hm => lend_call hA rfl hS hargs hm fun v' rs w' kp g1 g2 k1 k2 => ?_⟩
  obtain ⟨j1, j2⟩ := MemRel.join hm (MemRel_via (ks := []) g2 rfl) k1 k2 rfl
  simp only [renM, mapB, List.append_nil] at j1
  exact ⟨v', _, rfl, (R_plain hp).2 ((R_plain hp).1 g1), j1, j2⟩
theorem lendA_set {m : Mem} {q : Nat} {k : Blk} (hq : m[q]? = some .no) : ∀ (args : List Value) (i : Nat) (x : List Value × Mem × Bool), lendA m args i = some x → lendA (m.set q k) args i = some x
  | [], _, _, h => h
  | v :: l, i, x, h => by
    simp only [lendA] at h ⊢
    split at h
    · rename_i b j n e hv
      split at h
      · rename_i e2 n2 row hrow
        have hne : q ≠ b := fun e => by subst e; rw [hq] at hrow; cases hrow
        rw [List.getElem?_set_ne hne, hrow]
        simp only
        split at h
        · rename_i he
          try simp only [he]
          split at h
          · rename_i a1 m1 c1 hl
            rw [lendA_set hq l (i + 1) _ hl]
            exact h
          · cases h
        · cases h
      · cases h
    · split at h
      · rename_i hp
        try simp only [hp]
        split at h
        · rename_i a1 m1 c1 hl
          rw [lendA_set hq l i _ hl]
          exact h
        · cases h
      · cases h
theorem allB_set {p : Blk → Bool} {m : Mem} {q : Nat} {k : Blk} (h : allB p m = true) (hk : p k = true) : allB p (m.set q k) = true := allB_iff.2 fun x hx => by
  rcases List.mem_or_eq_of_mem_set hx with h1 | h1
  · exact allB_iff.1 h x h1
  · rw [h1]; exact hk
theorem lendG_new {S : List Value → Mem → Option (Ans (Value × Mem))} {args : List Value} {m m' : Mem} {ans : Ans (Value × Mem)} {v : Value} (ha : lendG S args m = some ans) (hr : ans.res = some (v, m')) : ∃ new, m' = m ++ new ∧ ∀ (q : Nat) k, noViewB k = true → m[q]? = some .no → ∃ ans', lendG S args (m.set q k) = some ans' ∧ ans'.res = some (v, m.set q k ++ new) := by
  unfold lendG at ha
  split at ha
  rotate_left
  · cases ha
  rename_i ags ms c hA
  rw [forceL_eq, forceM_eq] at ha
  split at ha
  rotate_left
  · cases ha
  rename_i a0 hS
  simp only [Option.some.injEq] at ha
  subst ha
  rcases Ans.br_some hr with ⟨hc, hr⟩ | ⟨_, hr⟩
  rotate_left
  · simp [Ans.res] at hr
  obtain ⟨⟨u, mu⟩, h1, h2⟩ := Ans.bind_some hr
  simp only at h2
  rw [forceN_eq] at h2
  split at h2
  rotate_left
  · simp [Ans.res] at h2
  rename_i hb
  rw [forceM_eq] at h2
  split at h2
  rotate_left
  · simp [Ans.res] at h2
  rename_i hown
  simp only [Ans.res, Option.some.injEq, Prod.mk.injEq] at h2
  obtain ⟨rfl, rfl⟩ := h2
  refine ⟨_, rfl, fun q k hk hq => ?_⟩
  unfold lendG
  rw [lendA_set hq args 0 _ hA]
  simp only [forceL_eq, forceM_eq, forceN_eq, hS]
  refine ⟨_, rfl, ?_⟩
  rw [Bool.and_eq_true] at hb
  subst hc
  simp only [Ans.res]
  rw [Ans.res_bind, h1]
  simp only [Option.bind_some, hb.1, allB_set hb.2 hk, Bool.and_self, hown, List.length_set]
  rfl
theorem lendP_rd {S : List Value → Mem → Option (Ans (Value × Mem))} {args : List Value} {m m' : Mem} {ans : Ans (Value × Mem)} {v : Value} (ha : lendP S args m = some ans) (hr : ans.res = some (v, m')) :
    m' = m ∧ ∀ (q : Nat) k, m[q]? = some .no → ∃ ans', lendP S args (m.set q k) = some ans' ∧ ans'.res = some (v, m.set q k) := by
  obtain ⟨e, ags, ms, mu, a0, hA, hS, h1, hp⟩ := lendP_spec ha hr
  refine ⟨e, fun q k hq => ?_⟩
  unfold lendP
  rw [lendA_set hq args 0 _ hA]
  simp only [forceL_eq, forceM_eq, hS]
  refine ⟨_, rfl, ?_⟩
  simp only [Ans.res]
  rw [Ans.res_bind, h1]
  simp only [Option.bind_some, hp]
  rfl
end Go.Proofs.Ytjpfnfckpgilgaa.Vx


namespace Go.Proofs.Ytjpfnfckpgilgaa.Vx
open Go Go.RowKit
/-- One road of a tree; on the others nothing is told. -/
def pickA {α : Type} : List Bool → Ans α → Ans α
  | true :: p, .br b t _ => .br b (pickA p t) .fail
  | false :: p, .br b _ f => .br b .fail (pickA p f)
  | _, x => x
theorem pickA_ok {α : Type} {a : α} : ∀ (p : List Bool) (x : Ans α), (pickA p x).res = some a → x.res = some a
  | [], x, h => by cases x <;> exact h
  | true :: p, .br b t f, h => by
    rcases Ans.br_some h with ⟨hb, h1⟩ | ⟨hb, h1⟩
    · subst hb; exact pickA_ok p t h1
    · simp [Ans.res] at h1
  | false :: p, .br b t f, h => by
    rcases Ans.br_some h with ⟨hb, h1⟩ | ⟨hb, h1⟩
    · simp [Ans.res] at h1
    · subst hb; exact pickA_ok p f h1
  | true :: p, .out a, h => h
  | false :: p, .out a, h => h
  | true :: p, .fail, h => h
  | false :: p, .fail, h => h
/-- No error; yes. -/
def asm1 : Value → Bool × Value
  | .int k e => (e == 0, .int k 0)
  | .bool b => (b, .bool true)
  | v => (true, v)
def asmV : Value → Bool × Value
  | .tuple vs => match vs.toList with
    | [a, b] => ((asm1 b).1, .tuple #[a, (asm1 b).2])
    | [a, b, c] => ((asm1 c).1, .tuple #[a, b, (asm1 c).2])
    | _ => (true, .tuple vs)
  | v => asm1 v
theorem asm1_ok {v : Value} (h : (asm1 v).1 = true) : (asm1 v).2 = v := by
  cases v with
  | int k e => simp only [asm1] at h ⊢; rw [(beq_iff_eq.1 h)]
  | bool b => simp only [asm1] at h ⊢; rw [h]
  | _ => rfl
theorem asmV_ok {v : Value} (h : (asmV v).1 = true) : (asmV v).2 = v := by
  cases v with
  | tuple vs =>
    unfold asmV at h ⊢
    simp only at h ⊢
    split at h
    · rename_i a b he
      rw [asm1_ok h]
      congr 1
      rw [← he]
    · rename_i a b c he
      rw [asm1_ok h]
      congr 1
      rw [← he]
    · rfl
  | int k e => exact asm1_ok (v := .int k e) h
  | bool b => exact asm1_ok (v := .bool b) h
  | _ => rfl
def asmA (x : Ans (Value × Mem)) : Ans (Value × Mem) := x.bind fun vm => .br (asmV vm.1).1 (.out ((asmV vm.1).2, vm.2)) .fail
theorem asmA_ok {x : Ans (Value × Mem)} {v : Value} {m : Mem} (h : (asmA x).res = some (v, m)) : x.res = some (v, m) := by
  obtain ⟨⟨u, mu⟩, h1, h2⟩ := Ans.bind_some h
  rcases Ans.br_some h2 with ⟨hb, h3⟩ | ⟨_, h3⟩
  · simp only [Ans.res, Option.some.injEq, Prod.mk.injEq] at h3
    obtain ⟨rfl, rfl⟩ := h3
    rw [h1, asmV_ok hb]
  · simp [Ans.res] at h3
/-- A function of which one road is wanted, with no error; it is lent what it reads. -/
def Cx.good (C : Cx) (f : FuncId) (p : List Bool) : Cx := C.addM f (lendF fun args m => match C.tbm f args m with
  | some ans => some (asmA (pickA p ans))
  | none => none)
theorem Cx.good_ok {C : Cx} (hC : CxOk C) (f : FuncId) (p : List Bool) : CxOk (C.good f p) :=
  Cx.addM_ok hC fun _ _ _ _ _ ha hr => lendF_ok (fun args m ans v m' h hr => by
    split at h
    · rename_i a0 h0
      simp only [Option.some.injEq] at h
      subst h
      exact hC.tbm f args m a0 v m' h0 (pickA_ok p a0 (asmA_ok hr))
    · cases h) ha hr
/-- The same, with what it answers as it is. -/
def Cx.road (C : Cx) (f : FuncId) (p : List Bool) : Cx := C.addM f (lendF fun args m => match C.tbm f args m with
  | some ans => some (pickA p ans)
  | none => none)
theorem Cx.road_ok {C : Cx} (hC : CxOk C) (f : FuncId) (p : List Bool) : CxOk (C.road f p) :=
  Cx.addM_ok hC fun _ _ _ _ _ ha hr => lendF_ok (fun args m ans v m' h hr => by
    split at h
    · rename_i a0 h0
      simp only [Option.some.injEq] at h
      subst h
      exact hC.tbm f args m a0 v m' h0 (pickA_ok p a0 hr)
    · cases h) ha hr
/-- A function that only looks (1), or that makes something beside what is there (2). -/
def Cx.roadS (C : Cx) (f : FuncId) (p : List Bool) (args : List Value) (m : Mem) : Option (Ans (Value × Mem)) := match C.tbm f args m with
  | some ans => some (pickA p ans)
  | none => none
theorem Cx.roadS_ok {C : Cx} (hC : CxOk C) {f : FuncId} {p : List Bool} (args : List Value) (m : Mem) (ans : Ans (Value × Mem)) (v : Value) (m' : Mem) (h : C.roadS f p args m = some ans) (hr : ans.res = some (v, m')) : MemSem C.P f args m v m' := by
  unfold Cx.roadS at h
  split at h
  · rename_i a0 h0
    simp only [Option.some.injEq] at h
    subst h
    exact hC.tbm f args m a0 v m' h0 (pickA_ok p a0 hr)
  · cases h
def Cx.putRd (C : Cx) (f : FuncId) (z : Nat) (F : List Value → Mem → Option (Ans (Value × Mem))) : Cx := { C with
  tbm := fun g args m => match Nat.beq g f with
    | true => F args m
    | false => C.tbm g args m
  rd := fun g => match Nat.beq g f with
    | true => z
    | false => C.rd g
  inl := fun g => match Nat.beq g f with
    | true => none
    | false => C.inl g }
theorem Cx.putRd_ok {C : Cx} (hC : CxOk C) {f : FuncId} {z : Nat} {F : List Value → Mem → Option (Ans (Value × Mem))} (h0 : ∀ args m ans v m', F args m = some ans → ans.res = some (v, m') → MemSem C.P f args m v m')
    (h1 : z = 1 → ∀ args m ans v m', F args m = some ans → ans.res = some (v, m') → m' = m ∧ ∀ (q : Nat) k, m[q]? = some .no → ∃ ans', F args (m.set q k) = some ans' ∧ ans'.res = some (v, m.set q k))
    (h2 : z = 2 → ∀ args m ans v m', F args m = some ans → ans.res = some (v, m') → ∃ new, m' = m ++ new ∧ ∀ (q : Nat) k, noViewB k = true → m[q]? = some .no → ∃ ans', F args (m.set q k) = some ans' ∧ ans'.res = some (v, m.set q k ++ new)) : CxOk (C.putRd f z F) := by
  refine ⟨hC.mixed, hC.tbl, ?_, hC.keys, fun g fn hg => ?_, hC.lp, ?_, ?_⟩
  rotate_left
  · simp only [Cx.putRd] at hg
    cases hb : Nat.beq g f with
    | true => simp only [hb] at hg; cases hg
    | false => simp only [hb] at hg; exact hC.inl g fn hg
  rotate_right
  · intro g args m ans v m' ha hr
    simp only [Cx.putRd] at ha
    cases hg : Nat.beq g f with
    | false => simp only [hg] at ha; exact hC.tbm g args m ans v m' ha hr
    | true =>
      have hgf := Nat.eq_of_beq_eq_true hg
      subst hgf
      simp only [hg] at ha
      exact h0 args m ans v m' ha hr
  · intro g hg args m ans v m' ha hr
    simp only [Cx.putRd] at hg ha ⊢
    cases hb : Nat.beq g f with
    | false => simp only [hb] at hg ha ⊢; exact hC.rd g hg args m ans v m' ha hr
    | true => simp only [hb] at hg ha ⊢; exact h1 hg args m ans v m' ha hr
  · intro g hg args m ans v m' ha hr
    simp only [Cx.putRd] at hg ha ⊢
    cases hb : Nat.beq g f with
    | false => simp only [hb] at hg ha ⊢; exact hC.rd2 g hg args m ans v m' ha hr
    | true => simp only [hb] at hg ha ⊢; exact h2 hg args m ans v m' ha hr
def Cx.looks (C : Cx) (f : FuncId) (p : List Bool) : Cx := C.putRd f 1 (lendP (C.roadS f p))
theorem Cx.looks_ok {C : Cx} (hC : CxOk C) (f : FuncId) (p : List Bool) : CxOk (C.looks f p) :=
  Cx.putRd_ok hC (fun _ _ _ _ _ ha hr => lendP_ok (Cx.roadS_ok hC) ha hr) (fun _ _ _ _ _ _ ha hr => lendP_rd ha hr) (fun h => by cases h)
def Cx.makes (C : Cx) (f : FuncId) (p : List Bool) : Cx := C.putRd f 2 (lendG (C.roadS f p))
theorem Cx.makes_ok {C : Cx} (hC : CxOk C) (f : FuncId) (p : List Bool) : CxOk (C.makes f p) :=
  Cx.putRd_ok hC (fun _ _ _ _ _ ha hr => lendG_ok (Cx.roadS_ok hC) ha hr) (fun h => by cases h) (fun _ _ _ _ _ _ ha hr => lendG_new ha hr)
end Go.Proofs.Ytjpfnfckpgilgaa.Vx


namespace Go.Proofs.Ytjpfnfckpgilgaa.Vx
open Go Go.RowKit
theorem CodeSem.seq {P : Program} {B : Nat} {x y : Code} {st s s' : St} {e : Exit} (h1 : CodeSem P B x st .normal s) (h2 : CodeSem P B y s e s') : CodeSem P B (.seq x y) st e s' := fun Q w0 keep r0 a w hB hQ hr =>
  wp_seq (h1 _ w0 keep r0 a w hB (fun a' w' hr' => h2 Q w0 keep r0 a' w' hB hQ hr') hr)
theorem CodeSem.like {P : Program} {B : Nat} {x : Code} {st st2 s : St} {e : Exit} (h : CodeSem P B x st2 e s) (hl : StLike st st2) : CodeSem P B x st e s := fun Q w0 keep r0 a w hB hQ hr =>
  h Q w0 keep r0 a w hB hQ (hr.like hl)
def seqDrop : Nat → Code → Code
  | 0, c => c
  | k + 1, .seq _ y => seqDrop k y
  | _ + 1, _ => .skip
theorem seqDrop_loops : ∀ (k : Nat) (c : Code), ∀ x ∈ loopsIn (seqDrop k c), x ∈ loopsIn c
  | 0, c, x, h => h
  | k + 1, c, x, h => by
    cases c with
    | seq p q => simp only [seqDrop] at h; simp only [loopsIn, List.mem_append]; exact Or.inr (seqDrop_loops k q x h)
    | _ => simp [seqDrop, loopsIn] at h
/-- So many statements, one behind the other. -/
def exSeq (n : Nat) (C : Cx) : Nat → Code → St → Ans St
  | 0, _, st => .out st
  | k + 1, c, st => match c with
    | .seq x y => (exCode n C x st).bind fun es => match es.1 with
      | .normal => exSeq n C k y es.2
      | _ => .fail
    | _ => .fail
theorem exSeq_sound {C : Cx} (hC : CxOk C) {n f B : Nat} {e : Exit} {s' : St} : ∀ (k : Nat) (c : Code) (st s : St), InBody (C.into f B) c → (exSeq n (C.into f B) k c st).res = some s → CodeSem C.P B (seqDrop k c) s e s' → CodeSem C.P B c st e s'
  | 0, c, st, s, _, h, h2 => by
    simp only [exSeq, Ans.res, Option.some.injEq] at h
    subst h
    exact h2
  | k + 1, c, st, s, hin, h, h2 => by
    cases c with
    | seq x y =>
      simp only [exSeq] at h
      obtain ⟨⟨e1, s1⟩, h1, h3⟩ := Ans.bind_some h
      have hx := (exCode_sound hC n).1 f B x (hin.sub fun z hz => by simp [loopsIn, hz]) st e1 s1 h1
      simp only at h3
      cases e1 with
      | normal => exact hx.seq (exSeq_sound hC k y s1 s (hin.sub fun z hz => by simp [loopsIn, hz]) h3 h2)
      | _ => simp [Ans.res] at h3
    | _ => simp [exSeq, Ans.res] at h
/-- A piece: so many statements, and what is told on behind them (slots, blocks). -/
def segR (C : Cx) (n k : Nat) (c : Code) (mask : List Nat) (sp : List From) (st : St) : Option St := ((exSeq n C k c st).bind fun s => (cleanA mask mask sp sp C.fb (.ret, s)).bind fun es => .out es.2).res
theorem seg_rule {C : Cx} (hC : CxOk C) {f B n k : Nat} {c : Code} {mask : List Nat} {sp : List From} {st s s' : St} {e : Exit} (hin : InBody (C.into f B) c) (h : segR (C.into f B) n k c mask sp st = some s) (h2 : CodeSem C.P B (seqDrop k c) s e s') : CodeSem C.P B c st e s' := by
  unfold segR at h
  obtain ⟨s1, h3, h4⟩ := Ans.bind_some h
  obtain ⟨⟨e2, s2⟩, h5, h6⟩ := Ans.bind_some h4
  simp only [Ans.res, Option.some.injEq] at h6
  subst h6
  exact exSeq_sound hC k c st s1 hin h3 fun Q w0 keep r0 a w hB hQ hr => h2 Q w0 keep r0 a w hB hQ (clean_rel h5 hB hr).2
/-- The last piece. -/
theorem end_rule {C : Cx} (hC : CxOk C) {f B n : Nat} {c : Code} {mask : List Nat} {sp : List From} {st s : St} {e : Exit} (hin : InBody (C.into f B) c) (h : roundR (C.into f B) n c mask mask sp sp st = some (e, s)) : CodeSem C.P B c st e s := by
  obtain ⟨⟨e1, s1⟩, h3, h4⟩ := Ans.bind_some h
  intro Q w0 keep r0 a w hB hQ hr
  refine (exCode_sound hC n).1 f B c hin _ _ _ h3 _ w0 keep r0 a w hB ?_ hr
  intro a' w' hr'
  obtain ⟨he, hs⟩ := clean_rel h4 hB hr'
  subst he
  exact hQ a' w' hs
def bodyOf (P : Program) (f : Nat) : Code := match P.funcs[f]? with
  | some fn => match fn.body with
    | some b => b
    | none => .skip
  | none => .skip
theorem bodyOf_in {C : Cx} {f B k : Nat} {fn : Func} {b : Code} (hf : C.P.funcs[f]? = some fn) (hb : fn.body = some b) : InBody (C.into f B) (seqDrop k b) :=
  Or.inl ⟨fn, b, hf, hb, seqDrop_loops k b⟩
theorem seqDrop_drop (k l : Nat) : ∀ (c : Code), seqDrop l (seqDrop k c) = seqDrop (k + l) c := by
  induction k with
  | zero => intro c; rw [Nat.zero_add]; rfl
  | succ k ih =>
    intro c
    rw [Nat.succ_add]
    cases c with
    | seq p q => simp only [seqDrop]; exact ih q
    | _ => simp only [seqDrop]; cases l <;> rfl
/-- No error but this one. -/
def wantV (z : Int) : Value → Bool × Value
  | .int k e => (e == z, .int k z)
  | v => (true, v)
theorem wantV_ok {z : Int} {v : Value} (h : (wantV z v).1 = true) : (wantV z v).2 = v := by
  cases v with
  | int k e => simp only [wantV] at h ⊢; rw [(beq_iff_eq.1 h)]
  | _ => rfl
def wantA (z : Int) (x : Ans (Value × Mem)) : Ans (Value × Mem) := x.bind fun vm => .br (wantV z vm.1).1 (.out ((wantV z vm.1).2, vm.2)) .fail
theorem wantA_ok {z : Int} {x : Ans (Value × Mem)} {v : Value} {m : Mem} (h : (wantA z x).res = some (v, m)) : x.res = some (v, m) := by
  obtain ⟨⟨u, mu⟩, h1, h2⟩ := Ans.bind_some h
  rcases Ans.br_some h2 with ⟨hb, h3⟩ | ⟨_, h3⟩
  · simp only [Ans.res, Option.some.injEq, Prod.mk.injEq] at h3
    obtain ⟨rfl, rfl⟩ := h3
    rw [h1, wantV_ok hb]
  · simp [Ans.res] at h3
/-- A function of which one road is wanted, with this answer. -/
def Cx.want (C : Cx) (f : FuncId) (p : List Bool) (z : Int) : Cx := C.addM f (lendF fun args m => match C.tbm f args m with
  | some ans => some (wantA z (pickA p ans))
  | none => none)
theorem Cx.want_ok {C : Cx} (hC : CxOk C) (f : FuncId) (p : List Bool) (z : Int) : CxOk (C.want f p z) :=
  Cx.addM_ok hC fun _ _ _ _ _ ha hr => lendF_ok (fun args m ans v m' h hr => by
    split at h
    · rename_i a0 h0
      simp only [Option.some.injEq] at h
      subst h
      exact hC.tbm f args m a0 v m' h0 (pickA_ok p a0 (wantA_ok hr))
    · cases h) ha hr
end Go.Proofs.Ytjpfnfckpgilgaa.Vx


namespace Go.Proofs.Ytjpfnfckpgilgaa.Vx
open Go Go.RowKit
theorem CodeSem.loop {P : Program} {B : Nat} {x : Code} {st s : St} {e : Exit} (h : LoopSem P B x st e s) : CodeSem P B (.loop x) st e s := fun Q w0 keep r0 a w hB hQ hr => (h Q w0 keep r0 a w hB hQ hr).wp
theorem CodeSem.block {P : Program} {B id : Nat} {x : Code} {st s : St} (h : CodeSem P B x st (.exit id) s) : CodeSem P B (.block id x) st .normal s := fun Q w0 keep r0 a w hB hQ hr =>
  wp_block (h _ w0 keep r0 a w hB (fun a' w' hr' => by
    simp only [Exit.inBlock]
    rw [if_pos trivial]
    exact hQ a' w' hr') hr)
/-- The k-th statement. -/
def stmt (k : Nat) (c : Code) : Code := match seqDrop k c with
  | .seq x _ => x
  | _ => .skip
def hasStmt (k : Nat) (c : Code) : Bool := match seqDrop k c with
  | .seq _ _ => true
  | _ => false
theorem stmt_rule {P : Program} {B k : Nat} {c : Code} {st s s' : St} {e : Exit} (hk : hasStmt k c = true) (h1 : CodeSem P B (stmt k c) st .normal s) (h2 : CodeSem P B (seqDrop (k + 1) c) s e s') : CodeSem P B (seqDrop k c) st e s' := by
  unfold hasStmt at hk
  unfold stmt at h1
  have e2 := seqDrop_drop k 1 c
  cases hc : seqDrop k c with
  | seq x y =>
    rw [hc] at h1 e2
    simp only [seqDrop] at e2
    rw [← e2] at h2
    exact h1.seq h2
  | _ => rw [hc] at hk; cases hk
/-- A 'for': what is ahead of it, then the loop. -/
def forHead : Code → Code
  | .seq x _ => x
  | _ => .skip
def forBody : Code → Code
  | .seq _ (.block _ (.loop x)) => x
  | _ => .skip
def isFor (id : Nat) : Code → Bool
  | .seq _ (.block i (.loop _)) => Nat.beq i id
  | _ => false
theorem for_rule {P : Program} {B id : Nat} {c : Code} {st s s' : St} (hf : isFor id c = true) (h1 : CodeSem P B (forHead c) st .normal s) (h2 : LoopSem P B (forBody c) s (.exit id) s') : CodeSem P B c st .normal s' := by
  unfold isFor at hf
  split at hf
  · rename_i x i y
    have := Nat.eq_of_beq_eq_true hf
    subst this
    exact h1.seq (CodeSem.block (CodeSem.loop h2))
  · cases hf
theorem for_in {C : Cx} {f B id k : Nat} {fn : Func} {b : Code} (hf : C.P.funcs[f]? = some fn) (hb : fn.body = some b) (hs : isFor id (stmt k b) = true) : InBody (C.into f B) (forHead (stmt k b)) ∧ InBody (C.into f B) (forBody (stmt k b)) := by
  have h0 : ∀ x ∈ loopsIn (stmt k b), x ∈ loopsIn b := fun x hx => by
    refine seqDrop_loops k b x ?_
    unfold stmt at hx
    cases hc : seqDrop k b with
    | seq p q => rw [hc] at hx; simp only at hx; simp [loopsIn, hx]
    | _ => rw [hc] at hx; simp [loopsIn] at hx
  unfold isFor at hs
  split at hs
  · rename_i x i y hst
    rw [hst] at h0 ⊢
    refine ⟨Or.inl ⟨fn, b, hf, hb, fun z hz => h0 z (by simp only [forHead] at hz; simp [loopsIn, hz])⟩, Or.inl ⟨fn, b, hf, hb, fun z hz => h0 z (by simp only [forBody] at hz; simp [loopsIn, hz])⟩⟩
  · cases hs
/-- A function that only looks, with no error, or yes. -/
def Cx.looksG (C : Cx) (f : FuncId) (p : List Bool) : Cx := C.putRd f 1 (lendP fun args m => match C.tbm f args m with
  | some ans => some (asmA (pickA p ans))
  | none => none)
theorem Cx.looksG_ok {C : Cx} (hC : CxOk C) (f : FuncId) (p : List Bool) : CxOk (C.looksG f p) :=
  Cx.putRd_ok hC (fun _ _ _ _ _ ha hr => lendP_ok (fun args m ans v m' h hr => by
    split at h
    · rename_i a0 h0
      simp only [Option.some.injEq] at h
      subst h
      exact hC.tbm f args m a0 v m' h0 (pickA_ok p a0 (asmA_ok hr))
    · cases h) ha hr) (fun _ _ _ _ _ _ ha hr => lendP_rd ha hr) (fun h => by cases h)
end Go.Proofs.Ytjpfnfckpgilgaa.Vx


namespace Go.Proofs.Ytjpfnfckpgilgaa.Vx
open Go Go.RowKit
theorem CodeSem.out {P : Program} {B : Nat} {x y : Code} {st s : St} {e : Exit} (h : CodeSem P B x st e s) (he : e ≠ .normal) : CodeSem P B (.seq x y) st e s := fun Q w0 keep r0 a w hB hQ hr =>
  wp_seq (h _ w0 keep r0 a w hB (fun a' w' hr' => by cases e <;> first | exact absurd rfl he | exact hQ a' w' hr') hr)
theorem CodeSem.condT {P : Program} {B : Nat} {t : Tmp} {x y : Code} {st s : St} {e : Exit} (ht : st.tmps[t]? = some (.bool true)) (h : CodeSem P B x st e s) : CodeSem P B (.cond (.tmp t) x y) st e s := fun Q w0 keep r0 a w hB hQ hr => by
  obtain ⟨r, hx, hr'⟩ := hr
  have he : a.eval (.tmp t) = .bool true := by
    have := eval_R hr' (.tmp t)
    simp only [ev, ht, Option.getD_some] at this
    exact R_bool this
  exact wp_cond_true he (h Q w0 keep r0 a w hB hQ ⟨r, hx, hr'⟩)
theorem CodeSem.condF {P : Program} {B : Nat} {t : Tmp} {x y : Code} {st s : St} {e : Exit} (ht : st.tmps[t]? = some (.bool false)) (h : CodeSem P B y st e s) : CodeSem P B (.cond (.tmp t) x y) st e s := fun Q w0 keep r0 a w hB hQ hr => by
  obtain ⟨r, hx, hr'⟩ := hr
  have he : a.eval (.tmp t) = .bool false := by
    have := eval_R hr' (.tmp t)
    simp only [ev, ht, Option.getD_some] at this
    exact R_bool this
  exact wp_cond_false he (h Q w0 keep r0 a w hB hQ ⟨r, hx, hr'⟩)
theorem CodeSem.blockN {P : Program} {B id : Nat} {x : Code} {st s : St} (h : CodeSem P B x st .normal s) : CodeSem P B (.block id x) st .normal s := fun _ w0 keep r0 a w hB hQ hr =>
  wp_block (h _ w0 keep r0 a w hB (fun a' w' hr' => hQ a' w' hr') hr)
theorem CodeSem.blockR {P : Program} {B id : Nat} {x : Code} {st s : St} (h : CodeSem P B x st .ret s) : CodeSem P B (.block id x) st .ret s := fun _ w0 keep r0 a w hB hQ hr =>
  wp_block (h _ w0 keep r0 a w hB (fun a' w' hr' => hQ a' w' hr') hr)
/-- A loop is told by what its body comes to. -/
theorem loop_code {P : Program} {B : Nat} {x : Code} {σ : Type} (H : σ → St) (μ : σ → Nat) (Inv : σ → Prop) (out : σ → Exit × St)
    (hstep : ∀ g, Inv g → (∃ g', CodeSem P B x (H g) .normal (H g') ∧ Inv g' ∧ μ g' < μ g ∧ out g' = out g) ∨ (CodeSem P B x (H g) (out g).1 (out g).2 ∧ (out g).1 ≠ .normal)) :
    ∀ g, Inv g → LoopSem P B x (H g) (out g).1 (out g).2 := by
  have leave : ∀ g, CodeSem P B x (H g) (out g).1 (out g).2 → (out g).1 ≠ .normal → LoopSem P B x (H g) (out g).1 (out g).2 := by
    intro g h1 h2 Q w0 keep r0 a w hB hQ hr
    refine LoopsTo.round (h1 _ w0 keep r0 a w hB ?_ hr)
    intro a' w' hr'
    revert h2 hQ hr'
    cases (out g).1 <;> intro h2 hQ hr' <;> first | exact absurd rfl h2 | exact hQ a' w' hr'
  have key : ∀ k g, μ g ≤ k → Inv g → LoopSem P B x (H g) (out g).1 (out g).2 := by
    intro k
    induction k with
    | zero =>
      intro g hk hg
      rcases hstep g hg with ⟨g', _, _, hlt, _⟩ | ⟨h1, h2⟩
      · omega
      · exact leave g h1 h2
    | succ k ih =>
      intro g hk hg
      rcases hstep g hg with ⟨g', h1, hg', hlt, ho⟩ | ⟨h1, h2⟩
      · intro Q w0 keep r0 a w hB hQ hr
        refine LoopsTo.round (h1 _ w0 keep r0 a w hB ?_ hr)
        intro a' w' hr'
        refine ih g' (by omega) hg' Q w0 keep r0 a' w' hB ?_ hr'
        rw [ho]; exact hQ
      · exact leave g h1 h2
  exact fun g hg => key (μ g) g (Nat.le_refl _) hg
/-- States that tell the same, behind code. -/
theorem CodeSem.likes {P : Program} {B : Nat} {x : Code} {st s s2 : St} {e : Exit} (h : CodeSem P B x st e s) (hl : StLike s s2) : CodeSem P B x st e s2 := fun Q w0 keep r0 a w hB hQ hr =>
  h Q w0 keep r0 a w hB (fun a' w' hr' => hQ a' w' (hr'.like hl)) hr
/-- A piece of code that is run, cleaned: at its end or where it leaves. -/
theorem run_code {C : Cx} (hC : CxOk C) {f B n : Nat} {c : Code} {mask : List Nat} {sp : List From} {st s : St} {e : Exit} (hin : InBody (C.into f B) c) (h : roundR (C.into f B) n c mask mask sp sp st = some (e, s)) : CodeSem C.P B c st e s := end_rule hC hin h
/-- Parts of code. -/
def cL : Code → Code
  | .seq x _ => x
  | .block _ x => x
  | .loop x => x
  | .cond _ x _ => x
  | _ => .skip
def cR : Code → Code
  | .seq _ y => y
  | .cond _ _ y => y
  | _ => .skip
theorem cL_loops (c : Code) : ∀ x ∈ loopsIn (cL c), x ∈ loopsIn c := by
  cases c <;> simp [cL, loopsIn] <;> intro x h <;> simp [h]
theorem cR_loops (c : Code) : ∀ x ∈ loopsIn (cR c), x ∈ loopsIn c := by
  cases c <;> simp [cR, loopsIn] <;> intro x h <;> simp [h]
theorem InBody.left {C : Cx} {c : Code} (h : InBody C c) : InBody C (cL c) := h.sub (cL_loops c)
theorem InBody.right {C : Cx} {c : Code} (h : InBody C c) : InBody C (cR c) := h.sub (cR_loops c)
end Go.Proofs.Ytjpfnfckpgilgaa.Vx


namespace Go.Proofs.Ytjpfnfckpgilgaa.Vx
open Go Go.RowKit
theorem loop_leave {C : Cx} (hC : CxOk C) {f B n : Nat} {x : Code} {st s : St} {e : Exit} {mask mout : List Nat} {sp so : List From} (hin : InBody (C.into f B) x) (h : roundR (C.into f B) n x mask mout sp so st = some (e, s)) (he : e ≠ .normal) : LoopSem C.P B x st e s := by
  intro Q w0 keep r0 a w hB hQ hr
  obtain ⟨⟨e1, s1⟩, h3, h4⟩ := Ans.bind_some h
  refine LoopsTo.round ((exCode_sound hC n).1 f B x hin _ _ _ h3 _ w0 keep r0 a w hB ?_ hr)
  intro a' w' hr'
  obtain ⟨rfl, hs⟩ := clean_rel h4 hB hr'
  revert he hQ hs
  cases e <;> intro he hQ hs <;> first | exact absurd rfl he | exact hQ a' w' hs
theorem loop_next {C : Cx} (hC : CxOk C) {f B n : Nat} {x : Code} {st s s2 s3 : St} {e : Exit} {mask mout : List Nat} {sp so : List From} (hin : InBody (C.into f B) x) (h : roundR (C.into f B) n x mask mout sp so st = some (.normal, s)) (hl : StLike s s2) (hn : LoopSem C.P B x s2 e s3) : LoopSem C.P B x st e s3 := by
  intro Q w0 keep r0 a w hB hQ hr
  obtain ⟨⟨e1, s1⟩, h3, h4⟩ := Ans.bind_some h
  refine LoopsTo.round ((exCode_sound hC n).1 f B x hin _ _ _ h3 _ w0 keep r0 a w hB ?_ hr)
  intro a' w' hr'
  obtain ⟨he, hs⟩ := clean_rel h4 hB hr'
  subst he
  exact hn Q w0 keep r0 a' w' hB hQ (hs.like hl)
def blkBody : Code → Code
  | .block _ (.loop x) => x
  | _ => .skip
def isBlk (id : Nat) : Code → Bool
  | .block i (.loop _) => Nat.beq i id
  | _ => false
theorem blk_rule {P : Program} {B id : Nat} {c : Code} {st s' : St} (hf : isBlk id c = true) (h2 : LoopSem P B (blkBody c) st (.exit id) s') : CodeSem P B c st .normal s' := by
  unfold isBlk at hf
  split at hf
  · rename_i i y
    have := Nat.eq_of_beq_eq_true hf
    subst this
    exact CodeSem.block (CodeSem.loop h2)
  · cases hf
theorem blk_ret {P : Program} {B id : Nat} {c : Code} {st s' : St} (hf : isBlk id c = true) (h2 : LoopSem P B (blkBody c) st .ret s') : CodeSem P B c st .ret s' := by
  unfold isBlk at hf
  split at hf
  · exact CodeSem.blockR (CodeSem.loop h2)
  · cases hf
theorem blk_in {C : Cx} {f B id k : Nat} {fn : Func} {b : Code} (hf : C.P.funcs[f]? = some fn) (hb : fn.body = some b) (hs : isBlk id (stmt k b) = true) : InBody (C.into f B) (blkBody (stmt k b)) := by
  have h0 : ∀ x ∈ loopsIn (stmt k b), x ∈ loopsIn b := fun x hx => by
    refine seqDrop_loops k b x ?_
    unfold stmt at hx
    cases hc : seqDrop k b with
    | seq p q => rw [hc] at hx; simp only at hx; simp [loopsIn, hx]
    | _ => rw [hc] at hx; simp [loopsIn] at hx
  unfold isBlk at hs
  split at hs
  · rename_i i y hst
    rw [hst] at h0 ⊢
    exact Or.inl ⟨fn, b, hf, hb, fun z hz => h0 z (by simp only [blkBody] at hz; simp [loopsIn, hz])⟩
  · cases hs
theorem blk_inD {C : Cx} {f B id k : Nat} {fn : Func} {b : Code} (hf : C.P.funcs[f]? = some fn) (hb : fn.body = some b) (hs : isBlk id (seqDrop k b) = true) : InBody (C.into f B) (blkBody (seqDrop k b)) := by
  have h0 : ∀ x ∈ loopsIn (seqDrop k b), x ∈ loopsIn b := seqDrop_loops k b
  unfold isBlk at hs
  split at hs
  · rename_i i y hst
    rw [hst] at h0 ⊢
    exact Or.inl ⟨fn, b, hf, hb, fun z hz => h0 z (by simp only [blkBody] at hz; simp [loopsIn, hz])⟩
  · cases hs
/-- A statement that returns. -/
theorem stmt_out {P : Program} {B k : Nat} {c : Code} {st s : St} {e : Exit} (hk : hasStmt k c = true) (h1 : CodeSem P B (stmt k c) st e s) (he : e ≠ .normal) : CodeSem P B (seqDrop k c) st e s := by
  unfold hasStmt at hk
  unfold stmt at h1
  cases hc : seqDrop k c with
  | seq x y => rw [hc] at h1; exact h1.out he
  | _ => rw [hc] at hk; cases hk
theorem stmt_in {C : Cx} {f B k : Nat} {fn : Func} {b : Code} (hf : C.P.funcs[f]? = some fn) (hb : fn.body = some b) : InBody (C.into f B) (stmt k b) := by
  refine Or.inl ⟨fn, b, hf, hb, fun x hx => ?_⟩
  refine seqDrop_loops k b x ?_
  unfold stmt at hx
  cases hc : seqDrop k b with
  | seq p q => rw [hc] at hx; simp only at hx; simp [loopsIn, hx]
  | _ => rw [hc] at hx; simp [loopsIn] at hx
/-- A piece whose masks hang on how it ends. -/
theorem end_rule' {C : Cx} (hC : CxOk C) {f B n : Nat} {c : Code} {mask mout : List Nat} {sp so : List From} {st s : St} {e : Exit} (hin : InBody (C.into f B) c) (h : roundR (C.into f B) n c mask mout sp so st = some (e, s)) : CodeSem C.P B c st e s := by
  obtain ⟨⟨e1, s1⟩, h3, h4⟩ := Ans.bind_some h
  intro Q w0 keep r0 a w hB hQ hr
  refine (exCode_sound hC n).1 f B c hin _ _ _ h3 _ w0 keep r0 a w hB ?_ hr
  intro a' w' hr'
  obtain ⟨he, hs⟩ := clean_rel h4 hB hr'
  subst he
  exact hQ a' w' hs
/-- A function without memory, told by a proof. -/
theorem Cx.addP_ok {C : Cx} (hC : CxOk C) {f : FuncId} {F : List Value → Option (Bool × Value)} (h : ∀ args v, (∀ x ∈ args, Vx.plain x = true) → F args = some (true, v) → Vx.plain v = true → PlainSem C.P f args v) : CxOk (C.addR f F) := by
  refine ⟨hC.mixed, ?_, hC.tbm, hC.keys, hC.inl, hC.lp, hC.rd, hC.rd2⟩
  intro g args v hargs hv hp
  simp only [Cx.addR] at hv
  cases hg : Nat.beq g f with
  | false => simp only [hg] at hv; exact hC.tbl g args v hargs hv hp
  | true =>
    have hgf : g = f := Nat.eq_of_beq_eq_true hg
    subst hgf
    simp only [hg] at hv
    exact h args v hargs hv hp
def gn {α : Type} (b : Bool) (x : Option α) : Option α := match b with
  | true => none
  | false => x
theorem bd_ok' {i k : Nat} (h : i < k) : boundsI (i : Int) k = true := by simp [boundsI]; omega
end Go.Proofs.Ytjpfnfckpgilgaa.Vx


namespace Go.Proofs.Ytjpfnfckpgilgaa.Vx
open Go Go.RowKit
theorem for_ret {P : Program} {B id : Nat} {c : Code} {st s s' : St} (hf : isFor id c = true) (h1 : CodeSem P B (forHead c) st .normal s) (h2 : LoopSem P B (forBody c) s .ret s') : CodeSem P B c st .ret s' := by
  unfold isFor at hf
  split at hf
  · rename_i x i y
    exact h1.seq (CodeSem.blockR (CodeSem.loop h2))
  · cases hf
/-- The first of c places from i on that has a property. -/
def fst? (t : Nat → Bool) : Nat → Nat → Option Nat
  | 0, _ => none
  | c + 1, i => match t i with
    | true => some i
    | false => fst? t c (i + 1)
theorem fst?_some {t : Nat → Bool} : ∀ {c i k : Nat}, fst? t c i = some k → i ≤ k ∧ k < i + c ∧ t k = true ∧ ∀ j, i ≤ j → j < k → t j = false
  | 0, i, k, h => by simp [fst?] at h
  | c + 1, i, k, h => by
    simp only [fst?] at h
    cases ht : t i with
    | true =>
      rw [ht] at h
      simp only [Option.some.injEq] at h
      subst h
      exact ⟨Nat.le_refl _, by omega, ht, fun j h1 h2 => by omega⟩
    | false =>
      rw [ht] at h
      obtain ⟨h1, h2, h3, h4⟩ := fst?_some h
      refine ⟨by omega, by omega, h3, fun j g1 g2 => ?_⟩
      by_cases hj : j = i
      · subst hj; exact ht
      · exact h4 j (by omega) g2
theorem fst?_none {t : Nat → Bool} : ∀ {c i : Nat}, fst? t c i = none → ∀ j, i ≤ j → j < i + c → t j = false
  | 0, i, h, j, h1, h2 => by omega
  | c + 1, i, h, j, h1, h2 => by
    simp only [fst?] at h
    cases ht : t i with
    | true => rw [ht] at h; cases h
    | false =>
      rw [ht] at h
      by_cases hj : j = i
      · subst hj; exact ht
      · exact fst?_none h j (by omega) (by omega)
theorem fst?_congr {t u : Nat → Bool} : ∀ {c i : Nat}, (∀ j, i ≤ j → j < i + c → t j = u j) → fst? t c i = fst? u c i
  | 0, i, _ => rfl
  | c + 1, i, h => by
    simp only [fst?]
    rw [h i (Nat.le_refl _) (by omega), fst?_congr (c := c) (i := i + 1) fun j h1 h2 => h j (by omega) (by omega)]
theorem scan_loop {C : Cx} (hC : CxOk C) {f B m : Nat} {x : Code} {mask mout : List Nat} {sp so : List From} (hin : InBody (C.into f B) x) {n : Nat} (hn : (n : Int) ≤ 9000000000000000000) (H : Int → St) (t : Nat → Bool) (sx : Nat → St) (id : Nat) (s0 : St)
    (hr : ∀ i : Nat, i ≤ n → roundR (C.into f B) m x mask mout sp so (H (i : Int)) = (match decide ((i : Int) < (n : Int)) with
      | true => gd (boundsI (i : Int) n) (match t i with
        | true => some (.ret, sx i)
        | false => some (.normal, H (W ((i : Int) + 1))))
      | false => some (.exit id, s0))) :
    (∀ k, fst? t n 0 = some k → LoopSem C.P B x (H 0) .ret (sx k)) ∧ (fst? t n 0 = none → LoopSem C.P B x (H 0) (.exit id) s0) := by
  have key : ∀ (c i : Nat), i + c = n → (∀ k, fst? t c i = some k → LoopSem C.P B x (H (i : Int)) .ret (sx k)) ∧ (fst? t c i = none → LoopSem C.P B x (H (i : Int)) (.exit id) s0) := by
    intro c
    induction c with
    | zero =>
      intro i hi
      have h := hr i (by omega)
      rw [show decide ((i : Int) < (n : Int)) = false by simp; omega] at h
      exact ⟨fun k hk => (by simp [fst?] at hk), fun _ => loop_leave hC hin h (by simp)⟩
    | succ c ih =>
      intro i hi
      have h := hr i (by omega)
      rw [show decide ((i : Int) < (n : Int)) = true by simp; omega, bd_ok' (show i < n by omega)] at h
      simp only [gd_true] at h
      simp only [fst?]
      cases ht : t i with
      | true =>
        rw [ht] at h
        refine ⟨fun k hk => ?_, fun hk => by cases hk⟩
        simp only [Option.some.injEq] at hk
        subst hk
        exact loop_leave hC hin h (by simp)
      | false =>
        rw [ht] at h
        rw [show W ((i : Int) + 1) = ((i + 1 : Nat) : Int) by rw [W_in (by omega)]; simp] at h
        have := ih (i + 1) (by omega)
        exact ⟨fun k hk => loop_next hC hin h (StLike.refl _) (this.1 k hk), fun hk => loop_next hC hin h (StLike.refl _) (this.2 hk)⟩
  exact key n 0 (by omega)
end Go.Proofs.Ytjpfnfckpgilgaa.Vx


namespace Go.Proofs.Ytjpfnfckpgilgaa.Vx
open Go

/-- May it be handed in? -/
def V3.ixk (h : V3) : Int := bif inB 512 h.l then 0 else 1
def rangeU (n : Int) : List Int → List (Bool × List Int)
  | [] => []
  | a :: l => (decide (a < -n), [1]) :: (decide (a > n), [1]) :: rangeU n l
def tIxk (h : V3) : Option Value := chainO mk1 (rangeU 512 h.l) [0]
def fIxk (h : V3) : Value := vI h.ixk
theorem rangeU_eq (n : Int) : ∀ (l : List Int), nth (chainL (rangeU n l) [0]) 0 = bif inB n l then 0 else 1
  | [] => rfl
  | a :: l => by
    have := rangeU_eq n l
    simp only [rangeU, chainL, inB, List.all_cons] at this ⊢
    by_cases h1 : a < -n
    · have : decide (-n ≤ a) = false := by simp; omega
      simp [h1, this]
      rfl
    · by_cases h2 : a > n
      · have : decide (a ≤ n) = false := by simp; omega
        simp [h1, h2, this]
        rfl
      · have e1 : decide (-n ≤ a) = true := by simp; omega
        have e2 : decide (a ≤ n) = true := by simp; omega
        simp only [h1, h2, decide_false, e1, e2, Bool.true_and]
        exact this
theorem tIxk_eq (h : V3) : tIxk h = some (fIxk h) := by
  unfold tIxk fIxk V3.ixk
  rw [chain_eq]
  simp only [mk1, rangeU_eq, vI]
/-- The row h R. -/
def rowI (h : V3) (m : M3) : V3 := ⟨W (W (W (0 + W (h.x * m.a)) + W (h.y * m.d)) + W (h.z * m.g)), W (W (W (0 + W (h.x * m.b)) + W (h.y * m.e)) + W (h.z * m.h)), W (W (W (0 + W (h.x * m.c)) + W (h.y * m.f)) + W (h.z * m.i))⟩
def tRowI (h : V3) (m : M3) : Option Value := some (rowI h m).v
def fRowI (h : V3) (m : M3) : Value := (rowI h m).v
theorem tRowI_eq (h : V3) (m : M3) : tRowI h m = some (fRowI h m) := rfl
def tTurI (o : O3) (h : V3) : Option Value := some (rowI h o.r).v
def fTurI (o : O3) (h : V3) : Value := (rowI h o.r).v
theorem tTurI_eq (o : O3) (h : V3) : tTurI o h = some (fTurI o h) := rfl
/-- The phase. -/
def phI (o : O3) (h : V3) : Int := W (W (W (h.x * o.t.x) + W (h.y * o.t.y)) + W (h.z * o.t.z)) % 24
def tPhI (o : O3) (h : V3) : Option Value := some (vI (phI o h))
def fPhI (o : O3) (h : V3) : Value := vI (phI o h)
theorem tPhI_eq (o : O3) (h : V3) : tPhI o h = some (fPhI o h) := rfl
def phE (o : O3) (h : V3) : Int := leastN h.ixk o.ck
def phV (o : O3) (h : V3) : Int := bif phE o h == 0 then phI o h else 0
def tPhase (o : O3) (h : V3) : Option Value := match phE o h != 0 with
  | true => some (p2 (vI 0) (vI (phE o h)))
  | false => some (p2 (vI (phI o h)) (vI 0))
def fPhase (o : O3) (h : V3) : Value := p2 (vI (phV o h)) (vI (phE o h))
theorem tPhase_eq (o : O3) (h : V3) : tPhase o h = some (fPhase o h) := by
  unfold tPhase fPhase phV
  by_cases e : phE o h = 0
  · rw [e]; rfl
  · rw [(bif_beq e).2, (bif_beq e).1]; rfl
/-- Turned, asked for. -/
def tnV (o : O3) (h : V3) : V3 := bif phE o h == 0 then rowI h o.r else V3.zero
def tTurned (o : O3) (h : V3) : Option Value := match phE o h != 0 with
  | true => some (p2 V3.zero.v (vI (phE o h)))
  | false => some (p2 (rowI h o.r).v (vI 0))
def fTurned (o : O3) (h : V3) : Value := p2 (tnV o h).v (vI (phE o h))
theorem tTurned_eq (o : O3) (h : V3) : tTurned o h = some (fTurned o h) := by
  unfold tTurned fTurned tnV
  by_cases e : phE o h = 0
  · rw [e]; rfl
  · rw [(bif_beq e).2, (bif_beq e).1]; rfl
end Go.Proofs.Ytjpfnfckpgilgaa.Vx


namespace Go.Proofs.Ytjpfnfckpgilgaa.Vx
open Go
/-- The cells of a list's maps. -/
def mtRow (l : List M3) : Nat → List Value := fun i => ((l[i]?).getD M3.zero).cells
def decM (l : List Value) : M3 := match matCells l with
  | some o => o
  | none => M3.zero
def isM (l : List Value) : Bool := match matCells l with
  | some _ => true
  | none => false
def okMts (n : Nat) (row : Nat → List Value) : Bool := (List.range n).all fun i => isM (row i)
def mtsOf (n : Nat) (row : Nat → List Value) : List M3 := (List.range n).map fun i => decM (row i)
theorem matCells_cells (o : M3) : matCells o.cells = some o := rfl
theorem isM_cells (o : M3) : isM o.cells = true := rfl
theorem decM_cells (o : M3) : decM o.cells = o := rfl
theorem okMts_mtRow (xs : List M3) (n : Nat) : okMts n (mtRow xs) = true := List.all_eq_true.2 fun _ _ => isM_cells _
theorem mtsOf_mtRow (xs : List M3) : mtsOf xs.length (mtRow xs) = xs := by
  apply List.ext_getElem?
  intro i
  unfold mtsOf mtRow
  rw [List.getElem?_map]
  by_cases hi : i < xs.length
  · rw [List.getElem?_range hi, List.getElem?_eq_getElem hi]
    simp [decM_cells, List.getElem?_eq_getElem hi]
  · rw [List.getElem?_eq_none (by simp; omega), List.getElem?_eq_none (by omega)]; rfl
theorem mtsOf_length (n : Nat) (row : Nat → List Value) : (mtsOf n row).length = n := by simp [mtsOf]
theorem mts_like {n : Nat} {row : Nat → List Value} (h : okMts n row = true) : rowsLike n row (mtRow (mtsOf n row)) := by
  intro i hi
  have := List.all_eq_true.1 h i (List.mem_range.2 hi)
  unfold isM at this
  split at this
  · rename_i o ho
    unfold mtRow mtsOf
    rw [List.getElem?_map, List.getElem?_range hi]
    simp only [Option.map_some, Option.getD_some, decM, ho]
    exact matCells_spec ho
  · cases this
theorem like_mts {own : Bool} {n : Nat} {row : Nat → List Value} (h : okMts n row = true) : Like (.rows own true 9 n row) (.rows own true 9 (mtsOf n row).length (mtRow (mtsOf n row))) := by
  rw [mtsOf_length]; exact .rows (mts_like h)
/-- One map behind others. -/
theorem catR_mts (xs : List M3) (o : M3) (i : Nat) (hi : i < xs.length + 1) : catR xs.length (mtRow xs) (chop 9 0 o.cells) i = mtRow (xs ++ [o]) i := by
  unfold catR mtRow
  by_cases h : i < xs.length
  · rw [show Nat.blt i xs.length = true by simpa [Nat.blt_eq] using h, List.getElem?_append_left h]
  · have : i = xs.length := by omega
    subst this
    rw [blt_ff (Nat.lt_irrefl _)]
    simp only [Nat.sub_self]
    rw [List.getElem?_append_right (Nat.le_refl _)]
    simp only [Nat.sub_self, List.getElem?_cons_zero, Option.getD_some]
    rfl
theorem like_ngmts {pl : Bool} {n : Nat} {xs : List M3} (hx : xs.length = n) (o : M3) : Like (.grow pl 9 (n + 1) (catR n (mtRow xs) (chop 9 0 o.cells))) (.grow pl 9 (n + 1) (mtRow (xs ++ [o]))) := by
  subst hx
  exact .grow fun i hi => catR_mts xs o i hi
theorem like_nrmts {own pl : Bool} {n : Nat} {xs : List M3} (hx : xs.length = n) (o : M3) : Like (.rows own pl 9 (n + 1) (catR n (mtRow xs) (chop 9 0 o.cells))) (.rows own pl 9 (n + 1) (mtRow (xs ++ [o]))) := by
  subst hx
  exact .rows fun i hi => catR_mts xs o i hi
theorem like_chopmts {own pl : Bool} (o : M3) : Like (.rows own pl 9 1 (chop 9 0 o.cells)) (.rows own pl 9 1 (mtRow [o])) := .rows fun i hi => by
  have : i = 0 := by omega
  subst this
  rfl
theorem like_onemts {own pl : Bool} (xs : List M3) (o : M3) : Like (.rows own pl 9 (xs.length + 1) (catR xs.length (mtRow xs) (chop 9 0 o.cells))) (.rows own pl 9 (xs ++ [o]).length (mtRow (xs ++ [o]))) := by
  rw [List.length_append]
  exact .rows fun i hi => catR_mts xs o i hi

theorem like_onegmts {pl : Bool} (xs : List M3) (o : M3) : Like (.grow pl 9 (xs.length + 1) (catR xs.length (mtRow xs) (chop 9 0 o.cells))) (.grow pl 9 (xs ++ [o]).length (mtRow (xs ++ [o]))) := by
  rw [List.length_append]
  exact .grow fun i hi => catR_mts xs o i hi

theorem mtsOf_row {xs : List M3} {n : Nat} (h : xs.length = n) : mtsOf n (mtRow xs) = xs := by subst h; exact mtsOf_mtRow xs
/-- The cells of a list's maps. -/
def vcRow (l : List V3) : Nat → List Value := fun i => ((l[i]?).getD V3.zero).cells
def decV (l : List Value) : V3 := match vecCells l with
  | some o => o
  | none => V3.zero
def isV (l : List Value) : Bool := match vecCells l with
  | some _ => true
  | none => false
def okVcs (n : Nat) (row : Nat → List Value) : Bool := (List.range n).all fun i => isV (row i)
def vcsOf (n : Nat) (row : Nat → List Value) : List V3 := (List.range n).map fun i => decV (row i)
theorem vecCells_cells (o : V3) : vecCells o.cells = some o := rfl
theorem isV_cells (o : V3) : isV o.cells = true := rfl
theorem decV_cells (o : V3) : decV o.cells = o := rfl
theorem okVcs_vcRow (xs : List V3) (n : Nat) : okVcs n (vcRow xs) = true := List.all_eq_true.2 fun _ _ => isV_cells _
theorem vcsOf_vcRow (xs : List V3) : vcsOf xs.length (vcRow xs) = xs := by
  apply List.ext_getElem?
  intro i
  unfold vcsOf vcRow
  rw [List.getElem?_map]
  by_cases hi : i < xs.length
  · rw [List.getElem?_range hi, List.getElem?_eq_getElem hi]
    simp [decV_cells, List.getElem?_eq_getElem hi]
  · rw [List.getElem?_eq_none (by simp; omega), List.getElem?_eq_none (by omega)]; rfl
theorem vcsOf_length (n : Nat) (row : Nat → List Value) : (vcsOf n row).length = n := by simp [vcsOf]
theorem vcs_like {n : Nat} {row : Nat → List Value} (h : okVcs n row = true) : rowsLike n row (vcRow (vcsOf n row)) := by
  intro i hi
  have := List.all_eq_true.1 h i (List.mem_range.2 hi)
  unfold isV at this
  split at this
  · rename_i o ho
    unfold vcRow vcsOf
    rw [List.getElem?_map, List.getElem?_range hi]
    simp only [Option.map_some, Option.getD_some, decV, ho]
    exact vecCells_spec ho
  · cases this
theorem like_vcs {own : Bool} {n : Nat} {row : Nat → List Value} (h : okVcs n row = true) : Like (.rows own true 3 n row) (.rows own true 3 (vcsOf n row).length (vcRow (vcsOf n row))) := by
  rw [vcsOf_length]; exact .rows (vcs_like h)
/-- One map behind others. -/
theorem catR_vcs (xs : List V3) (o : V3) (i : Nat) (hi : i < xs.length + 1) : catR xs.length (vcRow xs) (chop 3 0 o.cells) i = vcRow (xs ++ [o]) i := by
  unfold catR vcRow
  by_cases h : i < xs.length
  · rw [show Nat.blt i xs.length = true by simpa [Nat.blt_eq] using h, List.getElem?_append_left h]
  · have : i = xs.length := by omega
    subst this
    rw [blt_ff (Nat.lt_irrefl _)]
    simp only [Nat.sub_self]
    rw [List.getElem?_append_right (Nat.le_refl _)]
    simp only [Nat.sub_self, List.getElem?_cons_zero, Option.getD_some]
    rfl
theorem like_ngvcs {pl : Bool} {n : Nat} {xs : List V3} (hx : xs.length = n) (o : V3) : Like (.grow pl 3 (n + 1) (catR n (vcRow xs) (chop 3 0 o.cells))) (.grow pl 3 (n + 1) (vcRow (xs ++ [o]))) := by
  subst hx
  exact .grow fun i hi => catR_vcs xs o i hi
theorem like_nrvcs {own pl : Bool} {n : Nat} {xs : List V3} (hx : xs.length = n) (o : V3) : Like (.rows own pl 3 (n + 1) (catR n (vcRow xs) (chop 3 0 o.cells))) (.rows own pl 3 (n + 1) (vcRow (xs ++ [o]))) := by
  subst hx
  exact .rows fun i hi => catR_vcs xs o i hi
theorem like_chopvcs {own pl : Bool} (o : V3) : Like (.rows own pl 3 1 (chop 3 0 o.cells)) (.rows own pl 3 1 (vcRow [o])) := .rows fun i hi => by
  have : i = 0 := by omega
  subst this
  rfl
theorem like_onevcs {own pl : Bool} (xs : List V3) (o : V3) : Like (.rows own pl 3 (xs.length + 1) (catR xs.length (vcRow xs) (chop 3 0 o.cells))) (.rows own pl 3 (xs ++ [o]).length (vcRow (xs ++ [o]))) := by
  rw [List.length_append]
  exact .rows fun i hi => catR_vcs xs o i hi

theorem like_onegvcs {pl : Bool} (xs : List V3) (o : V3) : Like (.grow pl 3 (xs.length + 1) (catR xs.length (vcRow xs) (chop 3 0 o.cells))) (.grow pl 3 (xs ++ [o]).length (vcRow (xs ++ [o]))) := by
  rw [List.length_append]
  exact .grow fun i hi => catR_vcs xs o i hi

theorem vcsOf_row {xs : List V3} {n : Nat} (h : xs.length = n) : vcsOf n (vcRow xs) = xs := by subst h; exact vcsOf_vcRow xs
end Go.Proofs.Ytjpfnfckpgilgaa.Vx


namespace Go.Proofs.Ytjpfnfckpgilgaa.Vx
open Go
def ghF (ok : List O3 → V3 → Bool) (A : List O3 → V3 → Value) (A0 : V3 → Option Value) : List Value → Mem → Option (Ans (Value × Mem))
  | [.slice none 0 0, .agg co], [] => match vecCells co.toList with
    | some h => match A0 h with
      | some v => some (.out (v, []))
      | none => none
    | none => none
  | [.slice (some ⟨0, 0, some 0⟩) N 12, .agg co], [.rows own true 12 N2 row] => match vecCells co.toList with
    | some h => some (.br (Nat.beq N N2 && (okOps N row && ok (opsOf N row) h)) (.out (A (opsOf N row) h, [.rows own true 12 N (opRow (opsOf N row))])) .fail)
    | none => none
  | _, _ => none
theorem ghF_ok {P : Program} {f : FuncId} {ok : List O3 → V3 → Bool} {A : List O3 → V3 → Value} {A0 : V3 → Option Value}
    (hS : ∀ own X h, ok X h = true → MemSem P f [.slice (some ⟨0, 0, some 0⟩) X.length 12, h.v] [.rows own true 12 X.length (opRow X)] (A X h) [.rows own true 12 X.length (opRow X)])
    (h0 : ∀ h v, A0 h = some v → MemSem P f [.slice none 0 0, h.v] [] v []) :
    ∀ args m ans v m', ghF ok A A0 args m = some ans → ans.res = some (v, m') → MemSem P f args m v m' := by
  intro args m ans v m' h hr
  unfold ghF at h
  split at h
  · rename_i co
    split at h
    · rename_i h1 hh
      split at h
      · rename_i v0 hv
        simp only [Option.some.injEq] at h
        subst h
        simp only [Ans.res, Option.some.injEq, Prod.mk.injEq] at hr
        obtain ⟨rfl, rfl⟩ := hr
        have e1 : co = h1.cells.toArray := by rw [← vecCells_spec hh]
        subst e1
        exact h0 h1 v0 hv
      · cases h
    · cases h
  · rename_i N co own N2 row
    split at h
    rotate_left
    · cases h
    rename_i h1 hh
    simp only [Option.some.injEq] at h
    subst h
    rcases Ans.br_some hr with ⟨hc, hr1⟩ | ⟨_, hr1⟩
    rotate_left
    · simp [Ans.res] at hr1
    simp only [Bool.and_eq_true] at hc
    obtain ⟨c1, c2, c3⟩ := hc
    have c1 := beq_len c1
    subst c1
    simp only [Ans.res, Option.some.injEq, Prod.mk.injEq] at hr1
    obtain ⟨rfl, rfl⟩ := hr1
    have e1 : co = h1.cells.toArray := by rw [← vecCells_spec hh]
    subst e1
    have := hS own (opsOf N row) h1 c3
    rw [opsOf_length] at this
    exact this.like ⟨.rows (ops_like c2), trivial⟩
  · cases h
/-- A test of a run. -/
def ghT (ok : List O3 → V3 → Bool) (n : Nat) (row : Nat → List Value) (h : V3) : Bool := Nat.beq n n && (okOps n row && ok (opsOf n row) h)
theorem ghT_ok {ok : List O3 → V3 → Bool} {xs : List O3} {h : V3} (hk : ok xs h = true) : ghT ok xs.length (opRow xs) h = true := by
  unfold ghT; rw [Nat.beq_refl, okOps_opRow, opsOf_opRow, hk]; rfl
end Go.Proofs.Ytjpfnfckpgilgaa.Vx


namespace Go.Proofs.Ytjpfnfckpgilgaa
open Go Vx

def Cab0 (P : Program) : Cx := Cdk P
theorem okab0 : CxOk (Cab0 Try.prog) := okdk
/-- plain.CheckIndex -/
theorem eab1 (a0 a1 a2 : Int) : exFun ((Cab0 Try.prog).at 71) 60 Try.f71 (pack [some 3] [a0, a1, a2]) = tIxk ⟨a0, a1, a2⟩ := by kernel_rfl
def Fab_71 : List Int → Option Value
  | [a0, a1, a2] => some (fIxk ⟨a0, a1, a2⟩)
  | _ => none
def Cab1 (P : Program) : Cx := (Cab0 P).add 71 [some 3] Fab_71
theorem okab1 : CxOk (Cab1 Try.prog) := Cx.add_ok okab0 (n := 60) Try.func71 (by kernel_rfl) fun l v hl h => by
  match l, hl, h with
  | [a0, a1, a2], _, hh => rw [eab1, tIxk_eq]; exact hh
/-- plain.Row -/
theorem eab2 (a0 a1 a2 b0 b1 b2 b3 b4 b5 b6 b7 b8 : Int) : exFun ((Cab1 Try.prog).at 62) 60 Try.f62 (pack [some 3, some 9] [a0, a1, a2, b0, b1, b2, b3, b4, b5, b6, b7, b8]) = tRowI ⟨a0, a1, a2⟩ ⟨b0, b1, b2, b3, b4, b5, b6, b7, b8⟩ := by kernel_rfl
def Fab_62 : List Int → Option Value
  | [a0, a1, a2, b0, b1, b2, b3, b4, b5, b6, b7, b8] => some (fRowI ⟨a0, a1, a2⟩ ⟨b0, b1, b2, b3, b4, b5, b6, b7, b8⟩)
  | _ => none
def Cab2 (P : Program) : Cx := (Cab1 P).add 62 [some 3, some 9] Fab_62
theorem okab2 : CxOk (Cab2 Try.prog) := Cx.add_ok okab1 (n := 60) Try.func62 (by kernel_rfl) fun l v hl h => by
  match l, hl, h with
  | [a0, a1, a2, b0, b1, b2, b3, b4, b5, b6, b7, b8], _, hh => rw [eab2, tRowI_eq]; exact hh
/-- hkl.checkMap -/
theorem eab3 (a0 a1 a2 a3 a4 a5 a6 a7 a8 a9 a10 a11 : Int) : exFun ((Cab2 Try.prog).at 72) 60 Try.f72 (pack [some 12] [a0, a1, a2, a3, a4, a5, a6, a7, a8, a9, a10, a11]) = tCheckMap ⟨⟨a0, a1, a2, a3, a4, a5, a6, a7, a8⟩, ⟨a9, a10, a11⟩⟩ := by kernel_rfl
def Fab_72 : List Int → Option Value
  | [a0, a1, a2, a3, a4, a5, a6, a7, a8, a9, a10, a11] => some (fOCheck ⟨⟨a0, a1, a2, a3, a4, a5, a6, a7, a8⟩, ⟨a9, a10, a11⟩⟩)
  | _ => none
def Cab3 (P : Program) : Cx := (Cab2 P).add 72 [some 12] Fab_72
theorem okab3 : CxOk (Cab3 Try.prog) := Cx.add_ok okab2 (n := 60) Try.func72 (by kernel_rfl) fun l v hl h => by
  match l, hl, h with
  | [a0, a1, a2, a3, a4, a5, a6, a7, a8, a9, a10, a11], _, hh => rw [eab3, tCheckMap_eq]; exact hh
/-- hkl.Phase -/
theorem eab4 (a0 a1 a2 a3 a4 a5 a6 a7 a8 a9 a10 a11 b0 b1 b2 : Int) : exFun ((Cab3 Try.prog).at 31) 60 Try.f31 (pack [some 12, some 3] [a0, a1, a2, a3, a4, a5, a6, a7, a8, a9, a10, a11, b0, b1, b2]) = tPhase ⟨⟨a0, a1, a2, a3, a4, a5, a6, a7, a8⟩, ⟨a9, a10, a11⟩⟩ ⟨b0, b1, b2⟩ := by kernel_rfl
def Fab_31 : List Int → Option Value
  | [a0, a1, a2, a3, a4, a5, a6, a7, a8, a9, a10, a11, b0, b1, b2] => some (fPhase ⟨⟨a0, a1, a2, a3, a4, a5, a6, a7, a8⟩, ⟨a9, a10, a11⟩⟩ ⟨b0, b1, b2⟩)
  | _ => none
def Cab4 (P : Program) : Cx := (Cab3 P).add 31 [some 12, some 3] Fab_31
theorem okab4 : CxOk (Cab4 Try.prog) := Cx.add_ok okab3 (n := 60) Try.func31 (by kernel_rfl) fun l v hl h => by
  match l, hl, h with
  | [a0, a1, a2, a3, a4, a5, a6, a7, a8, a9, a10, a11, b0, b1, b2], _, hh => rw [eab4, tPhase_eq]; exact hh
/-- hkl.Turned -/
theorem eab5 (a0 a1 a2 a3 a4 a5 a6 a7 a8 a9 a10 a11 b0 b1 b2 : Int) : exFun ((Cab4 Try.prog).at 30) 60 Try.f30 (pack [some 12, some 3] [a0, a1, a2, a3, a4, a5, a6, a7, a8, a9, a10, a11, b0, b1, b2]) = tTurned ⟨⟨a0, a1, a2, a3, a4, a5, a6, a7, a8⟩, ⟨a9, a10, a11⟩⟩ ⟨b0, b1, b2⟩ := by kernel_rfl
def Fab_30 : List Int → Option Value
  | [a0, a1, a2, a3, a4, a5, a6, a7, a8, a9, a10, a11, b0, b1, b2] => some (fTurned ⟨⟨a0, a1, a2, a3, a4, a5, a6, a7, a8⟩, ⟨a9, a10, a11⟩⟩ ⟨b0, b1, b2⟩)
  | _ => none
def Cab5 (P : Program) : Cx := (Cab4 P).add 30 [some 12, some 3] Fab_30
theorem okab5 : CxOk (Cab5 Try.prog) := Cx.add_ok okab4 (n := 60) Try.func30 (by kernel_rfl) fun l v hl h => by
  match l, hl, h with
  | [a0, a1, a2, a3, a4, a5, a6, a7, a8, a9, a10, a11, b0, b1, b2], _, hh => rw [eab5, tTurned_eq]; exact hh
/-- facetref14.Index -/
theorem eab6 (a0 a1 a2 : Int) : exFun ((Cab5 Try.prog).at 67) 60 Try.f67 (pack [some 3] [a0, a1, a2]) = tIxk ⟨a0, a1, a2⟩ := by kernel_rfl
def Fab_67 : List Int → Option Value
  | [a0, a1, a2] => some (fIxk ⟨a0, a1, a2⟩)
  | _ => none
def Cab6 (P : Program) : Cx := (Cab5 P).add 67 [some 3] Fab_67
theorem okab6 : CxOk (Cab6 Try.prog) := Cx.add_ok okab5 (n := 60) Try.func67 (by kernel_rfl) fun l v hl h => by
  match l, hl, h with
  | [a0, a1, a2], _, hh => rw [eab6, tIxk_eq]; exact hh
/-- facetref03.Mod -/
theorem eab7 (a b : Int) : exFun ((Cab6 Try.prog).at 34) 60 Try.f34 (pack [none, none] [a, b]) = tMod a b := by kernel_rfl
def Fab_34 : List Int → Option (Bool × Value)
  | [a, b] => some (modB b, vI (a % b))
  | _ => none
def Cab7 (P : Program) : Cx := (Cab6 P).addD 34 [none, none] Fab_34
theorem okab7 : CxOk (Cab7 Try.prog) := Cx.addD_ok okab6 (n := 60) Try.func34 (by kernel_rfl) fun l v hl h => by
  match l, hl, h with
  | [a, b], _, hh => simp only [Fab_34, Option.some.injEq, Prod.mk.injEq] at hh; rw [eab7, tMod_eq hh.1, hh.2]
/-- facetref14.Turned -/
theorem eab8 (a0 a1 a2 a3 a4 a5 a6 a7 a8 a9 a10 a11 b0 b1 b2 : Int) : exFun ((Cab7 Try.prog).at 63) 60 Try.f63 (pack [some 12, some 3] [a0, a1, a2, a3, a4, a5, a6, a7, a8, a9, a10, a11, b0, b1, b2]) = tTurI ⟨⟨a0, a1, a2, a3, a4, a5, a6, a7, a8⟩, ⟨a9, a10, a11⟩⟩ ⟨b0, b1, b2⟩ := by kernel_rfl
def Fab_63 : List Int → Option Value
  | [a0, a1, a2, a3, a4, a5, a6, a7, a8, a9, a10, a11, b0, b1, b2] => some (fTurI ⟨⟨a0, a1, a2, a3, a4, a5, a6, a7, a8⟩, ⟨a9, a10, a11⟩⟩ ⟨b0, b1, b2⟩)
  | _ => none
def Cab8 (P : Program) : Cx := (Cab7 P).add 63 [some 12, some 3] Fab_63
theorem okab8 : CxOk (Cab8 Try.prog) := Cx.add_ok okab7 (n := 60) Try.func63 (by kernel_rfl) fun l v hl h => by
  match l, hl, h with
  | [a0, a1, a2, a3, a4, a5, a6, a7, a8, a9, a10, a11, b0, b1, b2], _, hh => rw [eab8, tTurI_eq]; exact hh
/-- facetref14.Phase -/
theorem eab9 (a0 a1 a2 a3 a4 a5 a6 a7 a8 a9 a10 a11 b0 b1 b2 : Int) : exFun ((Cab8 Try.prog).at 64) 60 Try.f64 (pack [some 12, some 3] [a0, a1, a2, a3, a4, a5, a6, a7, a8, a9, a10, a11, b0, b1, b2]) = tPhI ⟨⟨a0, a1, a2, a3, a4, a5, a6, a7, a8⟩, ⟨a9, a10, a11⟩⟩ ⟨b0, b1, b2⟩ := by kernel_rfl
def Fab_64 : List Int → Option Value
  | [a0, a1, a2, a3, a4, a5, a6, a7, a8, a9, a10, a11, b0, b1, b2] => some (fPhI ⟨⟨a0, a1, a2, a3, a4, a5, a6, a7, a8⟩, ⟨a9, a10, a11⟩⟩ ⟨b0, b1, b2⟩)
  | _ => none
def Cab9 (P : Program) : Cx := (Cab8 P).add 64 [some 12, some 3] Fab_64
theorem okab9 : CxOk (Cab9 Try.prog) := Cx.add_ok okab8 (n := 60) Try.func64 (by kernel_rfl) fun l v hl h => by
  match l, hl, h with
  | [a0, a1, a2, a3, a4, a5, a6, a7, a8, a9, a10, a11, b0, b1, b2], _, hh => rw [eab9, tPhI_eq]; exact hh

def CCab (P : Program) : Cx := Cab9 P
theorem okCab : CxOk (CCab Try.prog) := okab9

end Go.Proofs.Ytjpfnfckpgilgaa


namespace Go.Proofs.Ytjpfnfckpgilgaa
open Go Vx
def lk (k : Nat) : Bool := Nat.ble (0 + k) k && true
theorem lk_true (k : Nat) : lk k = true := by unfold lk; simp [Nat.ble_eq]
theorem chk_long {X : List O3} (h : 192 < X.length) : chkI X = 2 := by
  have hc : ckMaps X = 2 := by unfold ckMaps; rw [if_pos (by omega)]
  have h1 : clsOk X = false := by unfold clsOk; rw [hc]; rfl
  unfold chkI clsErr
  rw [h1, hc]; rfl
theorem dckS (own : Bool) (X : List O3) : MemSem Try.prog 66 [.slice (some ⟨0, 0, some 0⟩) X.length 12] [.rows own true 12 X.length (opRow X)] (vI (chkI X)) [.rows own true 12 X.length (opRow X)] := by
  by_cases h : 192 < X.length
  · have := dckE1 own X.length X
    rw [show decide ((X.length : Int) > 192) = true by simp; omega] at this
    rw [chk_long h]
    exact exT_ok okcu Try.func66 (by kernel_rfl) this
  · rw [← dck_chk]
    exact exT_ok okcu Try.func66 (by kernel_rfl) (dckE own X.length X rfl (by omega))
def dcwF : List Value → Mem → Option (Ans (Value × Mem))
  | [.slice none 0 0], [] => some (.out (vI 5, []))
  | [.slice (some ⟨0, 0, some 0⟩) N 12], [.rows own true 12 N2 row] => some (.br (Nat.beq N N2 && okOps N row) (.out (vI (chkI (opsOf N row)), [.rows own true 12 N (opRow (opsOf N row))])) .fail)
  | _, _ => none
theorem dcwF_ok : ∀ args m ans v m', dcwF args m = some ans → ans.res = some (v, m') → MemSem Try.prog 66 args m v m' := by
  intro args m ans v m' h hr
  unfold dcwF at h
  split at h
  · simp only [Option.some.injEq] at h
    subst h
    simp only [Ans.res, Option.some.injEq, Prod.mk.injEq] at hr
    obtain ⟨rfl, rfl⟩ := hr
    exact exT_ok okcu Try.func66 (by kernel_rfl) dckE0
  · rename_i N own N2 row
    simp only [Option.some.injEq] at h
    subst h
    rcases Ans.br_some hr with ⟨hc, hr1⟩ | ⟨_, hr1⟩
    rotate_left
    · simp [Ans.res] at hr1
    clear hr
    simp only [Bool.and_eq_true] at hc
    obtain ⟨c1, c2⟩ := hc
    have c1 := beq_len c1
    subst c1
    simp only [Ans.res, Option.some.injEq, Prod.mk.injEq] at hr1
    obtain ⟨rfl, rfl⟩ := hr1
    have := dckS own (opsOf N row)
    rw [opsOf_length] at this
    exact this.like ⟨.rows (ops_like c2), trivial⟩
  · cases h
/-- Check, lent; DocCheck. -/
def Cal (P : Program) : Cx := ((CCab P).lend 51).addE 66 dcwF
theorem okal : CxOk (Cal Try.prog) := Cx.addE_ok (Cx.lend_ok okCab _) dcwF_ok
def alwB (_ : List O3) (_ : V3) : Bool := true
def acI (X : List O3) (h : V3) : Int := leastN h.ixk (chkI X)
def acA (X : List O3) (h : V3) : Value := vI (acI X h)
def acZ (h : V3) : Option Value := some (vI (leastN h.ixk 5))
theorem acE1 (own : Bool) (n : Nat) (xs : List O3) (h : V3) : exT ((Cal Try.prog).at 57) 60 Try.f57 [.slice (some ⟨0, 0, some 0⟩) n 12, h.v] [.rows own true 12 n (opRow xs)] [.fix 0] =
    gd (lk n) (gd (oT n (opRow xs)) (some (vI (leastN h.ixk (chkI (opsOf n (opRow xs)))), [.rows own true 12 n (opRow xs)]))) := by kernel_rfl
theorem acE0 (h : V3) : exT ((Cal Try.prog).at 57) 60 Try.f57 [.slice none 0 0, h.v] [] [] = some (vI (leastN h.ixk 5), []) := by kernel_rfl
theorem acS (own : Bool) (X : List O3) (h : V3) (_ : alwB X h = true) : MemSem Try.prog 57 [.slice (some ⟨0, 0, some 0⟩) X.length 12, h.v] [.rows own true 12 X.length (opRow X)] (acA X h) [.rows own true 12 X.length (opRow X)] := by
  have := acE1 own X.length X h
  rw [lk_true, gd_true, oT_ok, gd_true, opsOf_opRow] at this
  exact exT_ok okal Try.func57 (by kernel_rfl) this
theorem acS0 (h : V3) (v : Value) (hv : acZ h = some v) : MemSem Try.prog 57 [.slice none 0 0, h.v] [] v [] := by
  simp only [acZ, Option.some.injEq] at hv
  subst hv
  exact exT_ok okal Try.func57 (by kernel_rfl) (acE0 h)
/-- The document's: an index at fault goes ahead of all. -/
def rcI (X : List O3) (h : V3) : Int := bif h.ixk != 0 then 1 else chkI X
def rcA (X : List O3) (h : V3) : Value := vI (rcI X h)
def rcZ (h : V3) : Option Value := some (vI (bif h.ixk != 0 then 1 else 5))
theorem rcE1 (own : Bool) (n : Nat) (xs : List O3) (h : V3) : exT ((Cal Try.prog).at 59) 60 Try.f59 [.slice (some ⟨0, 0, some 0⟩) n 12, h.v] [.rows own true 12 n (opRow xs)] [.fix 0] =
    (match h.ixk != 0 with
    | true => some (vI 1, [.rows own true 12 n (opRow xs)])
    | false => gd (lk n) (gd (oT n (opRow xs)) (some (vI (chkI (opsOf n (opRow xs))), [.rows own true 12 n (opRow xs)])))) := by kernel_rfl
theorem rcE0 (h : V3) : exT ((Cal Try.prog).at 59) 60 Try.f59 [.slice none 0 0, h.v] [] [] = (match h.ixk != 0 with
    | true => some (vI 1, [])
    | false => some (vI 5, [])) := by kernel_rfl
theorem rcS (own : Bool) (X : List O3) (h : V3) (_ : alwB X h = true) : MemSem Try.prog 59 [.slice (some ⟨0, 0, some 0⟩) X.length 12, h.v] [.rows own true 12 X.length (opRow X)] (rcA X h) [.rows own true 12 X.length (opRow X)] := by
  have := rcE1 own X.length X h
  rw [lk_true, gd_true, oT_ok, gd_true, opsOf_opRow] at this
  refine exT_ok okal Try.func59 (by kernel_rfl) (this.trans ?_)
  unfold rcA rcI
  cases h.ixk != 0 <;> rfl
theorem rcS0 (h : V3) (v : Value) (hv : rcZ h = some v) : MemSem Try.prog 59 [.slice none 0 0, h.v] [] v [] := by
  simp only [rcZ, Option.some.injEq] at hv
  subst hv
  refine exT_ok okal Try.func59 (by kernel_rfl) ((rcE0 h).trans ?_)
  cases h.ixk != 0 <;> rfl
def Cam (P : Program) : Cx := ((Cal P).addE 57 (ghF alwB acA acZ)).addE 59 (ghF alwB rcA rcZ)
theorem okam : CxOk (Cam Try.prog) := Cx.addE_ok (Cx.addE_ok okal (ghF_ok acS acS0)) (ghF_ok rcS rcS0)
/-- The two checks are one. -/
theorem ixk_vals (h : V3) : h.ixk = 0 ∨ h.ixk = 1 := by unfold V3.ixk; cases inB 512 h.l <;> simp
theorem chk_vals (X : List O3) : chkI X = 0 ∨ 1 < chkI X := by
  unfold chkI
  cases clsOk X with
  | true =>
    simp only
    cases !(sameB (clsG X) X)
    · left; rfl
    · right; show (1 : Int) < 5; omega
  | false =>
    simp only
    right
    unfold clsErr
    by_cases h0 : ckMaps X = 0
    · rw [h0]; decide
    · rw [(bif_beq h0).1]
      unfold ckMaps at h0 ⊢
      by_cases hl : (X.length : Int) > 192
      · rw [if_pos hl]; decide
      · rw [if_neg hl] at h0 ⊢
        show 1 < leastL X 0
        have key : ∀ (l : List O3) (e : Int), (e = 0 ∨ 1 < e) → leastL l e = 0 ∨ 1 < leastL l e := by
          intro l
          induction l with
          | nil => intro e he; exact he
          | cons o l ih =>
            intro e he
            refine ih _ ?_
            have ho : o.ck = 0 ∨ 1 < o.ck := by rcases O3.ck_cases o with h | h | h <;> rw [h] <;> simp
            unfold leastN
            rcases he with rfl | he
            · simpa using ho
            · have e0 : (e == 0) = false := by simp; omega
              rw [e0]
              rcases ho with ho | ho
              · rw [ho]; right; simpa using he
              · have e1 : (o.ck != 0) = true := by simp; omega
                rw [e1]
                simp only
                cases decide (o.ck < e) <;> right <;> assumption
        rcases key X 0 (Or.inl rfl) with h | h
        · exact absurd h h0
        · exact h
theorem ac_rc (X : List O3) (h : V3) : rcI X h = acI X h := by
  unfold rcI acI
  rcases ixk_vals h with e | e <;> rw [e]
  · rfl
  · rcases chk_vals X with k | k
    · rw [k]; rfl
    · have h1 : (chkI X != 0) = true := by simp; omega
      have h2 : decide (chkI X < 1) = false := by simp; omega
      unfold leastN
      rw [h1, h2]; rfl
theorem ac_rc0 (h : V3) : (bif h.ixk != 0 then (1 : Int) else 5) = leastN h.ixk 5 := by
  rcases ixk_vals h with e | e <;> rw [e] <;> rfl
end Go.Proofs.Ytjpfnfckpgilgaa


namespace Go.Proofs.Ytjpfnfckpgilgaa
open Go Vx Go.RowKit

def rsB (P : Program) : Code := bodyOf P 58
theorem rsB_eq : Try.f58.body = some (rsB Try.prog) := by kernel_rfl
def rsE (own : Bool) (n : Nat) (xs : List O3) (h : V3) : St := stOf 33 [(0, .slice (some ⟨0, 0, some 0⟩) n 12), (3, .pointer (some ⟨1, 0, none⟩)), (4, .pointer (some ⟨2, 0, none⟩)), (5, .bool false)] [.rows own true 12 n (opRow xs), .cells true 0 h.cells, .cells true 0 O3.zero.cells]
def rsH (own : Bool) (n : Nat) (xs : List O3) (h : V3) (i : Int) : St := stOf 33 [(3, .pointer (some ⟨1, 0, none⟩)), (4, .pointer (some ⟨2, 0, none⟩)), (5, .bool false), (10, .slice (some ⟨0, 0, some 0⟩) n 12), (11, vI n), (12, vI i)] [.rows own true 12 n (opRow xs), .cells true 0 h.cells, .cells true 0 O3.zero.cells]
def rsX (own : Bool) (n : Nat) (xs : List O3) (_ : V3) (i : Int) : St := stOf 33 [(4, .pointer (some ⟨1, 0, none⟩)), (5, .bool true)] [.rows own true 12 n (opRow xs), .cells true 0 (atO xs i).cells]
def rsZ (own : Bool) (n : Nat) (xs : List O3) (_ : V3) : St := stOf 33 [(4, .pointer (some ⟨1, 0, none⟩)), (5, .bool false)] [.rows own true 12 n (opRow xs), .cells true 0 O3.zero.cells]
def rsY (own : Bool) (n : Nat) (xs : List O3) (_ : V3) : St := stOf 33 [(4, .pointer (some ⟨1, 0, none⟩)), (5, .bool false)] [.rows own true 12 n (opRow xs), .cells true 0 O3.zero.cells]
theorem rsP (own : Bool) (n : Nat) (xs : List O3) (h : V3) : segR ((Cam Try.prog).into 58 1) 60 1 (rsB Try.prog) [0, 3, 4, 5] [.fix 0, .slot 3, .slot 4] (enter Try.f58 [.slice (some ⟨0, 0, some 0⟩) n 12, h.v] [.rows own true 12 n (opRow xs)]) = some (rsE own n xs h) := by kernel_rfl
theorem rsFor : isFor 0 (stmt 1 (rsB Try.prog)) = true := by kernel_rfl
theorem rsHas : hasStmt 1 (rsB Try.prog) = true := by kernel_rfl
theorem rsHd (own : Bool) (n : Nat) (xs : List O3) (h : V3) : roundR ((Cam Try.prog).into 58 1) 60 (forHead (stmt 1 (rsB Try.prog))) [3, 4, 5, 10, 11, 12] [3, 4, 5, 10, 11, 12] [.fix 0, .slot 3, .slot 4] [.fix 0, .slot 3, .slot 4] (rsE own n xs h) = some (.normal, rsH own n xs h 0) := by kernel_rfl
theorem rsR (own : Bool) (n : Nat) (xs : List O3) (h : V3) (i : Nat) : roundR ((Cam Try.prog).into 58 1) 60 (forBody (stmt 1 (rsB Try.prog))) [3, 4, 5, 10, 11, 12] [4, 5] [.fix 0, .slot 3, .slot 4] [.fix 0, .slot 4] (rsH own n xs h (i : Int)) =
    (match decide ((i : Int) < (n : Int)) with
    | true => gd (boundsI (i : Int) n) (match !((rowI h (atO xs (i : Int)).r).eqB h) with
      | true => some (.normal, rsH own n xs h (W ((i : Int) + 1)))
      | false => match phV (atO xs (i : Int)) h != 0 with
        | true => some (.ret, rsX own n xs h (i : Int))
        | false => some (.normal, rsH own n xs h (W ((i : Int) + 1))))
    | false => some (.exit 0, rsZ own n xs h)) := by kernel_rfl
theorem rsEnd (own : Bool) (n : Nat) (xs : List O3) (h : V3) : roundR ((Cam Try.prog).into 58 1) 60 (seqDrop 2 (rsB Try.prog)) [4, 5] [4, 5] [.fix 0, .slot 4] [.fix 0, .slot 4] (rsZ own n xs h) = some (.ret, rsY own n xs h) := by kernel_rfl
def rst (X : List O3) (h : V3) (i : Nat) : Bool := (rowI h (atO X (i : Int)).r).eqB h && phV (atO X (i : Int)) h != 0
set_option maxRecDepth 100000 in
theorem rsIn : InBody ((Cam Try.prog).into 58 1) (forHead (stmt 1 (rsB Try.prog))) ∧ InBody ((Cam Try.prog).into 58 1) (forBody (stmt 1 (rsB Try.prog))) := for_in (C := Cam Try.prog) (f := 58) (B := 1) (id := 0) (k := 1) (fn := Try.f58) (b := rsB Try.prog) Try.func58 rsB_eq rsFor
theorem rsRX (own : Bool) (xs : List O3) (h : V3) (i : Nat) : (retA Try.prog Try.f58 (.ret, rsX own xs.length xs h (i : Int))).res.bind (fun vm => (tidyA 1 [.fix 0] vm).res) = some (p2 (atO xs (i : Int)).v (.bool true), [.rows own true 12 xs.length (opRow xs)]) := by kernel_rfl
theorem rsRZ (own : Bool) (xs : List O3) (h : V3) : (retA Try.prog Try.f58 (.ret, rsY own xs.length xs h)).res.bind (fun vm => (tidyA 1 [.fix 0] vm).res) = some (p2 O3.zero.v (.bool false), [.rows own true 12 xs.length (opRow xs)]) := by kernel_rfl
theorem rsL (own : Bool) (xs : List O3) (h : V3) (hn : (xs.length : Int) ≤ 9000000000000000000) :
    (∀ k, fst? (rst xs h) xs.length 0 = some k → LoopSem Try.prog 1 (forBody (stmt 1 (rsB Try.prog))) (rsH own xs.length xs h 0) .ret (rsX own xs.length xs h (k : Int))) ∧ (fst? (rst xs h) xs.length 0 = none → LoopSem Try.prog 1 (forBody (stmt 1 (rsB Try.prog))) (rsH own xs.length xs h 0) (.exit 0) (rsZ own xs.length xs h)) := by
  refine scan_loop (C := Cam Try.prog) okam (f := 58) (B := 1) (m := 60) rsIn.2 hn (fun i => rsH own xs.length xs h i) (rst xs h) (fun k => rsX own xs.length xs h (k : Int)) 0 (rsZ own xs.length xs h) (mask := [3, 4, 5, 10, 11, 12]) (mout := [4, 5]) (sp := [.fix 0, .slot 3, .slot 4]) (so := [.fix 0, .slot 4]) fun i hi => ?_
  refine (rsR own xs.length xs h i).trans ?_
  unfold rst
  cases decide ((i : Int) < (xs.length : Int)) <;> cases (rowI h (atO xs (i : Int)).r).eqB h <;> cases phV (atO xs (i : Int)) h != 0 <;> rfl
/-- The answer. -/
theorem rsM (own : Bool) (xs : List O3) (h : V3) (hn : (xs.length : Int) ≤ 9000000000000000000) (_ : True) :
    MemSem Try.prog 58 [.slice (some ⟨0, 0, some 0⟩) xs.length 12, h.v] [.rows own true 12 xs.length (opRow xs)] (match fst? (rst xs h) xs.length 0 with
      | some i => p2 (atO xs (i : Int)).v (.bool true)
      | none => p2 O3.zero.v (.bool false)) [.rows own true 12 xs.length (opRow xs)] := by
  have r1 := rsP own xs.length xs h
  have hl := rsL own xs h hn
  have body0 : InBody ((Cam Try.prog).into 58 1) (rsB Try.prog) := Or.inl ⟨Try.f58, rsB Try.prog, Try.func58, rsB_eq, fun _ hx => hx⟩
  have hd := end_rule (C := Cam Try.prog) okam (f := 58) (B := 1) rsIn.1 (rsHd own xs.length xs h)
  cases hf : fst? (rst xs h) xs.length 0 with
  | some k =>
    have hx := rsRX own xs h k
    obtain ⟨⟨v1, m1⟩, x1, x2⟩ := Option.bind_eq_some_iff.1 hx
    exact (body_mem (P := Try.prog) (f := 58) (m := [.rows own true 12 xs.length (opRow xs)]) Try.func58 rsB_eq (by kernel_rfl) (seg_rule (C := Cam Try.prog) okam (f := 58) (B := 1) (k := 1) body0 r1 (stmt_out rsHas (for_ret rsFor hd (hl.1 k hf)) (by simp))) x1).tidy x2
  | none =>
    have hx := rsRZ own xs h
    obtain ⟨⟨v1, m1⟩, x1, x2⟩ := Option.bind_eq_some_iff.1 hx
    exact (body_mem (P := Try.prog) (f := 58) (m := [.rows own true 12 xs.length (opRow xs)]) Try.func58 rsB_eq (by kernel_rfl) (seg_rule (C := Cam Try.prog) okam (f := 58) (B := 1) (k := 1) body0 r1 (stmt_rule rsHas (for_rule rsFor hd (hl.2 hf)) (end_rule (C := Cam Try.prog) okam (f := 58) (B := 1) (bodyOf_in Try.func58 rsB_eq) (rsEnd own xs.length xs h)))) x1).tidy x2

def wyB (P : Program) : Code := bodyOf P 61
theorem wyB_eq : Try.f61.body = some (wyB Try.prog) := by kernel_rfl
def wyE (own : Bool) (n : Nat) (xs : List O3) (h : V3) : St := stOf 27 [(0, .slice (some ⟨0, 0, some 0⟩) n 12), (3, .pointer (some ⟨1, 0, none⟩)), (4, vI 0)] [.rows own true 12 n (opRow xs), .cells true 0 h.cells]
def wyH (own : Bool) (n : Nat) (xs : List O3) (h : V3) (i : Int) : St := stOf 27 [(3, .pointer (some ⟨1, 0, none⟩)), (4, vI 0), (7, .slice (some ⟨0, 0, some 0⟩) n 12), (8, vI n), (9, vI i)] [.rows own true 12 n (opRow xs), .cells true 0 h.cells]
def wyX (own : Bool) (n : Nat) (xs : List O3) (_ : V3) (i : Int) : St := stOf 27 [(4, vI i)] [.rows own true 12 n (opRow xs)]
def wyZ (own : Bool) (n : Nat) (xs : List O3) (_ : V3) : St := stOf 27 [(4, vI 0)] [.rows own true 12 n (opRow xs)]
def wyY (own : Bool) (n : Nat) (xs : List O3) (_ : V3) : St := stOf 27 [(4, vI (-1))] [.rows own true 12 n (opRow xs)]
theorem wyP (own : Bool) (n : Nat) (xs : List O3) (h : V3) : segR ((Cam Try.prog).into 61 1) 60 1 (wyB Try.prog) [0, 3, 4] [.fix 0, .slot 3] (enter Try.f61 [.slice (some ⟨0, 0, some 0⟩) n 12, h.v] [.rows own true 12 n (opRow xs)]) = some (wyE own n xs h) := by kernel_rfl
theorem wyFor : isFor 0 (stmt 1 (wyB Try.prog)) = true := by kernel_rfl
theorem wyHas : hasStmt 1 (wyB Try.prog) = true := by kernel_rfl
theorem wyHd (own : Bool) (n : Nat) (xs : List O3) (h : V3) : roundR ((Cam Try.prog).into 61 1) 60 (forHead (stmt 1 (wyB Try.prog))) [3, 4, 7, 8, 9] [3, 4, 7, 8, 9] [.fix 0, .slot 3] [.fix 0, .slot 3] (wyE own n xs h) = some (.normal, wyH own n xs h 0) := by kernel_rfl
theorem wyR (own : Bool) (n : Nat) (xs : List O3) (h : V3) (i : Nat) : roundR ((Cam Try.prog).into 61 1) 60 (forBody (stmt 1 (wyB Try.prog))) [3, 4, 7, 8, 9] [4] [.fix 0, .slot 3] [.fix 0] (wyH own n xs h (i : Int)) =
    (match decide ((i : Int) < (n : Int)) with
    | true => gd (boundsI (i : Int) n) (match (rowI h (atO xs (i : Int)).r).eqB h with
      | true => match phI (atO xs (i : Int)) h != 0 with
        | true => some (.ret, wyX own n xs h (i : Int))
        | false => some (.normal, wyH own n xs h (W ((i : Int) + 1)))
      | false => some (.normal, wyH own n xs h (W ((i : Int) + 1))))
    | false => some (.exit 0, wyZ own n xs h)) := by kernel_rfl
theorem wyEnd (own : Bool) (n : Nat) (xs : List O3) (h : V3) : roundR ((Cam Try.prog).into 61 1) 60 (seqDrop 2 (wyB Try.prog)) [4] [4] [.fix 0] [.fix 0] (wyZ own n xs h) = some (.ret, wyY own n xs h) := by kernel_rfl
def wyt (X : List O3) (h : V3) (i : Nat) : Bool := (rowI h (atO X (i : Int)).r).eqB h && phI (atO X (i : Int)) h != 0
set_option maxRecDepth 100000 in
theorem wyIn : InBody ((Cam Try.prog).into 61 1) (forHead (stmt 1 (wyB Try.prog))) ∧ InBody ((Cam Try.prog).into 61 1) (forBody (stmt 1 (wyB Try.prog))) := for_in (C := Cam Try.prog) (f := 61) (B := 1) (id := 0) (k := 1) (fn := Try.f61) (b := wyB Try.prog) Try.func61 wyB_eq wyFor
theorem wyRX (own : Bool) (xs : List O3) (h : V3) (i : Nat) : (retA Try.prog Try.f61 (.ret, wyX own xs.length xs h (i : Int))).res.bind (fun vm => (tidyA 1 [.fix 0] vm).res) = some (vI (i : Int), [.rows own true 12 xs.length (opRow xs)]) := by kernel_rfl
theorem wyRZ (own : Bool) (xs : List O3) (h : V3) : (retA Try.prog Try.f61 (.ret, wyY own xs.length xs h)).res.bind (fun vm => (tidyA 1 [.fix 0] vm).res) = some (vI (-1), [.rows own true 12 xs.length (opRow xs)]) := by kernel_rfl
theorem wyL (own : Bool) (xs : List O3) (h : V3) (hn : (xs.length : Int) ≤ 9000000000000000000) :
    (∀ k, fst? (wyt xs h) xs.length 0 = some k → LoopSem Try.prog 1 (forBody (stmt 1 (wyB Try.prog))) (wyH own xs.length xs h 0) .ret (wyX own xs.length xs h (k : Int))) ∧ (fst? (wyt xs h) xs.length 0 = none → LoopSem Try.prog 1 (forBody (stmt 1 (wyB Try.prog))) (wyH own xs.length xs h 0) (.exit 0) (wyZ own xs.length xs h)) := by
  refine scan_loop (C := Cam Try.prog) okam (f := 61) (B := 1) (m := 60) wyIn.2 hn (fun i => wyH own xs.length xs h i) (wyt xs h) (fun k => wyX own xs.length xs h (k : Int)) 0 (wyZ own xs.length xs h) (mask := [3, 4, 7, 8, 9]) (mout := [4]) (sp := [.fix 0, .slot 3]) (so := [.fix 0]) fun i hi => ?_
  refine (wyR own xs.length xs h i).trans ?_
  unfold wyt
  cases decide ((i : Int) < (xs.length : Int)) <;> cases (rowI h (atO xs (i : Int)).r).eqB h <;> cases phI (atO xs (i : Int)) h != 0 <;> rfl
/-- The answer. -/
theorem wyM (own : Bool) (xs : List O3) (h : V3) (hn : (xs.length : Int) ≤ 9000000000000000000) (_ : True) :
    MemSem Try.prog 61 [.slice (some ⟨0, 0, some 0⟩) xs.length 12, h.v] [.rows own true 12 xs.length (opRow xs)] (match fst? (wyt xs h) xs.length 0 with
      | some i => vI (i : Int)
      | none => vI (-1)) [.rows own true 12 xs.length (opRow xs)] := by
  have r1 := wyP own xs.length xs h
  have hl := wyL own xs h hn
  have body0 : InBody ((Cam Try.prog).into 61 1) (wyB Try.prog) := Or.inl ⟨Try.f61, wyB Try.prog, Try.func61, wyB_eq, fun _ hx => hx⟩
  have hd := end_rule (C := Cam Try.prog) okam (f := 61) (B := 1) wyIn.1 (wyHd own xs.length xs h)
  cases hf : fst? (wyt xs h) xs.length 0 with
  | some k =>
    have hx := wyRX own xs h k
    obtain ⟨⟨v1, m1⟩, x1, x2⟩ := Option.bind_eq_some_iff.1 hx
    exact (body_mem (P := Try.prog) (f := 61) (m := [.rows own true 12 xs.length (opRow xs)]) Try.func61 wyB_eq (by kernel_rfl) (seg_rule (C := Cam Try.prog) okam (f := 61) (B := 1) (k := 1) body0 r1 (stmt_out wyHas (for_ret wyFor hd (hl.1 k hf)) (by simp))) x1).tidy x2
  | none =>
    have hx := wyRZ own xs h
    obtain ⟨⟨v1, m1⟩, x1, x2⟩ := Option.bind_eq_some_iff.1 hx
    exact (body_mem (P := Try.prog) (f := 61) (m := [.rows own true 12 xs.length (opRow xs)]) Try.func61 wyB_eq (by kernel_rfl) (seg_rule (C := Cam Try.prog) okam (f := 61) (B := 1) (k := 1) body0 r1 (stmt_rule wyHas (for_rule wyFor hd (hl.2 hf)) (end_rule (C := Cam Try.prog) okam (f := 61) (B := 1) (bodyOf_in Try.func61 wyB_eq) (wyEnd own xs.length xs h)))) x1).tidy x2
/-- The answers. -/
def rsA (X : List O3) (h : V3) : Value := match fst? (rst X h) X.length 0 with
  | some i => p2 (atO X (i : Int)).v (.bool true)
  | none => p2 O3.zero.v (.bool false)
def rsO (X : List O3) (h : V3) : O3 := match fst? (rst X h) X.length 0 with
  | some i => atO X (i : Int)
  | none => O3.zero
def rsb (X : List O3) (h : V3) : Bool := match fst? (rst X h) X.length 0 with
  | some _ => true
  | none => false
def rsV (X : List O3) (h : V3) : Value := p2 (rsO X h).v (.bool (rsb X h))
theorem rsA_eq (X : List O3) (h : V3) : rsA X h = rsV X h := by
  unfold rsA rsV rsO rsb
  cases fst? (rst X h) X.length 0 <;> rfl
def wyI (X : List O3) (h : V3) : Int := match fst? (wyt X h) X.length 0 with
  | some i => (i : Int)
  | none => -1
def wyV (X : List O3) (h : V3) : Value := vI (wyI X h)
def lenB (X : List O3) (_ : V3) : Bool := decide ((X.length : Int) ≤ 9000000000000000000)
theorem rsS (own : Bool) (X : List O3) (h : V3) (hk : lenB X h = true) : MemSem Try.prog 58 [.slice (some ⟨0, 0, some 0⟩) X.length 12, h.v] [.rows own true 12 X.length (opRow X)] (rsV X h) [.rows own true 12 X.length (opRow X)] := by
  have := rsM own X h (of_decide_eq_true hk) trivial
  rw [← rsA_eq]
  exact this
theorem wyS (own : Bool) (X : List O3) (h : V3) (hk : lenB X h = true) : MemSem Try.prog 61 [.slice (some ⟨0, 0, some 0⟩) X.length 12, h.v] [.rows own true 12 X.length (opRow X)] (wyV X h) [.rows own true 12 X.length (opRow X)] := by
  have := wyM own X h (of_decide_eq_true hk) trivial
  have e : wyV X h = (match fst? (wyt X h) X.length 0 with
      | some i => vI (i : Int)
      | none => vI (-1)) := by unfold wyV wyI; cases fst? (wyt X h) X.length 0 <;> rfl
  rw [e]
  exact this
def noZ (_ : V3) : Option Value := none
def Can (P : Program) : Cx := ((Cam P).addE 58 (ghF lenB rsV noZ)).addE 61 (ghF lenB wyV noZ)
theorem okan : CxOk (Can Try.prog) := Cx.addE_ok (Cx.addE_ok okam (ghF_ok rsS fun _ _ h => by cases h)) (ghF_ok wyS fun _ _ h => by cases h)
end Go.Proofs.Ytjpfnfckpgilgaa
