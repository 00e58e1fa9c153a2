/-
  What the executor says of an operation that is no call, the machine does. Nothing here is trusted.
-/
import Derived.Test.YtokdjjdmmahbiaaVy8b
namespace Go.Proofs.Ytokdjjdmmahbiaa.Vx
open Go Go.RowKit

section
variable {P : Program} {w0 : World} {keep : Keep} {r : Ren} {tm : List Value} {m m' : Mem} {a : Act} {w : World} {cs : CallsX} {pos : Pos} {v : Value} {e : Eff} {cls : Nat}

/-- The bounds of a slice expression. -/
theorem bounds_run (hr : RelAt w0 keep r ⟨tm, m⟩ a w) {lo hi : Option Operand} {len cap h l : Nat} (hn : len ≤ cap) (hh : (sliceHi tm hi len).res = some h)
    (hl : (lo = none ∧ l = 0) ∨ ∃ x kd i, lo = some x ∧ ev tm x = .int kd i ∧ 0 ≤ i ∧ i ≤ (h : Int) ∧ l = i.toNat) (isS : Bool) :
    h ≤ len ∧ (Instr.sliceBounds isS len cap (lo.map a.eval) (hi.map a.eval) none).run P w = .ok (l, h, cap) w := by
  have hlow : ∀ x kd i, ev tm x = .int kd i → 0 ≤ i → i ≤ (h : Int) → ∀ code, (Instr.sliceBound (a.eval x) h code).run P w = .ok i.toNat w := by
    intro x kd i he b1 b2 code
    have hx := eval_R hr x
    simp only at hx
    rw [he] at hx
    simp only [R_int hx, Instr.sliceBound, asIntOf, Sem.run_bind, Sem.run_pure, Result.andThen_ok]
    rw [if_pos ⟨b1, b2⟩]
    rfl
  unfold sliceHi at hh
  cases hi with
  | none =>
    simp only [Ans.res, Option.some.injEq] at hh
    subst hh
    refine ⟨Nat.le_refl _, ?_⟩
    rcases hl with ⟨rfl, rfl⟩ | ⟨x, kd, i, rfl, he, b1, b2, rfl⟩
    · rfl
    · simp only [Instr.sliceBounds, Option.map_none, Option.map_some, Sem.run_bind, Sem.run_pure, Result.andThen_ok, hlow x kd i he b1 b2]
  | some x =>
    simp only at hh
    have hx := eval_R hr x
    simp only at hx
    split at hh
    · rename_i kd i hq
      rw [hq] at hx
      have hx' := R_int hx
      rcases Ans.br_some hh with ⟨hb, hh⟩ | ⟨hb, hh⟩
      · simp only [Ans.res, Option.some.injEq] at hh
        subst hh
        obtain ⟨b1, b2⟩ := leI_iff hb
        refine ⟨by omega, ?_⟩
        have hb2 : ∀ code, (Instr.sliceBound (.int kd i) cap code).run P w = .ok i.toNat w := fun code => by
          simp only [Instr.sliceBound, asIntOf, Sem.run_bind, Sem.run_pure, Result.andThen_ok]
          rw [if_pos ⟨b1, by omega⟩]
          rfl
        rcases hl with ⟨rfl, rfl⟩ | ⟨x, kd, i', rfl, he, c1, c2, rfl⟩
        · simp only [Instr.sliceBounds, Option.map_none, Option.map_some, hx', Sem.run_bind, Sem.run_pure, Result.andThen_ok, hb2]
        · simp only [Instr.sliceBounds, Option.map_some, hx', Sem.run_bind, Sem.run_pure, Result.andThen_ok, hb2, hlow x kd i' he c1 c2]
      · simp [Ans.res] at hh
    · simp [Ans.res] at hh

theorem act_slice {o : Oper} {t : TypeId} {x : Operand} {lo hi mx : Option Operand} (ho : o.op = .slice t x lo hi mx) (hr : RelAt w0 keep r ⟨tm, m⟩ a w) (h : (effOf0 P cs tm o).res = some e) (g : (runE cls pos m e).res = some (v, m')) : Ran P w0 keep r a w o v m' := by
  unfold effOf0 at h
  simp only [ho] at h
  cases mx with
  | some mx => simp [Ans.res] at h
  | none =>
    simp only at h
    have hx := eval_R hr x
    simp only at hx
    split at h
    · rename_i q n el hq hu
      rw [hq] at hx
      obtain ⟨q', hq', hl⟩ := R_ptr hx
      split at h
      · rename_i j hj
        simp only [Ans.res, Option.some.injEq] at h
        subst h
        obtain ⟨k, h1, h2, rfl⟩ := readE g
        split at h2
        · rename_i ow esz c
          split at h2
          · rename_i hb
            simp only [Bool.and_eq_true] at hb
            simp only [Ans.res, Option.some.injEq] at h2
            subst h2
            have hz : esz = 0 := Nat.eq_of_beq_eq_true hb.1
            have hn : 0 < n := Nat.blt_eq.mp hb.2.1
            have hsp : q.spot = none := by
              have := hb.2.2
              revert this
              cases q.spot <;> simp
            obtain ⟨p, hp, rfl, hh, hk⟩ := live_of hr h1 hl (by simp)
            have hpe : p.esz = 0 := hk.2.1.trans hz
            refine Ran.val hr (v' := .slice (some (p.addr q)) n n) ?_ (R_sl_mk (Nat.le_refl _) (Or.inr ⟨p, hp, rfl, Nat.le_refl _, fun i hi => (by rw [hsp] at hi; cases hi), fun h => absurd hpe h, fun h => absurd hsp h, fun _ h => absurd hpe h⟩))
            simp only [execOp, ho, hq', Instr.sliceAt, Option.map_none]
            refine run_value ?_
            simp only [Sem.run_bind, underlying_run hu, Result.andThen_ok, sure, Instr.sliceBounds, Sem.run_pure, sizeOf_run hj]
            rw [if_neg (by omega)]
            simp [Addr.add]
          · simp [Ans.res] at h2
        · simp [Ans.res] at h2
      · simp [Ans.res] at h
    · rename_i q len c el hq hu
      rw [hq] at hx
      obtain ⟨q', c', hq', hnc, hl⟩ := R_sl hx
      split at h
      · rename_i j hj
        split at h
        · rename_i hc
          have hc' : j.size = c := Nat.eq_of_beq_eq_true hc
          obtain ⟨hh, h1, h2⟩ := Ans.bind_some h
          split at h2
          · simp only [Ans.res, Option.some.injEq] at h2
            subst h2
            obtain ⟨rfl, rfl⟩ := valE g
            obtain ⟨hle, hrun⟩ := bounds_run (P := P) (lo := none) hr hnc h1 (Or.inl ⟨rfl, rfl⟩) true
            refine Ran.val hr (v' := .slice (some q') hh c') ?_ ?_
            · simp only [execOp, ho, hq', Instr.sliceAt]
              refine run_value ?_
              simp only [Option.map_none] at hrun
              simp only [Option.map_none, Sem.run_bind, underlying_run hu, Result.andThen_ok, Instr.slice, hrun, sizeOf_run hj]
              by_cases h0 : c' = 0
              · simp [h0]
              · simp [h0, Addr.add]
            · refine R_sl_mk (by omega) ?_
              rcases hl with hl | ⟨p, hp, rfl, hs⟩
              · exact Or.inl hl
              · exact Or.inr ⟨p, hp, rfl, by omega, fun i hi => by have := hs.2.1 i hi; omega, hs.2.2.1, hs.2.2.2.1, hs.2.2.2.2⟩
          · rename_i xl
            have hxl := eval_R hr xl
            simp only at hxl
            split at h2
            · rename_i kd i hi
              rw [hi] at hxl
              rcases Ans.br_some h2 with ⟨hb, h2⟩ | ⟨hb, h2⟩
              · obtain ⟨b1, b2⟩ := leI_iff hb
                obtain ⟨hle, hrun⟩ := bounds_run (P := P) (lo := some xl) hr hnc h1 (Or.inr ⟨xl, kd, i, rfl, hi, b1, b2, rfl⟩) true
                rcases Ans.br_some h2 with ⟨hb3, h2⟩ | ⟨hb4, h2⟩
                rotate_left
                · simp only [Ans.res, Option.some.injEq] at h2
                  subst h2
                  obtain ⟨rfl, rfl⟩ := valE g
                  have hz : hh - i.toNat = 0 := by
                    have : ¬ i < (len : Int) := by simpa using hb4
                    omega
                  refine Ran.val hr (v' := .slice (if c' = i.toNat then some q' else (some q').map (·.add (i.toNat * j.size))) (hh - i.toNat) (c' - i.toNat)) ?_ (R_emp.2 (by rw [hz]; by_cases he : c' = i.toNat <;> simp [he]))
                  simp only [execOp, ho, hq', Instr.sliceAt]
                  refine run_value ?_
                  simp only [Option.map_none, Sem.run_bind, underlying_run hu, Result.andThen_ok, Instr.slice, hrun, sizeOf_run hj]
                  rfl
                simp only [Ans.res, Option.some.injEq] at h2
                subst h2
                obtain ⟨rfl, rfl⟩ := valE g
                have b3 : i < (len : Int) := by simpa using hb3
                refine Ran.val hr (v' := .slice (some (q'.add (i.toNat * j.size))) (hh - i.toNat) (c' - i.toNat)) ?_ ?_
                · simp only [execOp, ho, hq', Instr.sliceAt]
                  refine run_value ?_
                  simp only [Option.map_none, Sem.run_bind, underlying_run hu, Result.andThen_ok, Instr.slice, hrun, sizeOf_run hj]
                  rw [if_neg (by omega)]
                  rfl
                · refine R_sl_mk (by omega) ?_
                  rw [onto_block]
                  rcases hl with hl | ⟨p, hp, rfl, hs⟩
                  · exact Or.inl hl
                  · have had : (p.addr q).add (i.toNat * j.size) = p.addr (Addr.onto q j.size i.toNat) := by
                      rw [onto_addr (fun hs' => by rw [hc']; exact hs.2.2.2.1 hs')]
                      have : p.addr q = ⟨p.blk, (p.addr q).off, none⟩ := rfl
                      rw [this, add_none]
                    refine Or.inr ⟨p, hp, had, by omega, onto_has hs.2.1 (by omega), hs.2.2.1, fun h => hs.2.2.2.1 (onto_spot h), fun h0 h1 => ?_⟩
                    have := hs.2.2.2.2 h0 h1
                    rw [← had]
                    have e1 : p.addr q = ⟨p.blk, (p.addr q).off, none⟩ := rfl
                    rw [e1, add_none]
                    simp only
                    rw [hc', ← hs.2.2.1 h1]
                    have : i.toNat * p.esz + (c' - i.toNat) * p.esz = c' * p.esz := by rw [← Nat.add_mul]; congr 1; omega
                    omega
              · simp [Ans.res] at h2
            · simp [Ans.res] at h2
        · simp [Ans.res] at h
      · simp [Ans.res] at h
    · rename_i el hq hu
      rw [hq] at hx
      have hx' : a.eval x = .slice none 0 0 := (R_plain (v := .slice none 0 0) rfl).1 hx
      split at h
      rotate_left
      · simp [Ans.res] at h
      rename_i j hj
      obtain ⟨hh, h1, h2⟩ := Ans.bind_some h
      split at h2
      · simp only [Ans.res, Option.some.injEq] at h2
        subst h2
        obtain ⟨rfl, rfl⟩ := valE g
        obtain ⟨hle, hrun⟩ := bounds_run (P := P) (lo := none) hr (Nat.le_refl 0) h1 (Or.inl ⟨rfl, rfl⟩) true
        have h0 : hh = 0 := by omega
        subst h0
        refine Ran.val hr (v' := .slice none 0 0) ?_ rfl
        simp only [execOp, ho, hx', Instr.sliceAt]
        refine run_value ?_
        simp only [Option.map_none] at hrun
        simp only [Option.map_none, Sem.run_bind, underlying_run hu, Result.andThen_ok, Instr.slice, hrun, sizeOf_run hj]
        rfl
      · rename_i y
        split at h2
        · rename_i kd i hq2
          rcases Ans.br_some h2 with ⟨hb, h2⟩ | ⟨hb, h2⟩
          · simp only [Ans.res, Option.some.injEq] at h2
            subst h2
            obtain ⟨rfl, rfl⟩ := valE g
            obtain ⟨b1, b2⟩ := leI_iff hb
            obtain ⟨hle, hrun⟩ := bounds_run (P := P) (lo := some y) hr (Nat.le_refl 0) h1 (Or.inr ⟨y, kd, i, rfl, hq2, b1, b2, rfl⟩) true
            have h0 : hh = 0 := by omega
            subst h0
            have hi0 : i.toNat = 0 := by omega
            refine Ran.val hr (v' := .slice none 0 0) ?_ rfl
            simp only [execOp, ho, hx', Instr.sliceAt]
            refine run_value ?_
            simp only [Option.map_some] at hrun
            simp only [Option.map_some, Option.map_none, Sem.run_bind, underlying_run hu, Result.andThen_ok, Instr.slice, hrun, sizeOf_run hj]
            simp [hi0]
          · simp [Ans.res] at h2
        · simp [Ans.res] at h2
    · rename_i s hq hu
      rw [hq] at hx
      have hx' := R_str hx
      obtain ⟨hh, h1, h2⟩ := Ans.bind_some h
      split at h2
      · simp only [Ans.res, Option.some.injEq] at h2
        subst h2
        obtain ⟨rfl, rfl⟩ := valE g
        obtain ⟨hle, hrun⟩ := bounds_run (P := P) (lo := none) hr (Nat.le_refl s.size) h1 (Or.inl ⟨rfl, rfl⟩) false
        refine Ran.val hr (v' := .string (s.extract 0 hh)) ?_ rfl
        simp only [execOp, ho, hx', Instr.sliceAt]
        refine run_value ?_
        simp only [Option.map_none] at hrun
        simp only [Option.map_none, Sem.run_bind, underlying_run hu, Result.andThen_ok, Instr.slice, hrun, Option.isSome_none, Bool.false_eq_true, if_false]
        rfl
      · rename_i xl
        have hxl := eval_R hr xl
        simp only at hxl
        split at h2
        · rename_i kd i hi
          rw [hi] at hxl
          have hxl' := R_int hxl
          rcases Ans.br_some h2 with ⟨hb, h2⟩ | ⟨hb, h2⟩
          · simp only [Ans.res, Option.some.injEq] at h2
            subst h2
            obtain ⟨rfl, rfl⟩ := valE g
            obtain ⟨b1, b2⟩ := leI_iff hb
            obtain ⟨hle, hrun⟩ := bounds_run (P := P) (lo := some xl) hr (Nat.le_refl s.size) h1 (Or.inr ⟨xl, kd, i, rfl, hi, b1, b2, rfl⟩) false
            refine Ran.val hr (v' := .string (s.extract i.toNat hh)) ?_ rfl
            simp only [execOp, ho, hx', Instr.sliceAt]
            refine run_value ?_
            simp only [Option.map_none, Sem.run_bind, underlying_run hu, Result.andThen_ok, Instr.slice, hrun, Option.isSome_none, Bool.false_eq_true, if_false]
            rfl
          · simp [Ans.res] at h2
        · simp [Ans.res] at h2
    · simp [Ans.res] at h

theorem equalIn_slice {P : Program} {w : World} {t e : TypeId} (hu : P.underlying t = some (.slice e)) (d : Nat) (q : Addr) (n c n2 c2 : Nat) : (Op.equalIn (d + 1) t (.slice (some q) n c) (.slice none n2 c2)).run P w = .ok false w := by
  simp [Op.equalIn, underlying_run hu]
theorem equal_slice {P : Program} {w : World} {t e : TypeId} (hu : P.underlying t = some (.slice e)) (q : Addr) (n c n2 c2 : Nat) : (Op.equal t (.slice (some q) n c) (.slice none n2 c2)).run P w = .ok false w := equalIn_slice hu 9999 q n c n2 c2
theorem act_binOp {o : Oper} {op : BinOp} {t : TypeId} {x y : Operand} {yt : TypeId} (ho : o.op = .binOp op t x y yt) (hr : RelAt w0 keep r ⟨tm, m⟩ a w) (h : (effOf0 P cs tm o).res = some e) (g : (runE cls pos m e).res = some (v, m')) : Ran P w0 keep r a w o v m' := by
  have hoo : { o with op := .binOp op t x y yt } = o := by cases o; simp_all
  unfold effOf0 at h
  simp only [ho] at h
  have hx := eval_R hr x
  have hy := eval_R hr y
  simp only at hx hy
  split at h
  · rename_i xs ys hq hq2
    split at h
    · rename_i hok
      simp only [Bool.and_eq_true] at hok
      split at h
      · rename_i b hb
        simp only [Ans.res, Option.some.injEq] at h
        subst h
        obtain ⟨rfl, rfl⟩ := valE g
        obtain ⟨g1, g2⟩ := eqOk_spec hok.2.2
        refine Ran.val hr (v' := .bool b) ?_ rfl
        simp only [execOp, ho, eval_plain hr hok.1, eval_plain hr hok.2.1, hq, hq2]
        simp only [Sem.run_bind, eqGuard_run (Or.inl rfl) g1, Result.andThen_ok, binOp, equal_run g2 hb, Sem.run_pure]
      · simp [Ans.res] at h
    · simp [Ans.res] at h
  · rename_i xs ys hq hq2
    split at h
    · rename_i hok
      simp only [Bool.and_eq_true] at hok
      split at h
      · rename_i b hb
        simp only [Ans.res, Option.some.injEq] at h
        subst h
        obtain ⟨rfl, rfl⟩ := valE g
        obtain ⟨g1, g2⟩ := eqOk_spec hok.2.2
        refine Ran.val hr (v' := .bool !b) ?_ rfl
        simp only [execOp, ho, eval_plain hr hok.1, eval_plain hr hok.2.1, hq, hq2]
        simp only [Sem.run_bind, eqGuard_run (Or.inr rfl) g1, Result.andThen_ok, binOp, equal_run g2 hb, Sem.run_pure]
      · simp [Ans.res] at h
    · simp [Ans.res] at h
  · rename_i hq hq2
    rw [hq] at hx
    rw [hq2] at hy
    split at h
    · rename_i hu
      simp only [Ans.res, Option.some.injEq] at h
      subst h
      obtain ⟨rfl, rfl⟩ := valE g
      obtain ⟨q', c, hx', -, -⟩ := R_sl hx
      have hy' := (R_plain (r := r) rfl).1 hy
      refine Ran.val hr (v' := .bool false) ?_ rfl
      simp only [execOp, ho, hx', hy']
      refine run_value ?_
      have e1 : ∀ (n c n2 c2 : Nat), (eqGuard .eql t x y (.slice (some q') n c) (.slice none n2 c2)).run P w = .ok () w := fun _ _ _ _ => rfl
      rw [Sem.run_bind, e1]
      simp only [Result.andThen_ok, binOp, Sem.run_bind, equal_slice hu, Sem.run_pure]
    · simp [Ans.res] at h
  · rename_i k i k' j hq hq2
    rw [hq] at hx
    rw [hq2] at hy
    split at h
    · rename_i hk
      have hk' : k = k' := by simpa using hk
      rcases Ans.br_some h with ⟨hb, h⟩ | ⟨hb, h⟩
      · simp [Ans.res] at h
      · simp only [Ans.res, Option.some.injEq] at h
        subst h
        obtain ⟨rfl, rfl⟩ := valE g
        have hb' : j ≠ 0 := by simpa using hb
        refine Ran.val hr (v' := _) ?_ rfl
        simp only [execOp, ho, R_int hx, R_int hy]
        simp [eqGuard, binOp, hk', Op.intDiv, hb']
    · simp [Ans.res] at h
  · rename_i k i k' j hq hq2
    rw [hq] at hx
    rw [hq2] at hy
    split at h
    · rename_i hk
      have hk' : k = k' := by simpa using hk
      rcases Ans.br_some h with ⟨hb, h⟩ | ⟨hb, h⟩
      · simp [Ans.res] at h
      · simp only [Ans.res, Option.some.injEq] at h
        subst h
        obtain ⟨rfl, rfl⟩ := valE g
        have hb' : j ≠ 0 := by simpa using hb
        refine Ran.val hr (v' := _) ?_ rfl
        simp only [execOp, ho, R_int hx, R_int hy]
        simp [eqGuard, binOp, hk', Op.intDiv, hb']
    · simp [Ans.res] at h
  · rename_i s1 s2 hq hq2
    rw [hq] at hx
    rw [hq2] at hy
    split at h
    · rename_i hu
      rcases Ans.br_some h with ⟨hb, h⟩ | ⟨hb, h⟩
      · simp only [Ans.res, Option.some.injEq] at h
        subst h
        obtain ⟨rfl, rfl⟩ := valE g
        have hb' : ((s1.size + s2.size : Nat) : Int) ≤ IntKind.i64.max := by simpa using hb
        refine Ran.val hr (v' := .string (s1 ++ s2)) ?_ rfl
        simp only [execOp, ho, R_str hx, R_str hy]
        refine run_value ?_
        have e1 : (eqGuard .add t x y (.string s1) (.string s2)).run P w = .ok () w := rfl
        rw [Sem.run_bind, e1]
        simp only [Result.andThen_ok, binOp, Op.stringOp]
        rw [if_neg (by omega)]
        rfl
      · simp [Ans.res] at h
    · simp [Ans.res] at h
  · rw [hoo] at h
    split at h
    · rename_i u hu
      simp only [Ans.res, Option.some.injEq] at h
      subst h
      obtain ⟨rfl, rfl⟩ := valE g
      exact opVal_run (by intro cs b; rw [ho]; simp) hu hr
    · simp [Ans.res] at h

theorem act_range {o : Oper} {t : TypeId} {x : Operand} (ho : o.op = .range t x) (hr : RelAt w0 keep r ⟨tm, m⟩ a w) (h : (effOf0 P cs tm o).res = some e) (g : (runE cls pos m e).res = some (v, m')) : Ran P w0 keep r a w o v m' := by
  unfold effOf0 at h
  simp only [ho] at h
  have hx := eval_R hr x
  simp only at hx
  split at h
  · rename_i s hq hu
    rw [hq] at hx
    simp only [Ans.res, Option.some.injEq] at h
    subst h
    obtain ⟨b, hb, rfl, rfl⟩ := makeE g
    refine Ran.push hr hb (p := ⟨w.heap.size, 0, 0, 0, 0, true⟩) rfl rfl (by simp) (ob := .stringIter s 0) (v' := .pointer (some ⟨w.heap.size, 0, none⟩)) ?_ ⟨rfl, rfl, get_push_self _⟩ (R_put_ptr rfl)
    simp only [execOp, ho, R_str hx, Instr.range]
    refine run_value ?_
    simp only [Sem.run_bind, underlying_run hu, Result.andThen_ok, Sem.run_pure, newObj]
    rfl
  · simp [Ans.res] at h

theorem iter_get {b : Nat} {s : ByteArray} {n : Nat} (h : w.heap[b]? = some (.stringIter s n)) : (getObj b).run P w = .ok (.stringIter s n) w := by
  simp only [getObj, Sem.run, h]
theorem iter_set {b : Nat} {s : ByteArray} {n : Nat} (h : w.heap[b]? = some (.stringIter s n)) (o : Obj) : (setObj b o).run P w = .ok () { w with heap := w.heap.setIfInBounds b o } := by
  simp only [setObj, Sem.run, h]
theorem act_next {o : Oper} {it : Operand} {str : Bool} (ho : o.op = .next it str) (hr : RelAt w0 keep r ⟨tm, m⟩ a w) (h : (effOf0 P cs tm o).res = some e) (g : (runE cls pos m e).res = some (v, m')) : Ran P w0 keep r a w o v m' := by
  unfold effOf0 at h
  simp only [ho] at h
  have hx := eval_R hr it
  simp only at hx
  split at h
  · rename_i b hq
    rw [hq] at hx
    obtain ⟨q', hq', hl⟩ := R_ptr hx
    simp only [Ans.res, Option.some.injEq] at h
    subst h
    obtain ⟨k, k', h1, h2, rfl⟩ := updE g
    split at h2
    · rename_i s ps
      obtain ⟨p, hp, rfl, hh, hk⟩ := live_of hr h1 hl (by simp)
      obtain ⟨hown, hoff0, hheap⟩ := hk
      have hpa : p.addr ⟨b, 0, none⟩ = ⟨p.blk, p.off, none⟩ := by simp [Place.addr]
      rcases Ans.br_some h2 with ⟨hb, h2⟩ | ⟨hb, h2⟩
      · simp only [Ans.res, Option.some.injEq, Prod.mk.injEq] at h2
        obtain ⟨rfl, rfl⟩ := h2
        have hlt : ps < s.size := by simpa using hb
        have hoff : p.off = 0 := hoff0
        refine ⟨r, { w with heap := w.heap.setIfInBounds p.blk (.stringIter s (ps + (Utf8.decode s ps).2)) }, .tuple #[.bool true, .int .i64 ps, .int .i32 (Utf8.decode s ps).1], Or.inl ?_, (R_plain rfl).2 rfl, ?_, Ext.refl r⟩
        · simp only [execOp, ho, hq', hpa, hoff, Instr.next]
          refine run_value ?_
          simp only [Sem.run_bind, iter_get hheap, Result.andThen_ok]
          rw [if_pos hlt]
          simp only [Sem.run_bind, iter_set hheap, Result.andThen_ok, Sem.run_pure, goInt]
        · have hlt' := (Array.getElem?_eq_some_iff.1 hheap).1
          refine hr.2.2.turn hp hown (by rw [h1]; exact id) ⟨fun k hk => ?_, by simp, rfl, rfl, rfl, rfl⟩ ⟨hown, hoff0, ?_⟩
          · simp only [Array.getElem?_setIfInBounds]; rw [if_neg (fun e => hk e.symm)]
          · simp [hlt']
      · simp only [Ans.res, Option.some.injEq, Prod.mk.injEq] at h2
        obtain ⟨rfl, rfl⟩ := h2
        have hlt : ¬ ps < s.size := by simpa using hb
        have hoff : p.off = 0 := hoff0
        refine ⟨r, w, .tuple #[.bool false], Or.inl ?_, (R_plain rfl).2 rfl, ?_, Ext.refl r⟩
        · simp only [execOp, ho, hq', hpa, hoff, Instr.next]
          refine run_value ?_
          simp only [Sem.run_bind, iter_get hheap, Result.andThen_ok]
          rw [if_neg hlt]
          rfl
        · exact hr.2.2.turn hp hown (by rw [h1]; exact id) ⟨fun _ _ => rfl, rfl, rfl, rfl, rfl, rfl⟩ ⟨hown, hoff0, hheap⟩
    · simp [Ans.res] at h2
  · simp [Ans.res] at h

theorem act_len {o : Oper} {c : Call} (ho : o.op = .call c) (hc : c.callee = .builtin .len) (hr : RelAt w0 keep r ⟨tm, m⟩ a w) (h : (effOf0 P cs tm o).res = some e) (g : (runE cls pos m e).res = some (v, m')) : Ran P w0 keep r a w o v m' := by
  unfold effOf0 at h
  simp only [ho, hc] at h
  split at h
  · rename_i q n k t hv ht
    split at h
    · rename_i el hu
      simp only [Ans.res, Option.some.injEq] at h
      subst h
      obtain ⟨rfl, rfl⟩ := valE g
      have hargs : ∃ x, c.args.toList = [x] ∧ ev tm x = .slice (some q) n k := by
        revert hv
        cases c.args.toList with
        | nil => simp
        | cons x l => cases l with
          | nil => simp
          | cons y l => simp
      obtain ⟨x, hx, hxv⟩ := hargs
      have hx2 := eval_R hr x
      simp only at hx2
      rw [hxv] at hx2
      obtain ⟨q', c', hq', _, _⟩ := R_sl hx2
      have ha : c.args = #[x] := by apply Array.ext'; simpa using hx
      have hat : c.argTypes = #[t] := by apply Array.ext'; simpa using ht
      refine Ran.val hr (v' := .int .i64 n) ?_ rfl
      simp only [execOp, ho, resolve, hc, ha, hat]
      simp [Sem.run_bind, invoke, builtin, Builtin.len_, underlying_run hu, hq', goInt]
    · simp [Ans.res] at h
  · rename_i t hv ht
    split at h
    · rename_i el hu
      simp only [Ans.res, Option.some.injEq] at h
      subst h
      obtain ⟨rfl, rfl⟩ := valE g
      have hargs : ∃ x, c.args.toList = [x] ∧ ev tm x = emp := by
        revert hv
        cases c.args.toList with
        | nil => simp
        | cons x l => cases l with
          | nil => intro hv; exact ⟨x, rfl, by simpa [emp] using hv⟩
          | cons y l => simp
      obtain ⟨x, hx, hxv⟩ := hargs
      have hx2 := eval_R hr x
      simp only at hx2
      rw [hxv] at hx2
      obtain ⟨q', c', hq'⟩ := R_emp.1 hx2
      have ha : c.args = #[x] := by apply Array.ext'; simpa using hx
      have hat : c.argTypes = #[t] := by apply Array.ext'; simpa using ht
      refine Ran.val hr (v' := .int .i64 0) ?_ rfl
      simp only [execOp, ho, resolve, hc, ha, hat]
      simp [Sem.run_bind, invoke, builtin, Builtin.len_, underlying_run hu, hq', goInt]
    · simp [Ans.res] at h
  · split at h
    · rename_i u hu
      simp only [Ans.res, Option.some.injEq] at h
      subst h
      obtain ⟨rfl, rfl⟩ := valE g
      exact opVal_run (by intro cs b; rw [ho]; simp) hu hr
    · simp [Ans.res] at h

theorem zeroCells_list (z : Array Value) (n : Nat) : (Builtin.zeroCells z n).toList = (List.range (n * z.size)).map fun i => z[i % z.size]! := by
  unfold Builtin.zeroCells
  simp
theorem plain_flat {v : Value} (h : plain0 v = true) : flat v = true := by cases v <;> first | rfl | simp [plain0] at h
theorem clear_rel {w : World} {r : Ren} {p : Place} {pl : Bool} {e n2 : Nat} {row : Nat → List Value} (hk : BlkRel w r p (.rows true pl e n2 row)) {z : Array Value} (hz : z.size = e) (he : 0 < e) (hp : allL plain0 z.toList = true) {q : Addr} {j n : Nat} (hoff : q.off = 0) (hs : q.spot = some j) (hn : 0 < n) (hle : j + n ≤ n2) :
    ∃ w', (storeCells (p.addr q) (Builtin.zeroCells z n).toList).run P w = .ok () w' ∧ Only p.blk w w' ∧ BlkRel w' r p (.rows true pl e n2 fun i => match Nat.ble j i && Nat.blt i (j + n) with
      | true => z.toList
      | false => row i) := by
  obtain ⟨h1, h2, h0, hplr, cs, T, fz, h6', h3, h4, h5⟩ := hk
  obtain ⟨rfl, h6⟩ := h4 rfl
  have hao : p.addr q = ⟨p.blk, p.off + j * e, none⟩ := by simp [Place.addr, hs, h2, hoff]
  have hlen : (Builtin.zeroCells z n).toList.length = n * e := by rw [zeroCells_list]; simp [hz]
  have hcs : p.off + j * e + n * e ≤ cs.size := by
    obtain ⟨hr1, hr2⟩ := h5 (j + n - 1) (by omega)
    obtain ⟨v', g1, _⟩ := hr2 (e - 1) ((row (j + n - 1))[e - 1]'(by omega)) (List.getElem?_eq_getElem (by omega))
    have := (Array.getElem?_eq_some_iff.1 g1).1
    have e2 : (j + n - 1) * e + e = j * e + n * e := by rw [← Nat.succ_mul, show (j + n - 1).succ = j + n by omega, Nat.add_mul]
    omega
  have hget : ∀ t, t < n * e → (Builtin.zeroCells z n).toList[t]? = z.toList[t % e]? := fun t ht => by
    rw [zeroCells_list, hz, List.getElem?_map, List.getElem?_range ht]
    have hm : t % e < z.size := by rw [hz]; exact Nat.mod_lt _ he
    simp [hm]
  have hfl : allL flat (Builtin.zeroCells z n).toList = true := allL_iff.2 fun x hx => by
    obtain ⟨t, ht⟩ := List.getElem?_of_mem hx
    have hlt : t < n * e := by rw [← hlen]; exact (List.getElem?_eq_some_iff.1 ht).1
    rw [hget t hlt] at ht
    exact plain_flat (allL_iff.1 hp x (List.mem_of_getElem? ht))
  obtain ⟨w', g1, g2, g3⟩ := run_storeCells (P := P) (off := p.off + j * e) (Builtin.zeroCells z n).toList 0 cs w h3 (by rw [hlen]; omega) hfl
  rw [Nat.add_zero] at g3
  refine ⟨w', by rw [hao]; exact g1, g2, h1, h2, h0, fun hpl i hi => ?_, _, T, (0, 0), h6', g3, fun _ => ⟨rfl, ?_⟩, fun i hi => ?_⟩
  · simp only
    split
    · exact allL_nad0 hp
    · exact hplr hpl i hi
  · rw [List.size_toArray, setMany_length, Array.length_toList]; exact h6
  · by_cases hb : j ≤ i ∧ i < j + n
    · have hbt : (Nat.ble j i && Nat.blt i (j + n)) = true := by rw [Bool.and_eq_true]; exact ⟨Nat.ble_eq_true_of_le hb.1, Nat.blt_eq.mpr hb.2⟩
      simp only [hbt]
      refine ⟨by rw [Array.length_toList]; exact hz, fun k v hv => ?_⟩
      have hk : k < e := by have := (List.getElem?_eq_some_iff.1 hv).1; rw [Array.length_toList, hz] at this; exact this
      have hmul : (i - j) * e + e ≤ n * e := by
        rw [← Nat.succ_mul]; exact Nat.mul_le_mul_right _ (by omega)
      have hij : i * e = j * e + (i - j) * e := by rw [← Nat.add_mul]; congr 1; omega
      refine ⟨v, ?_, (R0_plain (allL_iff.1 hp v (List.mem_of_getElem? hv))).2 rfl⟩
      rw [List.getElem?_toArray, setMany_get _ _ _ _ (by rw [hlen, Array.length_toList]; exact hcs), if_pos (by rw [hlen]; omega)]
      rw [hget _ (by omega), show (p.off + i * e + k - (p.off + j * e)) % e = k by
        rw [show p.off + i * e + k - (p.off + j * e) = k + (i - j) * e by omega, Nat.add_mul_mod_self_right, Nat.mod_eq_of_lt hk]]
      exact hv
    · have hbf : (Nat.ble j i && Nat.blt i (j + n)) = false := by
        cases hq : Nat.ble j i && Nat.blt i (j + n) with
        | false => rfl
        | true =>
          rw [Bool.and_eq_true] at hq
          exact absurd ⟨Nat.le_of_ble_eq_true hq.1, Nat.blt_eq.mp hq.2⟩ hb
      simp only [hbf]
      obtain ⟨hs1, hs2⟩ := h5 i hi
      refine ⟨hs1, hs2.beside (by rw [hlen]; exact hcs) ?_⟩
      rw [hlen, hs1]
      by_cases hl : i < j
      · right
        have : (i + 1) * e ≤ j * e := Nat.mul_le_mul_right _ hl
        rw [Nat.add_mul, Nat.one_mul] at this
        omega
      · left
        have : (j + n) * e ≤ i * e := Nat.mul_le_mul_right _ (by omega)
        rw [Nat.add_mul] at this
        omega
theorem act_clear {o : Oper} {c : Call} (ho : o.op = .call c) (hc : c.callee = .builtin .clear) (hr : RelAt w0 keep r ⟨tm, m⟩ a w) (h : (effOf0 P cs tm o).res = some e) (g : (runE cls pos m e).res = some (v, m')) : Ran P w0 keep r a w o v m' := by
  unfold effOf0 at h
  simp only [ho, hc] at h
  split at h
  rotate_left
  · simp [Ans.res] at h
  rename_i q n k t hv ht
  split at h
  rotate_left
  · simp [Ans.res] at h
  rename_i el j hu hoff hspot
  split at h
  rotate_left
  · simp [Ans.res] at h
  rename_i i hi
  split at h
  rotate_left
  · simp [Ans.res] at h
  rename_i z hz
  simp only [Ans.res, Option.some.injEq] at h
  subst h
  obtain ⟨k0, k', h1, h2, rfl⟩ := updE g
  have hargs : ∃ x, c.args.toList = [x] ∧ ev tm x = .slice (some q) n k := by
    revert hv
    cases c.args.toList with
    | nil => simp
    | cons x l => cases l with
      | nil => simp
      | cons y l => simp
  obtain ⟨x, hx, hxv⟩ := hargs
  have hx2 := eval_R hr x
  simp only at hx2
  rw [hxv] at hx2
  obtain ⟨q', c', hq', hnc, hl⟩ := R_sl hx2
  have ha : c.args = #[x] := by apply Array.ext'; simpa using hx
  have hat : c.argTypes = #[t] := by apply Array.ext'; simpa using ht
  unfold clearB at h2
  split at h2
  rotate_left
  · simp [Ans.res] at h2
  rename_i pl e2 n2 row
  split at h2
  rotate_left
  · simp [Ans.res] at h2
  rename_i hb
  simp only [Bool.and_eq_true] at hb
  rcases Ans.br_some h2 with ⟨hc2, h3⟩ | ⟨_, h3⟩
  rotate_left
  · simp [Ans.res] at h3
  rw [Bool.and_eq_true] at hc2
  simp only [Ans.res, Option.some.injEq, Prod.mk.injEq] at h3
  obtain ⟨rfl, rfl⟩ := h3
  have he2 : e2 = i.size := Nat.eq_of_beq_eq_true hb.1
  have hzl : z.cells.size = e2 := by have := Nat.eq_of_beq_eq_true hb.2.1; rw [Array.length_toList] at this; omega
  have hpos : 0 < e2 := by have := Nat.blt_eq.mp hb.2.2.1; omega
  have hn0 : 0 < n := Nat.blt_eq.mp hc2.1
  have hle : j + n ≤ n2 := Nat.le_of_ble_eq_true hc2.2
  rcases hl with hdead | ⟨p, hp, rfl, hsl⟩
  · have := hr.2.2.dead _ hdead
    rw [h1] at this
    cases this
  · obtain ⟨w', g1, g2, g3⟩ := clear_rel (P := P) (hr.2.2.at hp h1) hzl hpos hb.2.2.2 hoff hspot hn0 hle
    refine ⟨r, w', undef, Or.inl ?_, R_undef r, hr.2.2.turn hp (by have := (hr.2.2.at hp h1).1; exact this) (by rw [h1]; exact fun h => h) g2 g3, Ext.refl r⟩
    obtain ⟨n', rfl⟩ : ∃ n', n = n' + 1 := ⟨n - 1, by omega⟩
    simp only [execOp, ho, resolve, hc, ha, hat]
    simp [Sem.run_bind, invoke, builtin, Builtin.clear_, underlying_run hu, hq', zeroValue_run hi hz, g1, undef]
/-! ## Floats, and functions without a body -/
theorem R_fl {v v' : Value} {k : FloatKind} {b : Nat} (h : R r v v') (hf : fl? v = some (k, b)) : ∃ b', v' = .float k b' ∧ simF k b b' := by
  unfold fl? at hf
  split at hf
  · simp only [Option.some.injEq, Prod.mk.injEq] at hf
    obtain ⟨rfl, rfl⟩ := hf
    have h' : v' = .float _ _ := h
    exact ⟨_, h', simF.refl _ _⟩
  · simp only [Option.some.injEq, Prod.mk.injEq] at hf
    obtain ⟨rfl, rfl⟩ := hf
    exact h
  · cases hf
theorem R_cx {v v' : Value} {k : FloatKind} {a b : Nat} (h : R r v v') (hf : cx? v = some (k, a, b)) : ∃ a' b', v' = .complex k a' b' ∧ simF k a a' ∧ simF k b b' := by
  unfold cx? at hf
  split at hf
  · simp only [Option.some.injEq, Prod.mk.injEq] at hf
    obtain ⟨rfl, rfl, rfl⟩ := hf
    have h' : v' = .complex _ _ _ := h
    exact ⟨_, _, h', simF.refl _ _, simF.refl _ _⟩
  · simp only [Option.some.injEq, Prod.mk.injEq] at hf
    obtain ⟨rfl, rfl, rfl⟩ := hf
    exact h
  · cases hf
/-- Answers that are told up to NaNs, if at all. -/
def easy (v : Value) : Prop := (∃ k n, v = aF k n) ∨ (∃ k n m, v = aC k n m) ∨ plain v = true
theorem easy_R {v v' : Value} (he : easy v) (h : RV v v') : R r v v' := by
  rcases he with ⟨k, n, rfl⟩ | ⟨k, n, m, rfl⟩ | hp
  · exact h
  · exact h
  · refine (R_plain hp).2 ?_
    cases v with
    | iface t u => simp [plain, plain1, plain0] at hp
    | _ => exact h
theorem Ran.draws {o : Oper} {s : Sem Value} {v : Value} (hr : RelAt w0 keep r ⟨tm, m⟩ a w) (hx : (execOp a.eval o).run P w = ((do pure (Next.value (← s)) : Sem Next)).run P w) (h : Draws P s w v) (he : easy v) : Ran P w0 keep r a w o v m := by
  obtain ⟨v', w', h1, h2, h3, h4⟩ := h
  exact ⟨r, w', v', Or.inl (by rw [hx]; exact run_value h1), easy_R he h2, hr.2.2.later h3 h4, Ext.refl r⟩
theorem easy_binF {op : BinOp} {k : FloatKind} {a b : Nat} {v : Value} (h : fltBinF op k a b = some v) : easy v := by
  cases op <;> simp only [fltBinF, Option.some.injEq, reduceCtorEq] at h <;> subst h <;> first | exact Or.inl ⟨_, _, rfl⟩ | exact Or.inr (Or.inr rfl)
theorem easy_binC {op : BinOp} {k : FloatKind} {a b c d : Nat} {v : Value} (h : fltBinC op k a b c d = some v) : easy v := by
  cases op <;> simp only [fltBinC, Option.some.injEq, reduceCtorEq] at h <;> subst h <;> first | exact Or.inr (Or.inl ⟨_, _, _, rfl⟩) | exact Or.inr (Or.inr rfl)
theorem fltBin_run {op : BinOp} {t : TypeId} {x y : Operand} {vx vy vx' vy' v : Value} (h : fltBin op vx vy = some v) (hx : R r vx vx') (hy : R r vy vy') : Draws P (do eqGuard op t x y vx' vy'; binOp op t vx' vy') w v ∧ easy v := by
  unfold fltBin at h
  split at h
  · rename_i k a hfx
    split at h
    · rename_i k' b hfy
      split at h
      · rename_i hk
        obtain rfl := kEq_eq hk
        obtain ⟨a', rfl, ha⟩ := R_fl hx hfx
        obtain ⟨b', rfl, hb⟩ := R_fl hy hfy
        have e : eqGuard op t x y (.float k a') (.float k b') = pure () := by cases op <;> rfl
        rw [e, pure_bind]
        exact ⟨binOpF_run h ha hb, easy_binF h⟩
      · cases h
    · cases h
  · split at h
    · rename_i k a b hfx
      split at h
      · rename_i k' c d hfy
        split at h
        · rename_i hk
          obtain rfl := kEq_eq hk
          obtain ⟨a', b', rfl, ha, hb⟩ := R_cx hx hfx
          obtain ⟨c', d', rfl, hc, hd⟩ := R_cx hy hfy
          have e : eqGuard op t x y (.complex k a' b') (.complex k c' d') = pure () := by cases op <;> rfl
          rw [e, pure_bind]
          exact ⟨binOpC_run h ha hb hc hd, easy_binC h⟩
        · cases h
      · cases h
    · cases h
/-- What functions without a body are. -/
def extRow : Nat → Array Value → Sem Value
  | 1 => Extern.MathFloatBits.float64bits
  | 2 => Extern.MathFloatBits.float64frombits
  | 3 => Extern.MathFloatBits.float32bits
  | 4 => Extern.MathFloatBits.float32frombits
  | 5 => Extern.MathSqrt.sqrt
  | 6 => fun args => do
    let (x, y, c) ← Extern.MathBitsCarry.three "Add64" args
    pure (Extern.MathBitsCarry.pair ((x + y + c) % Extern.MathBitsCarry.m64) ((x + y + c) / Extern.MathBitsCarry.m64))
  | 7 => fun args => do
    let (x, y, b) ← Extern.MathBitsCarry.three "Sub64" args
    pure (Extern.MathBitsCarry.pair ((x + Extern.MathBitsCarry.m64 - y - b) % Extern.MathBitsCarry.m64) (if x < y + b then 1 else 0))
  | _ => fun _ => stuck ""
def ExtOk (P : Program) (ext : FuncId → Nat) : Prop := ∀ f, ext f ≠ 0 → ∃ fn, P.funcs[f]? = some fn ∧ (fn.name == "runtime.NumGoroutine") = false ∧ fn.body.isNone = true ∧ (Extern.findNext fn).isNone = true ∧ Extern.find fn = some (extRow (ext f))
theorem call_ext {o : Oper} {c : Call} {f : FuncId} {ext : FuncId → Nat} (hext : ExtOk P ext) (h0 : ext f ≠ 0) (ho : o.op = .call c) (hc : c.callee = .value (.func f)) : (execOp a.eval o).run P w = ((do pure (Next.value (← extRow (ext f) (c.args.map a.eval))) : Sem Next)).run P w := by
  obtain ⟨fn, h1, h2, h3, h4, h5⟩ := hext f h0
  have h4' : Extern.findNext fn = none := Option.isNone_iff_eq_none.1 h4
  have hx : a.eval (.func f) = .func (.func f) #[] #[] := rfl
  simp only [execOp, ho, resolve, hc]
  simp only [hx, Deferred.ofValue, Sem.run_bind, Sem.run_pure, Result.andThen_ok, invoke, callFunc, program, Sem.run, h1, h2, h3, h4', h5, mark]
  simp [Sem.run_bind, Sem.run]
theorem three_eq {n : String} {x y c : Int} (h : ¬ c.toNat > 1) : Extern.MathBitsCarry.three n #[.int .u64 x, .int .u64 y, .int .u64 c] = pure (x.toNat, y.toNat, c.toNat) := by
  show ite (c.toNat > 1) _ _ = _
  rw [if_neg h]
  rfl
theorem extA_run {e : Nat} {args args' : List Value} {v : Value} (h : (extA e args).res = some v) (hr : RL (R r) args args') : e ≠ 0 ∧ Draws P (extRow e args'.toArray) w v ∧ easy v := by
  unfold extA at h
  split at h
  · refine ⟨by decide, ?_⟩
    split at h
    · simp only [Ans.res, Option.some.injEq] at h
      subst h
      cases args' with
      | nil => exact hr.elim
      | cons x l => cases l with
        | cons y l => exact hr.2.elim
        | nil =>
          have hx : x = .float .f64 _ := hr.1
          subst hx
          exact ⟨Draws.pure rfl, Or.inr (Or.inr rfl)⟩
    · rcases Ans.br_some h with ⟨_, h⟩ | ⟨hb, h⟩
      · simp [Ans.res] at h
      · simp only [Ans.res, Option.some.injEq] at h
        subst h
        cases args' with
        | nil => exact hr.elim
        | cons x l => cases l with
          | cons y l => exact hr.2.elim
          | nil =>
            obtain ⟨b', rfl, hs⟩ := R_fl (k := .f64) hr.1 rfl
            rcases hs with rfl | ⟨h1, _⟩
            · exact ⟨Draws.pure rfl, Or.inr (Or.inr rfl)⟩
            · rw [hb] at h1; cases h1
    · simp [Ans.res] at h
  · refine ⟨by decide, ?_⟩
    split at h
    · simp only [Ans.res, Option.some.injEq] at h
      subst h
      cases args' with
      | nil => exact hr.elim
      | cons x l => cases l with
        | cons y l => exact hr.2.elim
        | nil =>
          have hx : x = .int .u64 _ := hr.1
          subst hx
          exact ⟨Draws.pure rfl, Or.inr (Or.inr rfl)⟩
    · simp [Ans.res] at h
  · refine ⟨by decide, ?_⟩
    split at h
    · simp only [Ans.res, Option.some.injEq] at h
      subst h
      cases args' with
      | nil => exact hr.elim
      | cons x l => cases l with
        | cons y l => exact hr.2.elim
        | nil =>
          have hx : x = .float .f32 _ := hr.1
          subst hx
          exact ⟨Draws.pure rfl, Or.inr (Or.inr rfl)⟩
    · rcases Ans.br_some h with ⟨_, h⟩ | ⟨hb, h⟩
      · simp [Ans.res] at h
      · simp only [Ans.res, Option.some.injEq] at h
        subst h
        cases args' with
        | nil => exact hr.elim
        | cons x l => cases l with
          | cons y l => exact hr.2.elim
          | nil =>
            obtain ⟨b', rfl, hs⟩ := R_fl (k := .f32) hr.1 rfl
            rcases hs with rfl | ⟨h1, _⟩
            · exact ⟨Draws.pure rfl, Or.inr (Or.inr rfl)⟩
            · rw [hb] at h1; cases h1
    · simp [Ans.res] at h
  · refine ⟨by decide, ?_⟩
    split at h
    · simp only [Ans.res, Option.some.injEq] at h
      subst h
      cases args' with
      | nil => exact hr.elim
      | cons x l => cases l with
        | cons y l => exact hr.2.elim
        | nil =>
          have hx : x = .int .u32 _ := hr.1
          subst hx
          exact ⟨Draws.pure rfl, Or.inr (Or.inr rfl)⟩
    · simp [Ans.res] at h
  · refine ⟨by decide, ?_⟩
    split at h
    · split at h
      · rename_i x a hfx
        simp only [Ans.res, Option.some.injEq] at h
        subst h
        cases args' with
        | nil => exact hr.elim
        | cons x l => cases l with
          | cons y l => exact hr.2.elim
          | nil =>
            obtain ⟨b', rfl, hs⟩ := R_fl hr.1 hfx
            exact ⟨sqrt_run hs, Or.inl ⟨_, _, rfl⟩⟩
      · simp [Ans.res] at h
    · simp [Ans.res] at h
  · refine ⟨by decide, ?_⟩
    split at h
    · rename_i x y c
      rcases Ans.br_some h with ⟨hb, h⟩ | ⟨_, h⟩
      · simp only [Ans.res, Option.some.injEq] at h
        subst h
        cases args' with
        | nil => exact hr.elim
        | cons x' l => cases l with
          | nil => exact hr.2.elim
          | cons y' l => cases l with
            | nil => exact hr.2.2.elim
            | cons c' l => cases l with
              | cons z l => exact hr.2.2.2.elim
              | nil =>
                have hx : x' = .int .u64 x := hr.1
                have hy : y' = .int .u64 y := hr.2.1
                have hc : c' = .int .u64 c := hr.2.2.1
                subst hx hy hc
                have hc1 : ¬ c.toNat > 1 := by have := of_decide_eq_true hb; omega
                refine ⟨⟨_, w, ?_, rfl, Below.refl _ _, Nat.le_refl _⟩, Or.inr (Or.inr rfl)⟩
                simp only [extRow, Sem.run_bind, List.toArray, three_eq hc1, Sem.run_pure, Result.andThen_ok]
                rfl
      · simp [Ans.res] at h
    · simp [Ans.res] at h
  · refine ⟨by decide, ?_⟩
    split at h
    · rename_i x y c
      rcases Ans.br_some h with ⟨hb, h⟩ | ⟨_, h⟩
      · simp only [Ans.res, Option.some.injEq] at h
        subst h
        cases args' with
        | nil => exact hr.elim
        | cons x' l => cases l with
          | nil => exact hr.2.elim
          | cons y' l => cases l with
            | nil => exact hr.2.2.elim
            | cons c' l => cases l with
              | cons z l => exact hr.2.2.2.elim
              | nil =>
                have hx : x' = .int .u64 x := hr.1
                have hy : y' = .int .u64 y := hr.2.1
                have hc : c' = .int .u64 c := hr.2.2.1
                subst hx hy hc
                have hc1 : ¬ c.toNat > 1 := by have := of_decide_eq_true hb; omega
                refine ⟨⟨_, w, ?_, rfl, Below.refl _ _, Nat.le_refl _⟩, Or.inr (Or.inr rfl)⟩
                simp only [extRow, Sem.run_bind, List.toArray, three_eq hc1, Sem.run_pure, Result.andThen_ok]
                rfl
      · simp [Ans.res] at h
    · simp [Ans.res] at h
  · simp [Ans.res] at h
theorem RL_mapE (hr : RelAt w0 keep r ⟨tm, m⟩ a w) : ∀ (l : List Operand), RL (R r) (l.map (ev tm)) (l.map a.eval)
  | [] => trivial
  | x :: l => ⟨eval_R hr x, RL_mapE hr l⟩
theorem fltB_run {b : Builtin} {args args' : List Value} {v : Value} (ts : Array TypeId) (t : TypeId) (h : fltB b args = some v) (hr : RL (R r) args args') : ∃ s, (∀ cn, builtin b ts t cn args'.toArray = (do pure (Next.value (← s)) : Sem Next)) ∧ Draws P s w v ∧ easy v := by
  have one : ∀ {x : Value}, args = [x] → ∃ x', args' = [x'] ∧ R r x x' := fun {x} e => by
    subst e
    cases args' with
    | nil => exact hr.elim
    | cons x' l => cases l with
      | cons y l => exact hr.2.elim
      | nil => exact ⟨x', rfl, hr.1⟩
  have two : ∀ {x y : Value}, args = [x, y] → ∃ x' y', args' = [x', y'] ∧ R r x x' ∧ R r y y' := fun {x y} e => by
    subst e
    cases args' with
    | nil => exact hr.elim
    | cons x' l => cases l with
      | nil => exact hr.2.elim
      | cons y' l => cases l with
        | cons z l => exact hr.2.2.elim
        | nil => exact ⟨x', y', rfl, hr.1, hr.2.1⟩
  unfold fltB at h
  split at h
  · split at h
    · rename_i x
      split at h
      · rename_i k p q hf
        simp only [Option.some.injEq] at h
        subst h
        obtain ⟨x', rfl, hx⟩ := one rfl
        obtain ⟨p', q', rfl, h1, h2⟩ := R_cx hx hf
        exact ⟨_, fun _ => rfl, Draws.pure ⟨p', rfl, h1⟩, Or.inl ⟨_, _, rfl⟩⟩
      · cases h
    · cases h
  · split at h
    · rename_i x
      split at h
      · rename_i k p q hf
        simp only [Option.some.injEq] at h
        subst h
        obtain ⟨x', rfl, hx⟩ := one rfl
        obtain ⟨p', q', rfl, h1, h2⟩ := R_cx hx hf
        exact ⟨_, fun _ => rfl, Draws.pure ⟨q', rfl, h2⟩, Or.inl ⟨_, _, rfl⟩⟩
      · cases h
    · cases h
  · split at h
    · rename_i x y
      split at h
      · rename_i k p hf
        split at h
        · rename_i k' q hf2
          split at h
          · rename_i hk
            obtain rfl := kEq_eq hk
            simp only [Option.some.injEq] at h
            subst h
            obtain ⟨x', y', rfl, hx, hy⟩ := two rfl
            obtain ⟨p', rfl, h1⟩ := R_fl hx hf
            obtain ⟨q', rfl, h2⟩ := R_fl hy hf2
            refine ⟨_, fun _ => rfl, ?_, Or.inr (Or.inl ⟨_, _, _, rfl⟩)⟩
            have e : Builtin.complex_ ts t #[.float k p', .float k q'] = pure (.complex k p' q') := by show (if k = k then _ else _) = _; rw [if_pos rfl]
            rw [show [Value.float k p', Value.float k q'].toArray = #[.float k p', .float k q'] from rfl, e]
            exact Draws.pure ⟨p', q', rfl, h1, h2⟩
          · cases h
        · cases h
      · cases h
    · cases h
  · split at h
    · rename_i x y
      split at h
      · rename_i k p hf
        split at h
        · rename_i k' q hf2
          split at h
          · rename_i hk
            obtain rfl := kEq_eq hk
            simp only [Option.some.injEq] at h
            subst h
            obtain ⟨x', y', rfl, hx, hy⟩ := two rfl
            obtain ⟨p', rfl, h1⟩ := R_fl hx hf
            obtain ⟨q', rfl, h2⟩ := R_fl hy hf2
            refine ⟨_, fun _ => rfl, ?_, Or.inl ⟨_, _, rfl⟩⟩
            have e : Builtin.max_ ts t #[.float k p', .float k q'] = Builtin.max2 (.float k p') (.float k q') := by simp [Builtin.max_]
            rw [show [Value.float k p', Value.float k q'].toArray = #[.float k p', .float k q'] from rfl, e]
            exact max_run h1 h2
          · cases h
        · cases h
      · cases h
    · cases h
  · split at h
    · rename_i x y
      split at h
      · rename_i k p hf
        split at h
        · rename_i k' q hf2
          split at h
          · rename_i hk
            obtain rfl := kEq_eq hk
            simp only [Option.some.injEq] at h
            subst h
            obtain ⟨x', y', rfl, hx, hy⟩ := two rfl
            obtain ⟨p', rfl, h1⟩ := R_fl hx hf
            obtain ⟨q', rfl, h2⟩ := R_fl hy hf2
            refine ⟨_, fun _ => rfl, ?_, Or.inl ⟨_, _, rfl⟩⟩
            have e : Builtin.min_ ts t #[.float k p', .float k q'] = Builtin.min2 (.float k p') (.float k q') := by simp [Builtin.min_]
            rw [show [Value.float k p', Value.float k q'].toArray = #[.float k p', .float k q'] from rfl, e]
            exact min_run h1 h2
          · cases h
        · cases h
      · cases h
    · cases h
  · cases h
theorem act_flt {o : Oper} {ans : Ans Value} (hext : ExtOk P cs.ext) (hf : fltOf P cs tm o = some ans) (hr : RelAt w0 keep r ⟨tm, m⟩ a w) (h : (ans.bind fun v => Ans.out (Eff.val v)).res = some e) (g : (runE cls pos m e).res = some (v, m')) : Ran P w0 keep r a w o v m' := by
  obtain ⟨u, h1, h2⟩ := Ans.bind_some h
  simp only [Ans.res, Option.some.injEq] at h2
  subst h2
  obtain ⟨rfl, rfl⟩ := valE g
  unfold fltOf at hf
  split at hf
  · rename_i op t x y yt ho
    split at hf
    · rename_i v' hv
      simp only [Option.some.injEq] at hf
      subst hf
      simp only [Ans.res, Option.some.injEq] at h1
      subst h1
      obtain ⟨d1, d2⟩ := fltBin_run (P := P) (w := w) (t := t) (x := x) (y := y) hv (eval_R hr x) (eval_R hr y)
      exact Ran.draws hr (by simp only [execOp, ho]) d1 d2
    · cases hf
  · rename_i t x ho
    split at hf
    · rename_i v' hv
      simp only [Option.some.injEq] at hf
      subst hf
      simp only [Ans.res, Option.some.injEq] at h1
      subst h1
      have hx := eval_R hr x
      unfold fltNeg at hv
      split at hv
      · rename_i k b hfx
        simp only [Option.some.injEq] at hv
        subst hv
        obtain ⟨b', hb, hs⟩ := R_fl hx hfx
        refine Ran.draws hr (s := Op.unary .neg (.float k b')) (by simp only [execOp, ho, hb]) ?_ (Or.inl ⟨_, _, rfl⟩)
        exact Draws.pure ⟨_, rfl, fneg_sim hs⟩
      · split at hv
        · rename_i k p q hfx
          simp only [Option.some.injEq] at hv
          subst hv
          obtain ⟨p', q', hb, hs1, hs2⟩ := R_cx hx hfx
          refine Ran.draws hr (s := Op.unary .neg (.complex k p' q')) (by simp only [execOp, ho, hb]) ?_ (Or.inr (Or.inl ⟨_, _, _, rfl⟩))
          exact Draws.pure ⟨_, _, rfl, fneg_sim hs1, fneg_sim hs2⟩
        · cases hv
    · cases hf
  · rename_i s d x ho
    split at hf
    · rename_i k b hfx
      split at hf
      · rename_i us k' hs hd
        simp only [Option.some.injEq] at hf
        subst hf
        rcases Ans.br_some h1 with ⟨_, h1⟩ | ⟨hov, h1⟩
        · simp [Ans.res] at h1
        · simp only [Ans.res, Option.some.injEq] at h1
          subst h1
          obtain ⟨b', hb, hsim⟩ := R_fl (eval_R hr x) hfx
          obtain ⟨v2, w2, g1, g2, g3, g4⟩ := conv_run (P := P) (w := w) hov hsim
          refine Ran.draws hr (s := convert s d (.float k b')) (by simp only [execOp, ho, hb]) ⟨v2, w2, ?_, g2, g3, g4⟩ (Or.inl ⟨_, _, rfl⟩)
          unfold convert
          rw [Sem.run_bind, underlying_run hs]
          simp only [Result.andThen_ok]
          rw [Sem.run_bind, underlying_run hd]
          simp only [Result.andThen_ok]
          cases us <;> exact g1
      · cases hf
    · cases hf
  · rename_i c ho
    split at hf
    · rename_i b hc
      split at hf
      · rename_i v' hv
        simp only [Option.some.injEq] at hf
        subst hf
        simp only [Ans.res, Option.some.injEq] at h1
        subst h1
        obtain ⟨s, hs, d1, d2⟩ := fltB_run (P := P) (w := w) c.argTypes o.type hv (RL_mapE hr c.args.toList)
        refine Ran.draws hr (s := s) ?_ d1 d2
        have e : c.args.map a.eval = (c.args.toList.map a.eval).toArray := by apply Array.ext'; simp
        simp only [execOp, ho, resolve, hc, pure_bind, invoke, e, hs]
      · cases hf
    · rename_i f hc
      split at hf
      · simp only [Option.some.injEq] at hf
        subst hf
        obtain ⟨h0, d1, d2⟩ := extA_run (P := P) (w := w) h1 (RL_mapE hr c.args.toList)
        have e : c.args.map a.eval = (c.args.toList.map a.eval).toArray := by apply Array.ext'; simp
        exact Ran.draws hr (by rw [call_ext hext h0 ho hc, e]) d1 d2
      · cases hf
    · cases hf
  · cases hf
/-- An operation that is no call of a function. -/
theorem act_run {o : Oper} (hkeys : ∀ kt n, cs.keys kt = some n → KeyOk P kt n) (hext : ExtOk P cs.ext) (hnc : ∀ c x, o.op = .call c → c.callee ≠ .value x) (hr : RelAt w0 keep r ⟨tm, m⟩ a w) (h : (act P cs pos tm m o).res = some (v, m')) : Ran P w0 keep r a w o v m' := by
  obtain ⟨e, h, g⟩ := Ans.bind_some h
  unfold effOf at h
  split at h
  · rename_i ans hf
    exact act_flt hext hf hr h g
  have plainOp : opVal P tm o = opVal P tm o → (∀ cs b, o.op ≠ .select cs b) → (match opVal P tm o with | some v => Ans.out (Eff.val v) | none => .fail).res = some e → Ran P w0 keep r a w o v m' := by
    intro _ hs h
    split at h
    · rename_i u hu
      simp only [Ans.res, Option.some.injEq] at h
      subst h
      obtain ⟨rfl, rfl⟩ := valE g
      exact opVal_run hs hu hr
    · simp [Ans.res] at h
  cases ho : o.op with
  | move x =>
    unfold effOf0 at h
    simp only [ho, Ans.res, Option.some.injEq] at h
    subst h
    obtain ⟨rfl, rfl⟩ := valE g
    exact act_move (Or.inl ho) hr
  | assign x =>
    unfold effOf0 at h
    simp only [ho, Ans.res, Option.some.injEq] at h
    subst h
    obtain ⟨rfl, rfl⟩ := valE g
    exact act_move (Or.inr ho) hr
  | nilCheck x => exact act_nilCheck ho hr h g
  | pick c x y => exact act_pick ho hr h g
  | box t x => exact act_box ho hr h g
  | alloc t => exact act_alloc ho hr h g
  | buildSlice t len parts => exact act_buildSlice ho hr h g
  | load t x => exact act_load ho hr h g
  | store t x y => exact act_store ho hr h g
  | indexAddr t x ix => exact act_indexAddr ho hr h g
  | fieldAddr t x n => exact act_fieldAddr ho hr h g
  | slice t x lo hi mx => exact act_slice ho hr h g
  | build t parts => exact act_build ho hr h g
  | field t x n => exact act_field ho hr h g
  | index t x ix => exact act_index ho hr h g
  | extract x n => exact act_extract ho hr h g
  | binOp op t x y yt => exact act_binOp ho hr h g
  | range t x => exact act_range ho hr h g
  | next it str => exact act_next ho hr h g
  | unOp op t x =>
    unfold effOf0 at h
    simp only [ho] at h
    exact plainOp rfl (by intro cs b; rw [ho]; simp) h
  | convert s d x => exact act_convert ho hr h g
  | makeSlice t l c => exact act_makeSlice ho hr h g
  | makeMap t res => exact act_makeMap ho hr h g
  | lookup t x ix ok => exact act_lookup hkeys ho hr h g
  | mapUpdate t x ix y => exact act_mapUpdate hkeys ho hr h g
  | call c =>
    cases hc : c.callee with
    | value x => exact absurd hc (hnc c x ho)
    | invoke x mm => unfold effOf0 at h; simp [ho, hc, Ans.res] at h
    | builtin b =>
      cases b with
      | len => exact act_len ho hc hr h g
      | append => exact act_append ho hc hr h g
      | copy => unfold effOf0 at h; simp [ho, hc, Ans.res] at h
      | clear => exact act_clear ho hc hr h g
      | _ =>
        unfold effOf0 at h
        simp only [ho, hc] at h
        exact plainOp rfl (by intro cs b; rw [ho]; simp) h
  | _ => unfold effOf0 at h; simp [ho, Ans.res] at h
end
end Go.Proofs.Ytokdjjdmmahbiaa.Vx
