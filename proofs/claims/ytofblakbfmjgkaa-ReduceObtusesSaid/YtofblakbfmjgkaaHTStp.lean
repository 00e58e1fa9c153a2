/-
  The document's step told. Nothing here is trusted.
-/
import Derived.Test.YtofblakbfmjgkaaHTSr0
import Derived.Test.YtofblakbfmjgkaaHTSr1
import Derived.Test.YtofblakbfmjgkaaHTSr2
import Derived.Test.YtofblakbfmjgkaaHTSr3
import Derived.Test.YtofblakbfmjgkaaHTSr4
import Derived.Test.YtofblakbfmjgkaaHTSr5
namespace Go.Proofs.Ytofblakbfmjgkaa
open Go Vx Go.RowKit
theorem for_ret {P : Program} {B id : Nat} {c : Code} {st s s' : St} (hf : isFor id c = true) (h1 : CodeSem P B (forHead c) st .normal s) (h2 : LoopSem P B (forBody c) s .ret s') : CodeSem P B c st .ret s' := by
  unfold isFor at hf
  split at hf
  · exact h1.seq (CodeSem.blockR (CodeSem.loop h2))
  · cases hf
set_option maxRecDepth 100000 in
theorem s2In : InBody ((CCl Try.prog).into 93 0) (forHead (stmt 1 (s2B Try.prog))) ∧ InBody ((CCl Try.prog).into 93 0) (forBody (stmt 1 (s2B Try.prog))) := for_in (C := CCl Try.prog) (f := 93) (B := 0) (id := 0) (k := 1) (fn := Try.f93) (b := s2B Try.prog) Try.func93 s2B_eq s2For
set_option maxRecDepth 100000 in
theorem s2InM : InBody ((CCm Try.prog).into 93 0) (s2X Try.prog) := (for_in (C := CCm Try.prog) (f := 93) (B := 0) (id := 0) (k := 1) (fn := Try.f93) (b := s2B Try.prog) Try.func93 s2B_eq s2For).2
theorem agI_plain (l : List Int) : Vx.plain (agI l) = true := by
  show allL plain0 (l.map (.int .i64)) = true
  refine allL_iff.2 fun x hx => ?_
  obtain ⟨n, _, rfl⟩ := List.mem_map.1 hx
  rfl
theorem s2Fin {f0 f1 f2 f3 f4 f5 f6 f7 f8 f9 f10 f11 f12 f13 f14 f15 : Int} {g0 g1 g2 g3 g4 g5 g6 g7 g8 g9 g10 g11 g12 g13 g14 g15 : Int} {p : M3} {b : Bool} (h : CodeSem Try.prog 0 (seqDrop 1 (s2B Try.prog)) (s2F [f0, f1, f2, f3, f4, f5, f6, f7, f8, f9, f10, f11, f12, f13, f14, f15]) .ret (s2O [g0, g1, g2, g3, g4, g5, g6, g7, g8, g9, g10, g11, g12, g13, g14, g15] p b)) :
    PlainSem Try.prog 93 [agI [f0, f1, f2, f3, f4, f5, f6, f7, f8, f9, f10, f11, f12, f13, f14, f15]] (p3v (agI [g0, g1, g2, g3, g4, g5, g6, g7, g8, g9, g10, g11, g12, g13, g14, g15]) p.v (.bool b)) := by
  have hm : MemSem Try.prog 93 [agI [f0, f1, f2, f3, f4, f5, f6, f7, f8, f9, f10, f11, f12, f13, f14, f15]] [] (p3v (agI [g0, g1, g2, g3, g4, g5, g6, g7, g8, g9, g10, g11, g12, g13, g14, g15]) p.v (.bool b)) _ := body_mem (f := 93) Try.func93 s2B_eq (by kernel_rfl) (seg_rule (C := CCl Try.prog) okCl (f := 93) (B := 0) (k := 1) (Or.inl ⟨Try.f93, s2B Try.prog, Try.func93, s2B_eq, fun _ hx => hx⟩) (s2E f0 f1 f2 f3 f4 f5 f6 f7 f8 f9 f10 f11 f12 f13 f14 f15) h) (s2Ret g0 g1 g2 g3 g4 g5 g6 g7 g8 g9 g10 g11 g12 g13 g14 g15 p b)
  exact hm.plain (by intro x hx; simp only [List.mem_cons, List.not_mem_nil, or_false] at hx; rcases hx with rfl; exact agI_plain _) rfl
theorem s2Hit {f0 f1 f2 f3 f4 f5 f6 f7 f8 f9 f10 f11 f12 f13 f14 f15 : Int} {g0 g1 g2 g3 g4 g5 g6 g7 g8 g9 g10 g11 g12 g13 g14 g15 : Int} {p : M3} (h : LoopSem Try.prog 0 (s2X Try.prog) (s2H [f0, f1, f2, f3, f4, f5, f6, f7, f8, f9, f10, f11, f12, f13, f14, f15] 0) .ret (s2O [g0, g1, g2, g3, g4, g5, g6, g7, g8, g9, g10, g11, g12, g13, g14, g15] p true)) :
    PlainSem Try.prog 93 [agI [f0, f1, f2, f3, f4, f5, f6, f7, f8, f9, f10, f11, f12, f13, f14, f15]] (p3v (agI [g0, g1, g2, g3, g4, g5, g6, g7, g8, g9, g10, g11, g12, g13, g14, g15]) p.v (.bool true)) :=
  s2Fin (stmt_out s2Has (for_ret s2For (end_rule' (C := CCl Try.prog) okCl (f := 93) (B := 0) s2In.1 (s2Head f0 f1 f2 f3 f4 f5 f6 f7 f8 f9 f10 f11 f12 f13 f14 f15)) h) (by simp))
theorem s2No {f0 f1 f2 f3 f4 f5 f6 f7 f8 f9 f10 f11 f12 f13 f14 f15 : Int} (h : LoopSem Try.prog 0 (s2X Try.prog) (s2H [f0, f1, f2, f3, f4, f5, f6, f7, f8, f9, f10, f11, f12, f13, f14, f15] 0) (.exit 0) (s2F [f0, f1, f2, f3, f4, f5, f6, f7, f8, f9, f10, f11, f12, f13, f14, f15])) :
    PlainSem Try.prog 93 [agI [f0, f1, f2, f3, f4, f5, f6, f7, f8, f9, f10, f11, f12, f13, f14, f15]] (p3v (agI [f0, f1, f2, f3, f4, f5, f6, f7, f8, f9, f10, f11, f12, f13, f14, f15]) M3.one.v (.bool false)) :=
  s2Fin (stmt_rule s2Has (for_rule s2For (end_rule' (C := CCl Try.prog) okCl (f := 93) (B := 0) s2In.1 (s2Head f0 f1 f2 f3 f4 f5 f6 f7 f8 f9 f10 f11 f12 f13 f14 f15)) h) (end_rule' (C := CCl Try.prog) okCl (f := 93) (B := 0) (bodyOf_in Try.func93 s2B_eq) (s2End f0 f1 f2 f3 f4 f5 f6 f7 f8 f9 f10 f11 f12 f13 f14 f15)))
def stpK (l : List Int) (x0 x1 x2 x3 x4 x5 : Int) : Option Value := match decide (x0 ≤ 0) with
  | false => stpHit l 1 2 stp0
  | true => match decide (x1 ≤ 0) with
    | false => stpHit l 0 2 stp1
    | true => match decide (x2 ≤ 0) with
      | false => stpHit l 0 1 stp2
      | true => match decide (x3 ≤ 0) with
        | false => stpHit l 0 3 stp3
        | true => match decide (x4 ≤ 0) with
          | false => stpHit l 1 3 stp4
          | true => match decide (x5 ≤ 0) with
            | false => stpHit l 2 3 stp5
            | true => some (p3v (agI l) M3.one.v (.bool false))
theorem s2S (f0 f1 f2 f3 f4 f5 f6 f7 f8 f9 f10 f11 f12 f13 f14 f15 : Int) (v : Value) (h : tStp [f0, f1, f2, f3, f4, f5, f6, f7, f8, f9, f10, f11, f12, f13, f14, f15] = some v) : PlainSem Try.prog 93 [agI [f0, f1, f2, f3, f4, f5, f6, f7, f8, f9, f10, f11, f12, f13, f14, f15]] v := by
  have h : stpK [f0, f1, f2, f3, f4, f5, f6, f7, f8, f9, f10, f11, f12, f13, f14, f15] f6 f2 f1 f3 f7 f11 = some v := h
  unfold stpK at h
  have r0 := s2R0 f0 f1 f2 f3 f4 f5 f6 f7 f8 f9 f10 f11 f12 f13 f14 f15
  cases h0 : decide (f6 ≤ 0) with
  | false =>
    rw [h0] at r0 h
    simp only [stpHit, Option.some.injEq] at h
    rw [← h, ← en0_eq f0 f1 f2 f3 f4 f5 f6 f7 f8 f9 f10 f11 f12 f13 f14 f15]
    exact s2Hit (loop_leave (C := CCm Try.prog) okCm (f := 93) (B := 0) s2InM r0 (by simp))
  | true =>
    rw [h0] at r0 h
    simp only at h
    have r1 := s2R1 f0 f1 f2 f3 f4 f5 f6 f7 f8 f9 f10 f11 f12 f13 f14 f15
    cases h1 : decide (f2 ≤ 0) with
    | false =>
      rw [h1] at r1 h
      simp only [stpHit, Option.some.injEq] at h
      rw [← h, ← en1_eq f0 f1 f2 f3 f4 f5 f6 f7 f8 f9 f10 f11 f12 f13 f14 f15]
      exact s2Hit (loop_next (C := CCm Try.prog) okCm (f := 93) (B := 0) s2InM r0 (StLike.refl _) (loop_leave (C := CCm Try.prog) okCm (f := 93) (B := 0) s2InM r1 (by simp)))
    | true =>
      rw [h1] at r1 h
      simp only at h
      have r2 := s2R2 f0 f1 f2 f3 f4 f5 f6 f7 f8 f9 f10 f11 f12 f13 f14 f15
      cases h2 : decide (f1 ≤ 0) with
      | false =>
        rw [h2] at r2 h
        simp only [stpHit, Option.some.injEq] at h
        rw [← h, ← en2_eq f0 f1 f2 f3 f4 f5 f6 f7 f8 f9 f10 f11 f12 f13 f14 f15]
        exact s2Hit (loop_next (C := CCm Try.prog) okCm (f := 93) (B := 0) s2InM r0 (StLike.refl _) (loop_next (C := CCm Try.prog) okCm (f := 93) (B := 0) s2InM r1 (StLike.refl _) (loop_leave (C := CCm Try.prog) okCm (f := 93) (B := 0) s2InM r2 (by simp))))
      | true =>
        rw [h2] at r2 h
        simp only at h
        have r3 := s2R3 f0 f1 f2 f3 f4 f5 f6 f7 f8 f9 f10 f11 f12 f13 f14 f15
        cases h3 : decide (f3 ≤ 0) with
        | false =>
          rw [h3] at r3 h
          simp only [stpHit, Option.some.injEq] at h
          rw [← h, ← en3_eq f0 f1 f2 f3 f4 f5 f6 f7 f8 f9 f10 f11 f12 f13 f14 f15]
          exact s2Hit (loop_next (C := CCm Try.prog) okCm (f := 93) (B := 0) s2InM r0 (StLike.refl _) (loop_next (C := CCm Try.prog) okCm (f := 93) (B := 0) s2InM r1 (StLike.refl _) (loop_next (C := CCm Try.prog) okCm (f := 93) (B := 0) s2InM r2 (StLike.refl _) (loop_leave (C := CCm Try.prog) okCm (f := 93) (B := 0) s2InM r3 (by simp)))))
        | true =>
          rw [h3] at r3 h
          simp only at h
          have r4 := s2R4 f0 f1 f2 f3 f4 f5 f6 f7 f8 f9 f10 f11 f12 f13 f14 f15
          cases h4 : decide (f7 ≤ 0) with
          | false =>
            rw [h4] at r4 h
            simp only [stpHit, Option.some.injEq] at h
            rw [← h, ← en4_eq f0 f1 f2 f3 f4 f5 f6 f7 f8 f9 f10 f11 f12 f13 f14 f15]
            exact s2Hit (loop_next (C := CCm Try.prog) okCm (f := 93) (B := 0) s2InM r0 (StLike.refl _) (loop_next (C := CCm Try.prog) okCm (f := 93) (B := 0) s2InM r1 (StLike.refl _) (loop_next (C := CCm Try.prog) okCm (f := 93) (B := 0) s2InM r2 (StLike.refl _) (loop_next (C := CCm Try.prog) okCm (f := 93) (B := 0) s2InM r3 (StLike.refl _) (loop_leave (C := CCm Try.prog) okCm (f := 93) (B := 0) s2InM r4 (by simp))))))
          | true =>
            rw [h4] at r4 h
            simp only at h
            have r5 := s2R5 f0 f1 f2 f3 f4 f5 f6 f7 f8 f9 f10 f11 f12 f13 f14 f15
            cases h5 : decide (f11 ≤ 0) with
            | false =>
              rw [h5] at r5 h
              simp only [stpHit, Option.some.injEq] at h
              rw [← h, ← en5_eq f0 f1 f2 f3 f4 f5 f6 f7 f8 f9 f10 f11 f12 f13 f14 f15]
              exact s2Hit (loop_next (C := CCm Try.prog) okCm (f := 93) (B := 0) s2InM r0 (StLike.refl _) (loop_next (C := CCm Try.prog) okCm (f := 93) (B := 0) s2InM r1 (StLike.refl _) (loop_next (C := CCm Try.prog) okCm (f := 93) (B := 0) s2InM r2 (StLike.refl _) (loop_next (C := CCm Try.prog) okCm (f := 93) (B := 0) s2InM r3 (StLike.refl _) (loop_next (C := CCm Try.prog) okCm (f := 93) (B := 0) s2InM r4 (StLike.refl _) (loop_leave (C := CCm Try.prog) okCm (f := 93) (B := 0) s2InM r5 (by simp)))))))
            | true =>
              rw [h5] at r5 h
              simp only at h
              simp only [Option.some.injEq] at h
              rw [← h]
              exact s2No (loop_next (C := CCm Try.prog) okCm (f := 93) (B := 0) s2InM r0 (StLike.refl _) (loop_next (C := CCm Try.prog) okCm (f := 93) (B := 0) s2InM r1 (StLike.refl _) (loop_next (C := CCm Try.prog) okCm (f := 93) (B := 0) s2InM r2 (StLike.refl _) (loop_next (C := CCm Try.prog) okCm (f := 93) (B := 0) s2InM r3 (StLike.refl _) (loop_next (C := CCm Try.prog) okCm (f := 93) (B := 0) s2InM r4 (StLike.refl _) (loop_next (C := CCm Try.prog) okCm (f := 93) (B := 0) s2InM r5 (StLike.refl _) (loop_leave (C := CCl Try.prog) okCl (f := 93) (B := 0) s2In.2 (s2Last f0 f1 f2 f3 f4 f5 f6 f7 f8 f9 f10 f11 f12 f13 f14 f15) (by simp))))))))
def s2Fn (l : List Int) : Option (Bool × Value) := some (lidB l, fStp l)
def CCt (P : Program) : Cx := (CCl P).addD 93 [some 16] s2Fn
theorem okCt : CxOk (CCt Try.prog) := Cx.addP_ok okCl fun args v _ h _ => by
  split at h
  · rename_i l hu
    obtain ⟨rfl, hl⟩ := unpack_spec _ _ _ hu
    obtain ⟨f0, f1, f2, f3, f4, f5, f6, f7, f8, f9, f10, f11, f12, f13, f14, f15, rfl⟩ := len16 hl
    simp only [s2Fn, Option.some.injEq, Prod.mk.injEq] at h
    obtain ⟨h0, rfl⟩ := h
    exact s2S f0 f1 f2 f3 f4 f5 f6 f7 f8 f9 f10 f11 f12 f13 f14 f15 _ (tStp_eq h0)
  · cases h
end Go.Proofs.Ytofblakbfmjgkaa
