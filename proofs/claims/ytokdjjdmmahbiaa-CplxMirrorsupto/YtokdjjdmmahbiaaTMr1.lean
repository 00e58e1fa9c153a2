/-
  facetlaw16.CplxMirrors by pieces. Nothing here is trusted.
-/
import Derived.Test.YtokdjjdmmahbiaaTCx9
import Derived.Test.YtokdjjdmmahbiaaTCs1
namespace Go.Proofs.Ytokdjjdmmahbiaa
open Go Vx Go.RowKit
def QN (a b c d : Nat) : Nat × Nat := (fsub .f64 (fmul .f64 a c) (fmul .f64 b d), fadd .f64 (fmul .f64 a d) (fmul .f64 b c))
def sgb (a : Nat) : Bool := decide (W (a : Int) < 0)
def mrA (x1 x2 : Nat) : Bool := !(sameN x1 x1 && sameN (fneg .f64 (fneg .f64 x2)) x2)
def mrB (x1 x2 y1 y2 : Nat) : Bool := !(eqN (QN x1 (fneg .f64 x2) y1 (fneg .f64 y2)).1 (QN x1 x2 y1 y2).1 && eqN (QN x1 (fneg .f64 x2) y1 (fneg .f64 y2)).2 (fneg .f64 (QN x1 x2 y1 y2).2))
def mrC (x1 x2 : Nat) : Bool := !(sameN (absV (fabs x1) (fabs (fneg .f64 x2))) (absV (fabs x1) (fabs x2)))
def mrD (x1 x2 : Nat) : Bool := !(sameN (fadd .f64 (fmul .f64 x1 x1) (fmul .f64 (fneg .f64 x2) (fneg .f64 x2))) (fadd .f64 (fmul .f64 x1 x1) (fmul .f64 x2 x2)))
def ei {α : Type} (b : Bool) (F R : Option α) : Option α := match b with
  | true => F
  | false => R
def chk {α : Type} (x1 x2 y1 y2 : Nat) (F R : Option α) : Option α := ei (mrA x1 x2) F (ei (mrB x1 x2 y1 y2) F (ei (mrC x1 x2) F (ei (mrD x1 x2) F (match feq .f64 x2 x2 with
  | true => gn (isNaNb .f64 (fneg .f64 x2)) (gn (isNaNb .f64 x2) (ei (sgb (fneg .f64 x2) == sgb x2) F R))
  | false => R))))
def prV (a b : Int) : Value := .agg #[.int .u64 a, .int .u64 b]
def mrBd (P : Program) : Code := bodyOf P 15
theorem mrBd_eq : Try.f15.body = some (mrBd Try.prog) := by kernel_rfl
def mrS1 (n : Nat) (l : List (Nat × Nat)) : St := stOf 95 [(2, SLa n), (12, .slice none 0 0), (13, .slice none 0 0)] [Ar n l]
theorem mrP1 (a b c d : Int) (n : Nat) (l : List (Nat × Nat)) : segR ((CCm Try.prog).into 15 1) 80 7 (mrBd Try.prog) [2, 12, 13] [.fix 0] (enter Try.f15 [prV a b, prV c d, SLa n] [Ar n l]) = chk a.toNat b.toNat c.toNat d.toNat none (some (mrS1 n l)) := by kernel_rfl
theorem mrZ (a b c d : Int) : exT ((CCm Try.prog).at 15) 80 Try.f15 [prV a b, prV c d, .slice none 0 0] [] [] = chk a.toNat b.toNat c.toNat d.toNat (some (.bool false, [])) (some (.bool true, [])) := by kernel_rfl
theorem mrFor : isFor 0 (stmt 7 (mrBd Try.prog)) = true := by kernel_rfl
theorem mrHas : hasStmt 7 (mrBd Try.prog) = true := by kernel_rfl
def mrHE (n : Nat) (l : List (Nat × Nat)) (i : Int) : St := stOf 95 [(12, .slice none 0 0), (13, .slice none 0 0), (71, SLa n), (72, vI n), (73, vI i)] [Ar n l, .no, .no]
def mrHR (n : Nat) (l : List (Nat × Nat)) (k : Nat) (r1 r2 : Nat → List Value) (i : Int) : St := stOf 95 [(12, .slice (some ⟨1, 0, some 0⟩) k 1), (13, .slice (some ⟨2, 0, some 0⟩) k 1), (71, SLa n), (72, vI n), (73, vI i)] [Ar n l, .rows true true 1 k r1, .rows true true 1 k r2]
def mrXE (n : Nat) (l : List (Nat × Nat)) : St := stOf 95 [(12, .slice none 0 0), (13, .slice none 0 0)] [Ar n l]
def mrXR (n : Nat) (l : List (Nat × Nat)) (k : Nat) (r1 r2 : Nat → List Value) : St := stOf 95 [(12, .slice (some ⟨1, 0, some 0⟩) k 1), (13, .slice (some ⟨2, 0, some 0⟩) k 1)] [Ar n l, .rows true true 1 k r1, .rows true true 1 k r2]
theorem mrHead (n : Nat) (l : List (Nat × Nat)) : roundR ((CCm Try.prog).into 15 1) 60 (forHead (stmt 7 (mrBd Try.prog))) [12, 13, 71, 72, 73] [12, 13, 71, 72, 73] [.fix 0, .slot 12, .slot 13] [.fix 0, .slot 12, .slot 13] (mrS1 n l) = some (.normal, mrHE n l 0) := by kernel_rfl
def cjp (p : Nat × Nat) : Nat × Nat := (p.1, fneg .f64 p.2)
theorem mrRE (n : Nat) (l : List (Nat × Nat)) (i : Nat) : roundR ((CCm Try.prog).into 15 1) 60 (forBody (stmt 7 (mrBd Try.prog))) [12, 13, 71, 72, 73] [12, 13] [.fix 0, .slot 12, .slot 13] [.fix 0] (mrHE n l (i : Int)) =
    (match decide ((i : Int) < (n : Int)) with
    | true => gd (boundsI i n) (some (.normal, mrHR n l 1 (chop 1 0 [aC .f64 (atU l i).1 (atU l i).2]) (chop 1 0 [aC .f64 (cjp (atU l i)).1 (cjp (atU l i)).2]) (W ((i : Int) + 1))))
    | false => some (.exit 0, mrXE n l)) := by kernel_rfl
theorem mrRR (n : Nat) (l : List (Nat × Nat)) (k : Nat) (y z : List (Nat × Nat)) (i : Nat) : roundR ((CCm Try.prog).into 15 1) 60 (forBody (stmt 7 (mrBd Try.prog))) [12, 13, 71, 72, 73] [12, 13] [.fix 0, .slot 12, .slot 13] [.fix 0, .slot 12, .slot 13] (mrHR n l k (cxRow y) (cxRow z) (i : Int)) =
    (match decide ((i : Int) < (n : Int)) with
    | true => gd (boundsI i n) (gd (nbT k) (gd (nbT k) (some (.normal, mrHR n l (k + 1) (catR k (cxRow y) (chop 1 0 [aC .f64 (atU l i).1 (atU l i).2])) (catR k (cxRow z) (chop 1 0 [aC .f64 (cjp (atU l i)).1 (cjp (atU l i)).2])) (W ((i : Int) + 1))))))
    | false => some (.exit 0, mrXR n l k (cxRow y) (cxRow z))) := by kernel_rfl
theorem mrEndE (n : Nat) (l : List (Nat × Nat)) : roundR ((CCm Try.prog).into 15 1) 60 (seqDrop 8 (mrBd Try.prog)) [6] [6] [.fix 0] [.fix 0] (mrXE n l) = some (.ret, stOf 95 [(6, .bool true)] [Ar n l]) := by kernel_rfl
theorem mrEndR (n : Nat) (l : List (Nat × Nat)) (k : Nat) (y z : List (Nat × Nat)) : roundR ((CCm Try.prog).into 15 1) 60 (seqDrop 8 (mrBd Try.prog)) [6] [6] [.fix 0] [.fix 0] (mrXR n l k (cxRow y) (cxRow z)) = gd (lk k) (gd (tS k (cxRow z)) (gd (lk k) (gd (tS k (cxRow y)) (some (.ret, stOf 95 [(6, .bool (eqN (sumz k (cxRow z)).1 (sumz k (cxRow y)).1 && eqN (sumz k (cxRow z)).2 (fneg .f64 (sumz k (cxRow y)).2)))] [Ar n l]))))) := by kernel_rfl
theorem mrRet (n : Nat) (l : List (Nat × Nat)) (b : Bool) : (retA Try.prog Try.f15 (.ret, stOf 95 [(6, .bool b)] [Ar n l])).res = some (.bool b, [Ar n l]) := by kernel_rfl
set_option maxRecDepth 100000 in
theorem mrIn : InBody ((CCm Try.prog).into 15 1) (forHead (stmt 7 (mrBd Try.prog))) ∧ InBody ((CCm Try.prog).into 15 1) (forBody (stmt 7 (mrBd Try.prog))) := for_in (C := CCm Try.prog) (f := 15) (B := 1) (id := 0) (k := 7) (fn := Try.f15) (b := mrBd Try.prog) Try.func15 mrBd_eq mrFor

/-! ## The mathematics -/
theorem fneg_fneg (x : Nat) : fneg .f64 (fneg .f64 x) = x := by unfold fneg Op.negFloat; rw [Nat.xor_assoc, Nat.xor_self, Nat.xor_zero]
theorem fabs_fneg (x : Nat) : fabs (fneg .f64 x) = fabs x := by
  have := fneg_mod .f64 x
  rw [show FloatKind.f64.format.signWeight = 9223372036854775808 from sw64] at this
  exact this
theorem opp_product (x y : Ieee.Datum) : x.opposite.product y.opposite = x.product y := by
  cases x <;> cases y <;> simp [Ieee.Datum.opposite, Ieee.Datum.product]
theorem fmul_neg_neg (x y : Nat) : fmul .f64 (fneg .f64 x) (fneg .f64 y) = fmul .f64 x y := by
  unfold fmul Ieee.Format.mul
  rw [read_fneg, read_fneg, opp_product]
theorem mrA_ok (x1 x2 : Nat) : mrA x1 x2 = false := by unfold mrA; rw [fneg_fneg, sameN_refl, sameN_refl]; rfl
theorem mrB_ok (x1 x2 y1 y2 : Nat) : mrB x1 x2 y1 y2 = false := by
  have h1 : cls (QN x1 (fneg .f64 x2) y1 (fneg .f64 y2)).1 = cls (QN x1 x2 y1 y2).1 := by unfold QN; simp only; rw [fmul_neg_neg]
  have h2 : cls (QN x1 (fneg .f64 x2) y1 (fneg .f64 y2)).2 = cls (fneg .f64 (QN x1 x2 y1 y2).2) := by
    unfold QN
    simp only
    rw [cls_neg, cls_addA, cls_addA, cls_mulA, cls_mulA, cls_mulA, cls_mulA, cls_neg, cls_neg, mulCl_negR, mulCl_negL, addCl_neg]
  unfold mrB
  rw [eqN_cls h1, eqN_cls h2]
  rfl
theorem mrC_ok (x1 x2 : Nat) : mrC x1 x2 = false := by unfold mrC; rw [fabs_fneg, sameN_refl]; rfl
theorem mrD_ok (x1 x2 : Nat) : mrD x1 x2 = false := by unfold mrD; rw [fmul_neg_neg, sameN_refl]; rfl
theorem sgb_neg {x : Nat} (h : x < 18446744073709551616) : (sgb (fneg .f64 x) == sgb x) = false := by
  have h1 : fneg .f64 x % 9223372036854775808 = x % 9223372036854775808 := fabs_fneg x
  have h2 : fneg .f64 x < 18446744073709551616 := by
    unfold fneg Op.negFloat
    exact Nat.xor_lt_two_pow (n := 64) h (by decide)
  have h3 : fneg .f64 x ≠ x := fun e => by
    have := congrArg (fun z => z.testBit 63) e
    simp only [fneg, Op.negFloat] at this
    rw [show (FloatKind.f64.format.exponentBits + FloatKind.f64.format.fractionBits) = 63 from rfl, Nat.testBit_xor, Nat.testBit_two_pow_self] at this
    cases hb : x.testBit 63 <;> simp [hb] at this
  generalize fneg .f64 x = y at h1 h2 h3
  unfold sgb
  simp only [W_eq]
  by_cases hx : x < 9223372036854775808
  · rw [decide_eq_true (by omega : ((y : Int) + 9223372036854775808) % 18446744073709551616 - 9223372036854775808 < 0), decide_eq_false (by omega : ¬ ((x : Int) + 9223372036854775808) % 18446744073709551616 - 9223372036854775808 < 0)]
    rfl
  · rw [decide_eq_false (by omega : ¬ ((y : Int) + 9223372036854775808) % 18446744073709551616 - 9223372036854775808 < 0), decide_eq_true (by omega : ((x : Int) + 9223372036854775808) % 18446744073709551616 - 9223372036854775808 < 0)]
    rfl
theorem chk_ok {α : Type} (x1 x2 y1 y2 : Nat) (h : x2 < 18446744073709551616) (F R : Option α) : chk x1 x2 y1 y2 F R = R := by
  unfold chk
  rw [mrA_ok, mrB_ok, mrC_ok, mrD_ok]
  simp only [ei]
  cases hf : feq .f64 x2 x2 with
  | false => rfl
  | true =>
    rw [feq_self] at hf
    have h1 : isNaNb .f64 x2 = false := by cases hq : isNaNb .f64 x2 with | false => rfl | true => rw [hq] at hf; cases hf
    have h2 : isNaNb .f64 (fneg .f64 x2) = false := by
      cases hq : isNaNb .f64 (fneg .f64 x2) with
      | false => rfl
      | true =>
        have := fneg_nan hq
        rw [fneg_fneg, h1] at this
        cases this
    rw [h1, h2, sgb_neg h]
    rfl
theorem cfold_conj : ∀ (l : List (Nat × Nat)) (z z' : Nat × Nat), z'.1 = z.1 → cls z'.2 = negC (cls z.2) → (cfold (l.map cjp) z').1 = (cfold l z).1 ∧ cls (cfold (l.map cjp) z').2 = negC (cls (cfold l z).2)
  | [], z, z', h1, h2 => ⟨h1, h2⟩
  | x :: l, z, z', h1, h2 => by
    simp only [List.map_cons, cfold]
    refine cfold_conj l _ _ ?_ ?_
    · simp only [cjp]; rw [h1]
    · simp only [cjp]
      rw [cls_addA, cls_addA, h2, cls_neg, addCl_neg]
theorem mrLoopR (l : List (Nat × Nat)) (hn : l.length ≤ 1048576) : ∀ (c i : Nat) (y : List (Nat × Nat)), l.length - i ≤ c → i ≤ l.length → y.length ≤ i → LoopSem Try.prog 1 (forBody (stmt 7 (mrBd Try.prog))) (mrHR l.length l y.length (cxRow y) (cxRow (y.map cjp)) (i : Int)) (.exit 0) (mrXR l.length l (y ++ l.drop i).length (cxRow (y ++ l.drop i)) (cxRow ((y ++ l.drop i).map cjp))) := by
  intro c
  have out : ∀ (i : Nat) (y : List (Nat × Nat)), i = l.length → LoopSem Try.prog 1 (forBody (stmt 7 (mrBd Try.prog))) (mrHR l.length l y.length (cxRow y) (cxRow (y.map cjp)) (i : Int)) (.exit 0) (mrXR l.length l (y ++ l.drop i).length (cxRow (y ++ l.drop i)) (cxRow ((y ++ l.drop i).map cjp))) := by
    intro i y hi
    have hr := mrRR l.length l y.length y (y.map cjp) i
    rw [show decide ((i : Int) < (l.length : Int)) = false by simp; omega] at hr
    rw [List.drop_eq_nil_of_le (by omega), List.append_nil]
    exact loop_leave (C := CCm Try.prog) okCm (f := 15) (B := 1) mrIn.2 hr (by simp)
  induction c with
  | zero => intro i y h1 h2 _; exact out i y (by omega)
  | succ c ih =>
    intro i y h1 h2 h3
    by_cases hi : i < l.length
    · have hr := mrRR l.length l y.length y (y.map cjp) i
      rw [show decide ((i : Int) < (l.length : Int)) = true by simpa using hi, bd_ok' hi, show W ((i : Int) + 1) = ((i + 1 : Nat) : Int) by rw [W_in (by omega)]; simp, nbT_ok (by omega)] at hr
      simp only [gd_true] at hr
      have := ih (i + 1) (y ++ [atU l i]) (by omega) (by omega) (by simp; omega)
      rw [drop_atU hi]
      rw [show (y ++ [atU l i]).length = y.length + 1 by simp, List.append_assoc, List.singleton_append] at this
      exact loop_next (C := CCm Try.prog) okCm (f := 15) (B := 1) (s2 := mrHR l.length l (y.length + 1) (cxRow (y ++ [atU l i])) (cxRow ((y ++ [atU l i]).map cjp)) ((i + 1 : Nat) : Int)) mrIn.2 hr ⟨rfl, .refl _, .rows (cx_snoc y (atU l i) rfl), .rows (by rw [List.map_append]; exact cx_snoc (y.map cjp) (cjp (atU l i)) (by simp)), trivial⟩ this
    · exact out i y (by omega)
theorem mrSem (a b c d : Int) (hb : b < 18446744073709551616) (l : List (Nat × Nat)) (hn : l.length ≤ 1048576) : MemSem Try.prog 15 [prV a b, prV c d, SLa l.length] [Ar l.length l] (.bool true) [Ar l.length l] := by
  have body0 : InBody ((CCm Try.prog).into 15 1) (mrBd Try.prog) := Or.inl ⟨Try.f15, mrBd Try.prog, Try.func15, mrBd_eq, fun _ hx => hx⟩
  have r1 := mrP1 a b c d l.length l
  rw [chk_ok _ _ _ _ (by omega) _ _] at r1
  refine body_mem (f := 15) Try.func15 mrBd_eq (by kernel_rfl) (seg_rule (C := CCm Try.prog) okCm (f := 15) (B := 1) (k := 7) body0 r1 ?_) (mrRet l.length l true)
  have hhead := end_rule (C := CCm Try.prog) okCm (f := 15) (B := 1) mrIn.1 (mrHead l.length l)
  by_cases h0 : l.length = 0
  · have r2 := mrRE l.length l 0
    rw [show decide (((0 : Nat) : Int) < (l.length : Int)) = false by rw [h0]; rfl] at r2
    exact stmt_rule mrHas (for_rule mrFor hhead (loop_leave (C := CCm Try.prog) okCm (f := 15) (B := 1) mrIn.2 r2 (by simp))) (end_rule (C := CCm Try.prog) okCm (f := 15) (B := 1) (bodyOf_in Try.func15 mrBd_eq) (mrEndE l.length l))
  · have h1 : 0 < l.length := by omega
    have r2 := mrRE l.length l 0
    rw [show decide (((0 : Nat) : Int) < (l.length : Int)) = true by simpa using h1, bd_ok' h1, show W (((0 : Nat) : Int) + 1) = ((0 + 1 : Nat) : Int) by rw [W_in (by omega)]; simp] at r2
    simp only [gd_true] at r2
    have hl := mrLoopR l hn l.length 1 [atU l 0] (by omega) (by omega) (by simp)
    have e1 : [atU l 0] ++ l.drop 1 = l := by
      have := drop_atU h1
      rw [List.drop_zero] at this
      exact this.symm
    rw [e1] at hl
    have hloop := loop_next (C := CCm Try.prog) okCm (f := 15) (B := 1) (s2 := mrHR l.length l 1 (cxRow [atU l 0]) (cxRow ([atU l 0].map cjp)) ((0 + 1 : Nat) : Int)) mrIn.2 r2 ⟨rfl, .refl _, .rows (cx_one (atU l 0)), .rows (cx_one (cjp (atU l 0))), trivial⟩ hl
    have r3 := mrEndR l.length l l.length l (l.map cjp)
    obtain ⟨g1, g2⟩ := cfold_conj l (0, 0) (0, 0) rfl (by rw [cls_zero]; rfl)
    rw [lk_true, tS_ok _ (by omega), tS_ok _ (by omega), sumz_row rfl, sumz_row (l := l.map cjp) (by simp), g1, eqN_cls rfl, eqN_cls (g2.trans (cls_neg _).symm)] at r3
    exact stmt_rule mrHas (for_rule mrFor hhead hloop) (end_rule (C := CCm Try.prog) okCm (f := 15) (B := 1) (bodyOf_in Try.func15 mrBd_eq) r3)
theorem mrNil (a b c d : Int) (hb : b < 18446744073709551616) : MemSem Try.prog 15 [prV a b, prV c d, .slice none 0 0] [] (.bool true) [] := by
  refine exT_ok okCm Try.func15 (by kernel_rfl) (n := 80) (sp := []) ((mrZ a b c d).trans ?_)
  rw [chk_ok _ _ _ _ (by omega) _ _]
end Go.Proofs.Ytokdjjdmmahbiaa
