/-
  The document's answer for layer 5 (group), the functions without lists: what the executor finds ('t..'), and what that comes to. Nothing here is trusted.
-/
import Derived.Test.YtcefeamjnnkahaaGl
import Derived.Test.YtcefeamjnnkahaaGn

namespace Go.Proofs.Ytcefeamjnnkahaa.Vx
open Go
def tF2Cmp (u v : V3) : Option Value := chainO mk1 (dcompT u.l v.l) [0]
def fF2Cmp (u v : V3) : Value := vI (lexI u.l v.l)
theorem tF2Cmp_eq (u v : V3) : tF2Cmp u v = some (fF2Cmp u v) := by
  unfold tF2Cmp fF2Cmp
  rw [chain_eq, ← dcomp_lex u.l v.l rfl]; rfl
def M3.r0 (m : M3) : V3 := ⟨m.a, m.b, m.c⟩
def M3.r1 (m : M3) : V3 := ⟨m.d, m.e, m.f⟩
def M3.r2 (m : M3) : V3 := ⟨m.g, m.h, m.i⟩
def tR5CmpM (a b : M3) : Option Value := chainO mk1 [(lexI a.r0.l b.r0.l != 0, [lexI a.r0.l b.r0.l]), (lexI a.r1.l b.r1.l != 0, [lexI a.r1.l b.r1.l]), (lexI a.r2.l b.r2.l != 0, [lexI a.r2.l b.r2.l])] [0]
theorem lex_ne (x : Int) (y : Int) : (if x ≠ 0 then x else y) = match x != 0 with
    | true => x
    | false => y := by
  by_cases h : x = 0
  · subst h; simp
  · rw [if_pos h, (bif_beq h).2]
theorem tR5CmpM_eq (a b : M3) : tR5CmpM a b = some (fVCompare a b) := by
  unfold tR5CmpM fVCompare
  rw [chain_eq]
  have e1 : lexI a.l b.l = lexI (a.r0.l ++ (a.r1.l ++ a.r2.l)) (b.r0.l ++ (b.r1.l ++ b.r2.l)) := rfl
  rw [e1, lexI_append a.r0.l b.r0.l _ _ rfl, lexI_append a.r1.l b.r1.l _ _ rfl]
  by_cases h0 : lexI a.r0.l b.r0.l = 0
  · by_cases h1 : lexI a.r1.l b.r1.l = 0
    · by_cases h2 : lexI a.r2.l b.r2.l = 0
      · rw [h0, h1, h2]; rfl
      · rw [h0, h1]; simp only [chainL, bne_self_eq_false, (bif_beq h2).2, ne_eq, not_true_eq_false, if_false]; rfl
    · rw [h0]; simp only [chainL, bne_self_eq_false, (bif_beq h1).2, ne_eq, not_true_eq_false, if_false, h1, not_false_eq_true, if_true]; rfl
  · simp only [chainL, (bif_beq h0).2, ne_eq, h0, not_false_eq_true, if_true]; rfl
def tR5Cmp (a b : O3) : Option Value := match lexI a.r.l b.r.l != 0 with
  | true => some (vI (lexI a.r.l b.r.l))
  | false => some (vI (lexI a.t.l b.t.l))
theorem tR5Cmp_eq (a b : O3) : tR5Cmp a b = some (fOCompare a b) := by
  unfold tR5Cmp fOCompare
  have e1 : lexI a.l b.l = lexI (a.r.l ++ a.t.l) (b.r.l ++ b.t.l) := rfl
  rw [e1, lexI_append a.r.l b.r.l _ _ rfl, lex_ne]
  cases lexI a.r.l b.r.l != 0 <;> rfl
/-- A product as the document makes it. -/
def mul5 (t x y z u v w : Int) : Int := W (W (W (t + W (x * u)) + W (y * v)) + W (z * w)) % 24
def O3.mul5 (a b : O3) : O3 := ⟨(a.r.mul b.r).w, ⟨Vx.mul5 a.t.x a.r.a a.r.b a.r.c b.t.x b.t.y b.t.z, Vx.mul5 a.t.y a.r.d a.r.e a.r.f b.t.x b.t.y b.t.z, Vx.mul5 a.t.z a.r.g a.r.h a.r.i b.t.x b.t.y b.t.z⟩⟩
def tR5Mul (a b : O3) : Option Value := some (O3.v ⟨⟨rdot a.r.a a.r.b a.r.c b.r.a b.r.d b.r.g, rdot a.r.a a.r.b a.r.c b.r.b b.r.e b.r.h, rdot a.r.a a.r.b a.r.c b.r.c b.r.f b.r.i, rdot a.r.d a.r.e a.r.f b.r.a b.r.d b.r.g, rdot a.r.d a.r.e a.r.f b.r.b b.r.e b.r.h, rdot a.r.d a.r.e a.r.f b.r.c b.r.f b.r.i, rdot a.r.g a.r.h a.r.i b.r.a b.r.d b.r.g, rdot a.r.g a.r.h a.r.i b.r.b b.r.e b.r.h, rdot a.r.g a.r.h a.r.i b.r.c b.r.f b.r.i⟩, (a.mul5 b).t⟩)
def fR5Mul (a b : O3) : Value := (a.mul5 b).v
theorem tR5Mul_eq (a b : O3) : tR5Mul a b = some (fR5Mul a b) := by
  unfold tR5Mul fR5Mul
  simp only [rdot_eq, dotR_W]
  rfl
theorem mul5_eq {t x y z u v w : Int} (ht : 0 ≤ t ∧ t ≤ 23) (hx : -1000 ≤ x ∧ x ≤ 1000) (hy : -1000 ≤ y ∧ y ≤ 1000) (hz : -1000 ≤ z ∧ z ≤ 1000) (hu : 0 ≤ u ∧ u ≤ 23) (hv : 0 ≤ v ∧ v ≤ 23) (hw : 0 ≤ w ∧ w ≤ 23) : Vx.mul5 t x y z u v w = (x * u + y * v + z * w + t) % 24 := by
  have h1 := bd_mul (n := 23) hx (y := u) (by omega)
  have h2 := bd_mul (n := 23) hy (y := v) (by omega)
  have h3 := bd_mul (n := 23) hz (y := w) (by omega)
  unfold Vx.mul5
  rw [W_in (n := x * u) (by omega), W_in (n := y * v) (by omega), W_in (n := z * w) (by omega), W_in (n := t + x * u) (by omega), W_in (n := t + x * u + y * v) (by omega), W_in (by omega)]
  congr 1; omega
theorem O3.mul5_eq {a b : O3} (ha : a.ck = 0) (hb : b.ck = 0) : a.mul5 b = a.mul b := by
  obtain ⟨a1, a2, a3⟩ := O3.ck_zero.1 ha
  obtain ⟨b1, b2, b3⟩ := O3.ck_zero.1 hb
  obtain ⟨k0, k1, k2, k3, k4, k5, k6, k7, k8⟩ := M3.ok_iff.1 a2
  obtain ⟨t0, t1, t2⟩ := V3.part_iff.1 a1
  obtain ⟨u0, u1, u2⟩ := V3.part_iff.1 b1
  unfold O3.mul5 O3.mul
  rw [M3.w_eq (((M3.ok_iff.1 a2).mul (M3.ok_iff.1 b2)).mono (by omega)), Vx.mul5_eq t0 k0 k1 k2 u0 u1 u2, Vx.mul5_eq t1 k3 k4 k5 u0 u1 u2, Vx.mul5_eq t2 k6 k7 k8 u0 u1 u2]
  rfl
end Go.Proofs.Ytcefeamjnnkahaa.Vx


namespace Go.Proofs.Ytcefeamjnnkahaa
open Go Vx

def Ch0 (P : Program) : Cx := Ccs P
theorem okh0 : CxOk (Ch0 Try.prog) := okcs
/-- facetref02.Mod -/
theorem eh1 (a b : Int) : exFun ((Ch0 Try.prog).at 59) 60 Try.f59 (pack [none, none] [a, b]) = tResidue a b := by kernel_rfl
def Fh_59 : List Int → Option (Bool × Value)
  | [a, b] => some (modB b, vI (a % b))
  | _ => none
def Ch1 (P : Program) : Cx := (Ch0 P).addD 59 [none, none] Fh_59
theorem okh1 : CxOk (Ch1 Try.prog) := Cx.addD_ok okh0 (n := 60) Try.func59 (by kernel_rfl) fun l v hl h => by
  match l, hl, h with
  | [a, b], _, hh => simp only [Fh_59, Option.some.injEq, Prod.mk.injEq] at hh; rw [eh1, tResidue_eq hh.1, hh.2]
/-- facetref02.Bring -/
theorem eh2 (a0 a1 a2 b : Int) : exFun ((Ch1 Try.prog).at 55) 60 Try.f55 (pack [some 3, none] [a0, a1, a2, b]) = tBring ⟨a0, a1, a2⟩ b := by kernel_rfl
def Fh_55 : List Int → Option (Bool × Value)
  | [a0, a1, a2, b] => some (modB b, (V3.md b ⟨a0, a1, a2⟩).v)
  | _ => none
def Ch2 (P : Program) : Cx := (Ch1 P).addD 55 [some 3, none] Fh_55
theorem okh2 : CxOk (Ch2 Try.prog) := Cx.addD_ok okh1 (n := 60) Try.func55 (by kernel_rfl) fun l v hl h => by
  match l, hl, h with
  | [a0, a1, a2, b], _, hh => simp only [Fh_55, Option.some.injEq, Prod.mk.injEq] at hh; rw [eh2, tBring_eq hh.1, hh.2]
/-- facetref02.Compare -/
theorem eh3 (a0 a1 a2 b0 b1 b2 : Int) : exFun ((Ch2 Try.prog).at 58) 60 Try.f58 (pack [some 3, some 3] [a0, a1, a2, b0, b1, b2]) = tF2Cmp ⟨a0, a1, a2⟩ ⟨b0, b1, b2⟩ := by kernel_rfl
def Fh_58 : List Int → Option Value
  | [a0, a1, a2, b0, b1, b2] => some (fF2Cmp ⟨a0, a1, a2⟩ ⟨b0, b1, b2⟩)
  | _ => none
def Ch3 (P : Program) : Cx := (Ch2 P).add 58 [some 3, some 3] Fh_58
theorem okh3 : CxOk (Ch3 Try.prog) := Cx.add_ok okh2 (n := 60) Try.func58 (by kernel_rfl) fun l v hl h => by
  match l, hl, h with
  | [a0, a1, a2, b0, b1, b2], _, hh => rw [eh3, tF2Cmp_eq]; exact hh
/-- facetref05.Det -/
theorem eh4 (a0 a1 a2 a3 a4 a5 a6 a7 a8 : Int) : exFun ((Ch3 Try.prog).at 54) 60 Try.f54 (pack [some 9] [a0, a1, a2, a3, a4, a5, a6, a7, a8]) = tRDet ⟨a0, a1, a2, a3, a4, a5, a6, a7, a8⟩ := by kernel_rfl
def Fh_54 : List Int → Option Value
  | [a0, a1, a2, a3, a4, a5, a6, a7, a8] => some (fRDet ⟨a0, a1, a2, a3, a4, a5, a6, a7, a8⟩)
  | _ => none
def Ch4 (P : Program) : Cx := (Ch3 P).add 54 [some 9] Fh_54
theorem okh4 : CxOk (Ch4 Try.prog) := Cx.add_ok okh3 (n := 60) Try.func54 (by kernel_rfl) fun l v hl h => by
  match l, hl, h with
  | [a0, a1, a2, a3, a4, a5, a6, a7, a8], _, hh => rw [eh4, tRDet_eq]; exact hh
/-- facetref05.Within -/
theorem eh5 (a0 a1 a2 a3 a4 a5 a6 a7 a8 : Int) : exFun ((Ch4 Try.prog).at 53) 60 Try.f53 (pack [some 9] [a0, a1, a2, a3, a4, a5, a6, a7, a8]) = tWithinM ⟨a0, a1, a2, a3, a4, a5, a6, a7, a8⟩ := by kernel_rfl
def Fh_53 : List Int → Option Value
  | [a0, a1, a2, a3, a4, a5, a6, a7, a8] => some (fWithinM ⟨a0, a1, a2, a3, a4, a5, a6, a7, a8⟩)
  | _ => none
def Ch5 (P : Program) : Cx := (Ch4 P).add 53 [some 9] Fh_53
theorem okh5 : CxOk (Ch5 Try.prog) := Cx.add_ok okh4 (n := 60) Try.func53 (by kernel_rfl) fun l v hl h => by
  match l, hl, h with
  | [a0, a1, a2, a3, a4, a5, a6, a7, a8], _, hh => rw [eh5, tWithinM_eq]; exact hh
/-- facetref05.CompareMat -/
theorem eh6 (a0 a1 a2 a3 a4 a5 a6 a7 a8 b0 b1 b2 b3 b4 b5 b6 b7 b8 : Int) : exFun ((Ch5 Try.prog).at 57) 60 Try.f57 (pack [some 9, some 9] [a0, a1, a2, a3, a4, a5, a6, a7, a8, b0, b1, b2, b3, b4, b5, b6, b7, b8]) = tR5CmpM ⟨a0, a1, a2, a3, a4, a5, a6, a7, a8⟩ ⟨b0, b1, b2, b3, b4, b5, b6, b7, b8⟩ := by kernel_rfl
def Fh_57 : List Int → Option Value
  | [a0, a1, a2, a3, a4, a5, a6, a7, a8, b0, b1, b2, b3, b4, b5, b6, b7, b8] => some (fVCompare ⟨a0, a1, a2, a3, a4, a5, a6, a7, a8⟩ ⟨b0, b1, b2, b3, b4, b5, b6, b7, b8⟩)
  | _ => none
def Ch6 (P : Program) : Cx := (Ch5 P).add 57 [some 9, some 9] Fh_57
theorem okh6 : CxOk (Ch6 Try.prog) := Cx.add_ok okh5 (n := 60) Try.func57 (by kernel_rfl) fun l v hl h => by
  match l, hl, h with
  | [a0, a1, a2, a3, a4, a5, a6, a7, a8, b0, b1, b2, b3, b4, b5, b6, b7, b8], _, hh => rw [eh6, tR5CmpM_eq]; exact hh
/-- facetref05.Compare -/
theorem eh7 (a0 a1 a2 a3 a4 a5 a6 a7 a8 a9 a10 a11 b0 b1 b2 b3 b4 b5 b6 b7 b8 b9 b10 b11 : Int) : exFun ((Ch6 Try.prog).at 37) 60 Try.f37 (pack [some 12, some 12] [a0, a1, a2, a3, a4, a5, a6, a7, a8, a9, a10, a11, b0, b1, b2, b3, b4, b5, b6, b7, b8, b9, b10, b11]) = tR5Cmp ⟨⟨a0, a1, a2, a3, a4, a5, a6, a7, a8⟩, ⟨a9, a10, a11⟩⟩ ⟨⟨b0, b1, b2, b3, b4, b5, b6, b7, b8⟩, ⟨b9, b10, b11⟩⟩ := by kernel_rfl
def Fh_37 : List Int → Option Value
  | [a0, a1, a2, a3, a4, a5, a6, a7, a8, a9, a10, a11, b0, b1, b2, b3, b4, b5, b6, b7, b8, b9, b10, b11] => some (fOCompare ⟨⟨a0, a1, a2, a3, a4, a5, a6, a7, a8⟩, ⟨a9, a10, a11⟩⟩ ⟨⟨b0, b1, b2, b3, b4, b5, b6, b7, b8⟩, ⟨b9, b10, b11⟩⟩)
  | _ => none
def Ch7 (P : Program) : Cx := (Ch6 P).add 37 [some 12, some 12] Fh_37
theorem okh7 : CxOk (Ch7 Try.prog) := Cx.add_ok okh6 (n := 60) Try.func37 (by kernel_rfl) fun l v hl h => by
  match l, hl, h with
  | [a0, a1, a2, a3, a4, a5, a6, a7, a8, a9, a10, a11, b0, b1, b2, b3, b4, b5, b6, b7, b8, b9, b10, b11], _, hh => rw [eh7, tR5Cmp_eq]; exact hh
/-- facetref05.Mul -/
theorem eh8 (a0 a1 a2 a3 a4 a5 a6 a7 a8 a9 a10 a11 b0 b1 b2 b3 b4 b5 b6 b7 b8 b9 b10 b11 : Int) : exFun ((Ch7 Try.prog).at 39) 60 Try.f39 (pack [some 12, some 12] [a0, a1, a2, a3, a4, a5, a6, a7, a8, a9, a10, a11, b0, b1, b2, b3, b4, b5, b6, b7, b8, b9, b10, b11]) = tR5Mul ⟨⟨a0, a1, a2, a3, a4, a5, a6, a7, a8⟩, ⟨a9, a10, a11⟩⟩ ⟨⟨b0, b1, b2, b3, b4, b5, b6, b7, b8⟩, ⟨b9, b10, b11⟩⟩ := by kernel_rfl
def Fh_39 : List Int → Option Value
  | [a0, a1, a2, a3, a4, a5, a6, a7, a8, a9, a10, a11, b0, b1, b2, b3, b4, b5, b6, b7, b8, b9, b10, b11] => some (fR5Mul ⟨⟨a0, a1, a2, a3, a4, a5, a6, a7, a8⟩, ⟨a9, a10, a11⟩⟩ ⟨⟨b0, b1, b2, b3, b4, b5, b6, b7, b8⟩, ⟨b9, b10, b11⟩⟩)
  | _ => none
def Ch8 (P : Program) : Cx := (Ch7 P).add 39 [some 12, some 12] Fh_39
theorem okh8 : CxOk (Ch8 Try.prog) := Cx.add_ok okh7 (n := 60) Try.func39 (by kernel_rfl) fun l v hl h => by
  match l, hl, h with
  | [a0, a1, a2, a3, a4, a5, a6, a7, a8, a9, a10, a11, b0, b1, b2, b3, b4, b5, b6, b7, b8, b9, b10, b11], _, hh => rw [eh8, tR5Mul_eq]; exact hh

def CCh (P : Program) : Cx := Ch8 P
theorem okCh : CxOk (CCh Try.prog) := okh8

end Go.Proofs.Ytcefeamjnnkahaa
