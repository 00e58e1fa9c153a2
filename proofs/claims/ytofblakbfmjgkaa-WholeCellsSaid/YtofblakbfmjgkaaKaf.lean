/-
  Loops that stand alone as a statement; functions whose contract is a call without memory. Nothing here is trusted.
-/
import Derived.Test.YtofblakbfmjgkaaKae
import Derived.Test.YtofblakbfmjgkaaKad

namespace Go.Proofs.Ytofblakbfmjgkaa.Vx
open Go Go.RowKit
theorem loop_leave {C : Cx} (hC : CxOk C) {f B n : Nat} {x : Code} {st s : St} {e : Exit} {mask mout : List Nat} {sp so : List From} (hin : InBody (C.into f B) x) (h : roundR (C.into f B) n x mask mout sp so st = some (e, s)) (he : e ≠ .normal) : LoopSem C.P B x st e s := by
  intro Q w0 keep r0 a w hB hQ hr
  obtain ⟨⟨e1, s1⟩, h3, h4⟩ := Ans.bind_some h
  refine LoopsTo.round ((exCode_sound hC n).1 f B x hin _ _ _ h3 _ w0 keep r0 a w hB ?_ hr)
  intro a' w' hr'
  obtain ⟨rfl, hs⟩ := clean_rel h4 hB hr'
  revert he hQ hs
  cases e <;> intro he hQ hs <;> first | exact absurd rfl he | exact hQ a' w' hs
theorem loop_next {C : Cx} (hC : CxOk C) {f B n : Nat} {x : Code} {st s s2 s3 : St} {e : Exit} {mask mout : List Nat} {sp so : List From} (hin : InBody (C.into f B) x) (h : roundR (C.into f B) n x mask mout sp so st = some (.normal, s)) (hl : StLike s s2) (hn : LoopSem C.P B x s2 e s3) : LoopSem C.P B x st e s3 := by
  intro Q w0 keep r0 a w hB hQ hr
  obtain ⟨⟨e1, s1⟩, h3, h4⟩ := Ans.bind_some h
  refine LoopsTo.round ((exCode_sound hC n).1 f B x hin _ _ _ h3 _ w0 keep r0 a w hB ?_ hr)
  intro a' w' hr'
  obtain ⟨he, hs⟩ := clean_rel h4 hB hr'
  subst he
  exact hn Q w0 keep r0 a' w' hB hQ (hs.like hl)
def blkBody : Code → Code
  | .block _ (.loop x) => x
  | _ => .skip
def isBlk (id : Nat) : Code → Bool
  | .block i (.loop _) => Nat.beq i id
  | _ => false
theorem blk_rule {P : Program} {B id : Nat} {c : Code} {st s' : St} (hf : isBlk id c = true) (h2 : LoopSem P B (blkBody c) st (.exit id) s') : CodeSem P B c st .normal s' := by
  unfold isBlk at hf
  split at hf
  · rename_i i y
    have := Nat.eq_of_beq_eq_true hf
    subst this
    exact CodeSem.block (CodeSem.loop h2)
  · cases hf
theorem blk_ret {P : Program} {B id : Nat} {c : Code} {st s' : St} (hf : isBlk id c = true) (h2 : LoopSem P B (blkBody c) st .ret s') : CodeSem P B c st .ret s' := by
  unfold isBlk at hf
  split at hf
  · exact CodeSem.blockR (CodeSem.loop h2)
  · cases hf
theorem blk_in {C : Cx} {f B id k : Nat} {fn : Func} {b : Code} (hf : C.P.funcs[f]? = some fn) (hb : fn.body = some b) (hs : isBlk id (stmt k b) = true) : InBody (C.into f B) (blkBody (stmt k b)) := by
  have h0 : ∀ x ∈ loopsIn (stmt k b), x ∈ loopsIn b := fun x hx => by
    refine seqDrop_loops k b x ?_
    unfold stmt at hx
    cases hc : seqDrop k b with
    | seq p q => rw [hc] at hx; simp only at hx; simp [loopsIn, hx]
    | _ => rw [hc] at hx; simp [loopsIn] at hx
  unfold isBlk at hs
  split at hs
  · rename_i i y hst
    rw [hst] at h0 ⊢
    exact Or.inl ⟨fn, b, hf, hb, fun z hz => h0 z (by simp only [blkBody] at hz; simp [loopsIn, hz])⟩
  · cases hs
theorem blk_inD {C : Cx} {f B id k : Nat} {fn : Func} {b : Code} (hf : C.P.funcs[f]? = some fn) (hb : fn.body = some b) (hs : isBlk id (seqDrop k b) = true) : InBody (C.into f B) (blkBody (seqDrop k b)) := by
  have h0 : ∀ x ∈ loopsIn (seqDrop k b), x ∈ loopsIn b := seqDrop_loops k b
  unfold isBlk at hs
  split at hs
  · rename_i i y hst
    rw [hst] at h0 ⊢
    exact Or.inl ⟨fn, b, hf, hb, fun z hz => h0 z (by simp only [blkBody] at hz; simp [loopsIn, hz])⟩
  · cases hs
/-- A statement that returns. -/
theorem stmt_out {P : Program} {B k : Nat} {c : Code} {st s : St} {e : Exit} (hk : hasStmt k c = true) (h1 : CodeSem P B (stmt k c) st e s) (he : e ≠ .normal) : CodeSem P B (seqDrop k c) st e s := by
  unfold hasStmt at hk
  unfold stmt at h1
  cases hc : seqDrop k c with
  | seq x y => rw [hc] at h1; exact h1.out he
  | _ => rw [hc] at hk; cases hk
theorem stmt_in {C : Cx} {f B k : Nat} {fn : Func} {b : Code} (hf : C.P.funcs[f]? = some fn) (hb : fn.body = some b) : InBody (C.into f B) (stmt k b) := by
  refine Or.inl ⟨fn, b, hf, hb, fun x hx => ?_⟩
  refine seqDrop_loops k b x ?_
  unfold stmt at hx
  cases hc : seqDrop k b with
  | seq p q => rw [hc] at hx; simp only at hx; simp [loopsIn, hx]
  | _ => rw [hc] at hx; simp [loopsIn] at hx
/-- A piece whose masks hang on how it ends. -/
theorem end_rule' {C : Cx} (hC : CxOk C) {f B n : Nat} {c : Code} {mask mout : List Nat} {sp so : List From} {st s : St} {e : Exit} (hin : InBody (C.into f B) c) (h : roundR (C.into f B) n c mask mout sp so st = some (e, s)) : CodeSem C.P B c st e s := by
  obtain ⟨⟨e1, s1⟩, h3, h4⟩ := Ans.bind_some h
  intro Q w0 keep r0 a w hB hQ hr
  refine (exCode_sound hC n).1 f B c hin _ _ _ h3 _ w0 keep r0 a w hB ?_ hr
  intro a' w' hr'
  obtain ⟨he, hs⟩ := clean_rel h4 hB hr'
  subst he
  exact hQ a' w' hs
/-- A function without memory, told by a proof. -/
theorem Cx.addP_ok {C : Cx} (hC : CxOk C) {f : FuncId} {F : List Value → Option (Bool × Value)} (h : ∀ args v, (∀ x ∈ args, Vx.plain x = true) → F args = some (true, v) → Vx.plain v = true → PlainSem C.P f args v) : CxOk (C.addR f F) := by
  refine ⟨hC.mixed, ?_, hC.tbm, hC.keys, hC.inl, hC.lp, hC.rd, hC.rd2⟩
  intro g args v hargs hv hp
  simp only [Cx.addR] at hv
  cases hg : Nat.beq g f with
  | false => simp only [hg] at hv; exact hC.tbl g args v hargs hv hp
  | true =>
    have hgf : g = f := Nat.eq_of_beq_eq_true hg
    subst hgf
    simp only [hg] at hv
    exact h args v hargs hv hp
def gn {α : Type} (b : Bool) (x : Option α) : Option α := match b with
  | true => none
  | false => x
theorem bd_ok' {i k : Nat} (h : i < k) : boundsI (i : Int) k = true := by simp [boundsI]; omega
end Go.Proofs.Ytofblakbfmjgkaa.Vx


namespace Go.Proofs.Ytofblakbfmjgkaa.Vx
open Go

def nth : List Int → Nat → Int
  | [], _ => 0
  | x :: _, 0 => x
  | _ :: l, k + 1 => nth l k

def chainO (mk : List Int → Value) : List (Bool × List Int) → List Int → Option Value
  | [], d => some (mk d)
  | (t, r) :: ts, d => match t with
    | true => some (mk r)
    | false => chainO mk ts d

def chainL : List (Bool × List Int) → List Int → List Int
  | [], d => d
  | (t, r) :: ts, d => match t with
    | true => r
    | false => chainL ts d

theorem chain_eq (mk : List Int → Value) : ∀ (ts : List (Bool × List Int)) (d : List Int), chainO mk ts d = some (mk (chainL ts d))
  | [], _ => rfl
  | (true, _) :: _, _ => rfl
  | (false, _) :: ts, d => chain_eq mk ts d

def mk1 (l : List Int) : Value := .int .i64 (nth l 0)
def mkVec (l : List Int) : Value := .agg #[.int .i64 (nth l 0), .int .i64 (nth l 1), .int .i64 (nth l 2)]
def mkM (l : List Int) : Value := .agg #[.int .i64 (nth l 0), .int .i64 (nth l 1), .int .i64 (nth l 2), .int .i64 (nth l 3), .int .i64 (nth l 4), .int .i64 (nth l 5), .int .i64 (nth l 6), .int .i64 (nth l 7), .int .i64 (nth l 8)]
def mkIe (l : List Int) : Value := .tuple #[.int .i64 (nth l 0), .int .i64 (nth l 1)]
def mkVe (l : List Int) : Value := .tuple #[.agg #[.int .i64 (nth l 0), .int .i64 (nth l 1), .int .i64 (nth l 2)], .int .i64 (nth l 3)]
def mkMe (l : List Int) : Value := .tuple #[.agg #[.int .i64 (nth l 0), .int .i64 (nth l 1), .int .i64 (nth l 2), .int .i64 (nth l 3), .int .i64 (nth l 4), .int .i64 (nth l 5), .int .i64 (nth l 6), .int .i64 (nth l 7), .int .i64 (nth l 8)], .int .i64 (nth l 9)]

/-- The number of 64 bits that is left of a whole number. -/
def W (n : Int) : Int := IntKind.wrap .i64 n

theorem W_eq (n : Int) : W n = (n + 9223372036854775808) % 18446744073709551616 - 9223372036854775808 := by
  unfold W IntKind.wrap
  simp only [IntKind.bits, IntKind.signed]
  have h1 : ((2 : Int) ^ 64) = 18446744073709551616 := rfl
  have h2 : ((2 : Int) ^ (64 - 1)) = 9223372036854775808 := rfl
  simp only [h1, h2, Bool.true_and, decide_eq_true_eq]
  split <;> omega

theorem W_id {n : Int} (h1 : -9223372036854775808 ≤ n) (h2 : n ≤ 9223372036854775807) : W n = n := by rw [W_eq]; omega
theorem W_W (n : Int) : W (W n) = W n := by simp only [W_eq]; omega
theorem W_congr {m n : Int} : W m = W n ↔ (m - n) % 18446744073709551616 = 0 := by simp only [W_eq]; omega
theorem W_sub_self (n : Int) : (W n - n) % 18446744073709551616 = 0 := by rw [W_eq]; omega
theorem W_addl (m n : Int) : W (W m + n) = W (m + n) := by simp only [W_eq]; omega
theorem W_addr (m n : Int) : W (m + W n) = W (m + n) := by simp only [W_eq]; omega
theorem W_subl (m n : Int) : W (W m - n) = W (m - n) := by simp only [W_eq]; omega
theorem W_subr (m n : Int) : W (m - W n) = W (m - n) := by simp only [W_eq]; omega
theorem W_mull (m n : Int) : W (W m * n) = W (m * n) := by
  rw [W_congr, ← Int.sub_mul]
  obtain ⟨k, hk⟩ := Int.dvd_of_emod_eq_zero (W_sub_self m)
  rw [hk, Int.mul_assoc]
  exact Int.mul_emod_right _ _
theorem W_mulr (m n : Int) : W (m * W n) = W (m * n) := by rw [Int.mul_comm, W_mull, Int.mul_comm]
theorem W_neg (m : Int) : W (0 - W m) = W (0 - m) := W_subr 0 m

theorem wrap_W (n : Int) : IntKind.wrap .i64 n = W n := rfl

theorem wf_bounds {n : Int} (h : (Lit.int .i64 n).wf = true) : -9223372036854775808 ≤ n ∧ n ≤ 9223372036854775807 := by
  simp [Lit.wf, IntKind.min, IntKind.max, IntKind.signed, IntKind.bits] at h
  omega

end Go.Proofs.Ytofblakbfmjgkaa.Vx


namespace Go.Proofs.Ytofblakbfmjgkaa.Vx
open Go

structure M3 where
  (a b c d e f g h i : Int)
structure V3 where
  (x y z : Int)

theorem M3.ext' {m n : M3} (h : m.a = n.a ∧ m.b = n.b ∧ m.c = n.c ∧ m.d = n.d ∧ m.e = n.e ∧ m.f = n.f ∧ m.g = n.g ∧ m.h = n.h ∧ m.i = n.i) : m = n := by
  cases m; cases n; simp only [M3.mk.injEq]; exact h
theorem V3.ext' {m n : V3} (h : m.x = n.x ∧ m.y = n.y ∧ m.z = n.z) : m = n := by
  cases m; cases n; simp only [V3.mk.injEq]; exact h

def M3.mul (m n : M3) : M3 :=
  ⟨m.a * n.a + m.b * n.d + m.c * n.g, m.a * n.b + m.b * n.e + m.c * n.h, m.a * n.c + m.b * n.f + m.c * n.i,
   m.d * n.a + m.e * n.d + m.f * n.g, m.d * n.b + m.e * n.e + m.f * n.h, m.d * n.c + m.e * n.f + m.f * n.i,
   m.g * n.a + m.h * n.d + m.i * n.g, m.g * n.b + m.h * n.e + m.i * n.h, m.g * n.c + m.h * n.f + m.i * n.i⟩
def M3.one : M3 := ⟨1, 0, 0, 0, 1, 0, 0, 0, 1⟩
def M3.zero : M3 := ⟨0, 0, 0, 0, 0, 0, 0, 0, 0⟩
def M3.det (m : M3) : Int := m.a * (m.e * m.i - m.f * m.h) + m.b * (m.f * m.g - m.d * m.i) + m.c * (m.d * m.h - m.e * m.g)
def M3.adj (m : M3) : M3 :=
  ⟨m.e * m.i - m.f * m.h, m.h * m.c - m.i * m.b, m.b * m.f - m.c * m.e, m.f * m.g - m.d * m.i, m.i * m.a - m.g * m.c, m.c * m.d - m.a * m.f, m.d * m.h - m.e * m.g, m.g * m.b - m.h * m.a, m.a * m.e - m.b * m.d⟩
def M3.smul (k : Int) (m : M3) : M3 := ⟨m.a * k, m.b * k, m.c * k, m.d * k, m.e * k, m.f * k, m.g * k, m.h * k, m.i * k⟩
def M3.tr (m : M3) : Int := m.a + m.e + m.i
def M3.neg (m : M3) : M3 := ⟨-m.a, -m.b, -m.c, -m.d, -m.e, -m.f, -m.g, -m.h, -m.i⟩
def M3.inv (m : M3) : M3 := m.adj.smul m.det
def M3.app (m : M3) (v : V3) : V3 := ⟨m.a * v.x + m.b * v.y + m.c * v.z, m.d * v.x + m.e * v.y + m.f * v.z, m.g * v.x + m.h * v.y + m.i * v.z⟩
def V3.zero : V3 := ⟨0, 0, 0⟩
def V3.add (u v : V3) : V3 := ⟨u.x + v.x, u.y + v.y, u.z + v.z⟩
def V3.neg (u : V3) : V3 := ⟨-u.x, -u.y, -u.z⟩
def V3.md (m : Int) (u : V3) : V3 := ⟨u.x % m, u.y % m, u.z % m⟩

theorem M3.mul_assoc (m n o : M3) : (m.mul n).mul o = m.mul (n.mul o) := by
  refine M3.ext' ⟨?_, ?_, ?_, ?_, ?_, ?_, ?_, ?_, ?_⟩ <;> (simp only [M3.mul]; grind)
theorem M3.one_mul (m : M3) : M3.one.mul m = m := by
  refine M3.ext' ⟨?_, ?_, ?_, ?_, ?_, ?_, ?_, ?_, ?_⟩ <;> (simp only [M3.mul, M3.one]; omega)
theorem M3.mul_one (m : M3) : m.mul M3.one = m := by
  refine M3.ext' ⟨?_, ?_, ?_, ?_, ?_, ?_, ?_, ?_, ?_⟩ <;> (simp only [M3.mul, M3.one]; omega)
theorem M3.det_mul (m n : M3) : (m.mul n).det = m.det * n.det := by
  simp only [M3.det, M3.mul]; grind
theorem M3.mul_adj (m : M3) : m.mul m.adj = M3.one.smul m.det := by
  refine M3.ext' ⟨?_, ?_, ?_, ?_, ?_, ?_, ?_, ?_, ?_⟩ <;> (simp only [M3.mul, M3.adj, M3.smul, M3.det, M3.one]; grind)
theorem M3.adj_mul (m : M3) : m.adj.mul m = M3.one.smul m.det := by
  refine M3.ext' ⟨?_, ?_, ?_, ?_, ?_, ?_, ?_, ?_, ?_⟩ <;> (simp only [M3.mul, M3.adj, M3.smul, M3.det, M3.one]; grind)
theorem M3.mul_smul (k : Int) (m n : M3) : m.mul (n.smul k) = (m.mul n).smul k := by
  refine M3.ext' ⟨?_, ?_, ?_, ?_, ?_, ?_, ?_, ?_, ?_⟩ <;> (simp only [M3.mul, M3.smul]; grind)
theorem M3.smul_mul (k : Int) (m n : M3) : (m.smul k).mul n = (m.mul n).smul k := by
  refine M3.ext' ⟨?_, ?_, ?_, ?_, ?_, ?_, ?_, ?_, ?_⟩ <;> (simp only [M3.mul, M3.smul]; grind)
theorem M3.smul_smul (k l : Int) (m : M3) : (m.smul k).smul l = m.smul (k * l) := by
  refine M3.ext' ⟨?_, ?_, ?_, ?_, ?_, ?_, ?_, ?_, ?_⟩ <;> (simp only [M3.smul]; grind)
theorem M3.smul_one (m : M3) : m.smul 1 = m := by
  refine M3.ext' ⟨?_, ?_, ?_, ?_, ?_, ?_, ?_, ?_, ?_⟩ <;> (simp only [M3.smul]; omega)

/-- The determinant is 1 or -1. -/
def M3.U (m : M3) : Prop := m.det = 1 ∨ m.det = -1
theorem M3.U.sq {m : M3} (h : m.U) : m.det * m.det = 1 := by rcases h with h | h <;> rw [h] <;> rfl
theorem M3.mul_inv {m : M3} (h : m.U) : m.mul m.inv = M3.one := by
  unfold M3.inv; rw [M3.mul_smul, M3.mul_adj, M3.smul_smul, h.sq, M3.smul_one]
theorem M3.inv_mul {m : M3} (h : m.U) : m.inv.mul m = M3.one := by
  unfold M3.inv; rw [M3.smul_mul, M3.adj_mul, M3.smul_smul, h.sq, M3.smul_one]
theorem M3.det_one : M3.one.det = 1 := by decide
theorem M3.U_one : M3.one.U := Or.inl M3.det_one
theorem M3.U_mul {m n : M3} (hm : m.U) (hn : n.U) : (m.mul n).U := by
  unfold M3.U
  rw [M3.det_mul]
  rcases hm with h | h <;> rcases hn with k | k <;> rw [h, k] <;> decide
theorem M3.det_inv {m : M3} (h : m.U) : m.inv.det = m.det := by
  have e := congrArg M3.det (M3.mul_inv h)
  rw [M3.det_mul, M3.det_one] at e
  rcases h with h | h <;> rw [h] at e ⊢ <;> omega
theorem M3.U_inv {m : M3} (h : m.U) : m.inv.U := by unfold M3.U; rw [M3.det_inv h]; exact h
/-- What undoes from the right is the inverse. -/
theorem M3.inv_unique {m n : M3} (h : m.U) (e : m.mul n = M3.one) : n = m.inv := by
  have := congrArg (M3.mul m.inv) e
  rwa [← M3.mul_assoc, M3.inv_mul h, M3.one_mul, M3.mul_one] at this
theorem M3.inv_inv {m : M3} (h : m.U) : m.inv.inv = m := (M3.inv_unique (M3.U_inv h) (M3.inv_mul h)).symm
theorem M3.cancel_left {m n o : M3} (h : m.U) (e : m.mul n = m.mul o) : n = o := by
  have := congrArg (M3.mul m.inv) e
  rwa [← M3.mul_assoc, ← M3.mul_assoc, M3.inv_mul h, M3.one_mul, M3.one_mul] at this
theorem M3.comm_one {m n : M3} (h : m.U) (e : m.mul n = M3.one) : n.mul m = M3.one := by
  rw [M3.inv_unique h e, M3.inv_mul h]

theorem M3.app_mul (m n : M3) (v : V3) : (m.mul n).app v = m.app (n.app v) := by
  refine V3.ext' ⟨?_, ?_, ?_⟩ <;> (simp only [M3.mul, M3.app]; grind)
theorem M3.app_one (v : V3) : M3.one.app v = v := by
  refine V3.ext' ⟨?_, ?_, ?_⟩ <;> (simp only [M3.app, M3.one]; omega)
theorem M3.app_add (m : M3) (u v : V3) : m.app (u.add v) = (m.app u).add (m.app v) := by
  refine V3.ext' ⟨?_, ?_, ?_⟩ <;> (simp only [M3.app, V3.add]; grind)
theorem M3.app_neg (m : M3) (u : V3) : m.app u.neg = (m.app u).neg := by
  refine V3.ext' ⟨?_, ?_, ?_⟩ <;> (simp only [M3.app, V3.neg]; grind)

def M3.pow (m : M3) : Nat → M3
  | 0 => M3.one
  | n + 1 => m.mul (m.pow n)
theorem M3.pow_one (m : M3) : m.pow 1 = m := M3.mul_one m
theorem M3.pow_add (m : M3) (k : Nat) : ∀ n, m.pow (n + k) = (m.pow n).mul (m.pow k)
  | 0 => by rw [Nat.zero_add]; exact (M3.one_mul _).symm
  | n + 1 => by rw [show n + 1 + k = (n + k) + 1 by omega]; simp only [M3.pow]; rw [M3.pow_add m k n, M3.mul_assoc]
theorem M3.U_pow {m : M3} (h : m.U) : ∀ n, (m.pow n).U
  | 0 => M3.U_one
  | n + 1 => M3.U_mul h (M3.U_pow h n)

/-- Powers: a power is the identity just where it is so a multiple of the least one. -/
def M3.IsOrd (m : M3) (n : Nat) : Prop := 0 < n ∧ m.pow n = M3.one ∧ ∀ k, 0 < k → k < n → m.pow k ≠ M3.one
theorem M3.pow_mul_one {m : M3} {n : Nat} (h : m.pow n = M3.one) : ∀ k, m.pow (n * k) = M3.one
  | 0 => rfl
  | k + 1 => by rw [Nat.mul_succ, M3.pow_add, M3.pow_mul_one h k, h]; exact M3.one_mul _
theorem M3.IsOrd.dvd {m : M3} {n : Nat} (h : m.IsOrd n) (k : Nat) : m.pow k = M3.one ↔ n ∣ k := by
  constructor
  · intro hk
    have e : k = n * (k / n) + k % n := (Nat.div_add_mod k n).symm
    rw [e, M3.pow_add, M3.pow_mul_one h.2.1, M3.one_mul] at hk
    have hlt := Nat.mod_lt k h.1
    rcases Nat.eq_zero_or_pos (k % n) with h0 | h0
    · exact Nat.dvd_of_mod_eq_zero h0
    · exact absurd hk (h.2.2 _ h0 hlt)
  · rintro ⟨q, rfl⟩; exact M3.pow_mul_one h.2.1 q
theorem M3.IsOrd.unique {m : M3} {n k : Nat} (h : m.IsOrd n) (g : m.IsOrd k) : n = k := Nat.dvd_antisymm ((h.dvd k).1 g.2.1) ((g.dvd n).1 h.2.1)
/-- The least power is the first of 1, 2, 3, 4, 6 that is the identity. -/
theorem M3.ord1 {m : M3} (h : m = M3.one) : m.IsOrd 1 := ⟨by omega, by rw [M3.pow_one]; exact h, fun k h1 h2 => by omega⟩
theorem M3.ord2 {m : M3} (h1 : m ≠ M3.one) (h2 : m.pow 2 = M3.one) : m.IsOrd 2 := by
  refine ⟨by omega, h2, fun k k1 k2 => ?_⟩
  obtain rfl : k = 1 := by omega
  rw [M3.pow_one]; exact h1
theorem M3.ord3 {m : M3} (h1 : m ≠ M3.one) (h3 : m.pow 3 = M3.one) : m.IsOrd 3 := by
  refine ⟨by omega, h3, fun k k1 k2 hk => ?_⟩
  have : k = 1 ∨ k = 2 := by omega
  rcases this with rfl | rfl
  · rw [M3.pow_one] at hk; exact h1 hk
  · rw [show (3 : Nat) = 1 + 2 from rfl, M3.pow_add, hk, M3.mul_one, M3.pow_one] at h3; exact h1 h3
theorem M3.ord4 {m : M3} (h1 : m ≠ M3.one) (h2 : m.pow 2 ≠ M3.one) (h4 : m.pow 4 = M3.one) : m.IsOrd 4 := by
  refine ⟨by omega, h4, fun k k1 k2 hk => ?_⟩
  have : k = 1 ∨ k = 2 ∨ k = 3 := by omega
  rcases this with rfl | rfl | rfl
  · rw [M3.pow_one] at hk; exact h1 hk
  · exact h2 hk
  · rw [show (4 : Nat) = 1 + 3 from rfl, M3.pow_add, hk, M3.mul_one, M3.pow_one] at h4; exact h1 h4
theorem M3.ord6 {m : M3} (h1 : m ≠ M3.one) (h2 : m.pow 2 ≠ M3.one) (h3 : m.pow 3 ≠ M3.one) (h6 : m.pow 6 = M3.one) : m.IsOrd 6 := by
  refine ⟨by omega, h6, fun k k1 k2 hk => ?_⟩
  have : k = 1 ∨ k = 2 ∨ k = 3 ∨ k = 4 ∨ k = 5 := by omega
  rcases this with rfl | rfl | rfl | rfl | rfl
  · rw [M3.pow_one] at hk; exact h1 hk
  · exact h2 hk
  · exact h3 hk
  · rw [show (6 : Nat) = 2 + 4 from rfl, M3.pow_add, hk, M3.mul_one] at h6; exact h2 h6
  · rw [show (6 : Nat) = 1 + 5 from rfl, M3.pow_add, hk, M3.mul_one, M3.pow_one] at h6; exact h1 h6

/-- Told from elsewhere. -/
theorem M3.conj_pow {m p q : M3} (hpq : q.mul p = M3.one) (hqp : p.mul q = M3.one) : ∀ n, ((p.mul m).mul q).pow n = (p.mul (m.pow n)).mul q
  | 0 => by simp only [M3.pow]; rw [M3.mul_one, hqp]
  | n + 1 => by
    simp only [M3.pow]
    rw [M3.conj_pow hpq hqp n, M3.mul_assoc (p.mul m) q, ← M3.mul_assoc q, ← M3.mul_assoc q p, hpq, M3.one_mul, M3.mul_assoc p m, ← M3.mul_assoc m, ← M3.mul_assoc p, ← M3.mul_assoc p]
theorem M3.conj_one {m p q : M3} (hpq : q.mul p = M3.one) (hqp : p.mul q = M3.one) : (p.mul m).mul q = M3.one ↔ m = M3.one := by
  constructor
  · intro h
    have := congrArg (fun x => (q.mul x).mul p) h
    rw [M3.mul_one, hpq, ← M3.mul_assoc, ← M3.mul_assoc, hpq, M3.one_mul, M3.mul_assoc, hpq, M3.mul_one] at this
    exact this
  · rintro rfl; rw [M3.mul_one, hqp]
theorem M3.conj_ord {m p q : M3} (hpq : q.mul p = M3.one) (hqp : p.mul q = M3.one) {n : Nat} (h : m.IsOrd n) : ((p.mul m).mul q).IsOrd n := by
  refine ⟨h.1, ?_, fun k k1 k2 => ?_⟩
  · rw [M3.conj_pow hpq hqp, M3.conj_one hpq hqp]; exact h.2.1
  · rw [M3.conj_pow hpq hqp, Ne, M3.conj_one hpq hqp]; exact h.2.2 k k1 k2
/-- Undone. -/
theorem M3.pow_comm (m : M3) : ∀ n, (m.pow n).mul m = m.mul (m.pow n)
  | 0 => by simp only [M3.pow]; rw [M3.one_mul, M3.mul_one]
  | n + 1 => by simp only [M3.pow]; rw [M3.mul_assoc, M3.pow_comm m n]
theorem M3.inv_pow {m : M3} (h : m.U) : ∀ n, (m.pow n).mul (m.inv.pow n) = M3.one
  | 0 => M3.one_mul _
  | n + 1 => by
    have e : m.pow (n + 1) = (m.pow n).mul m := (M3.pow_comm m n).symm
    rw [e]
    simp only [M3.pow]
    rw [M3.mul_assoc, ← M3.mul_assoc m, M3.mul_inv h, M3.one_mul, M3.inv_pow h n]
theorem M3.inv_ord {m : M3} (h : m.U) {n : Nat} (g : m.IsOrd n) : m.inv.IsOrd n := by
  have key : ∀ k, m.inv.pow k = M3.one ↔ m.pow k = M3.one := fun k => by
    have e := M3.inv_pow h k
    constructor
    · intro hk; rwa [hk, M3.mul_one] at e
    · intro hk; rwa [hk, M3.one_mul] at e
  exact ⟨g.1, (key n).2 g.2.1, fun k k1 k2 hk => g.2.2 k k1 k2 ((key k).1 hk)⟩
end Go.Proofs.Ytofblakbfmjgkaa.Vx


namespace Go.Proofs.Ytofblakbfmjgkaa.Vx
open Go

def eq3 (a b c d e f : Int) : Bool := (a == d) && ((b == e) && ((c == f) && true))
def eq9 (a b c d e f g h i j k l m n o p q r : Int) : Bool := eq3 a b c j k l && (eq3 d e f m n o && (eq3 g h i p q r && true))

/-- within (43): three numbers against a bound. -/
def withinT (a b c n : Int) : List (Bool × List Int) :=
  [(decide (a < W (0 - n)), [4]), (decide (a > n), [4]), (decide (b < W (0 - n)), [4]), (decide (b > n), [4]), (decide (c < W (0 - n)), [4]), (decide (c > n), [4])]
def withinR (a b c n : Int) : Int := nth (chainL (withinT a b c n) [0]) 0
def F43 : List Int → Option Value
  | [a, b, c, n] => some (mk1 (chainL (withinT a b c n) [0]))
  | _ => none

/-- Check (24). -/
def checkT (a b c d e f g h i : Int) : List (Bool × List Int) :=
  [(withinR a b c 1000 != 0, [withinR a b c 1000]), (withinR d e f 1000 != 0, [withinR d e f 1000]), (withinR g h i 1000 != 0, [withinR g h i 1000])]
def chk (a b c d e f g h i : Int) : Int := nth (chainL (checkT a b c d e f g h i) [0]) 0
def F24 : List Int → Option Value
  | [a, b, c, d, e, f, g, h, i] => some (mk1 (chainL (checkT a b c d e f g h i) [0]))
  | _ => none

/-- checkBoth (38). -/
def bothT (a b c d e f g h i : Int) : List (Bool × List Int) := [(chk a b c d e f g h i != 0, [chk a b c d e f g h i])]
def both (a b c d e f g h i x y z : Int) : Int := nth (chainL (bothT a b c d e f g h i) [withinR x y z 2147483648]) 0
def F38 : List Int → Option Value
  | [a, b, c, d, e, f, g, h, i, x, y, z] => some (mk1 (chainL (bothT a b c d e f g h i) [withinR x y z 2147483648]))
  | _ => none

def dotR (a b c d e f : Int) : Int := W (W (W (a * d) + W (b * e)) + W (c * f))
def prodL (a b c d e f g h i j k l m n o p q r : Int) : List Int :=
  [dotR a b c j m p, dotR a b c k n q, dotR a b c l o r, dotR d e f j m p, dotR d e f k n q, dotR d e f l o r, dotR g h i j m p, dotR g h i k n q, dotR g h i l o r]

/-- Mul (10). -/
def mulT (a b c d e f g h i j k l m n o p q r : Int) : List (Bool × List Int) :=
  [(chk a b c d e f g h i != 0, [0, 0, 0, 0, 0, 0, 0, 0, 0, chk a b c d e f g h i]), (chk j k l m n o p q r != 0, [0, 0, 0, 0, 0, 0, 0, 0, 0, chk j k l m n o p q r])]
def mulD (a b c d e f g h i j k l m n o p q r : Int) : List Int := prodL a b c d e f g h i j k l m n o p q r ++ [0]
def mulR (a b c d e f g h i j k l m n o p q r : Int) : List Int := chainL (mulT a b c d e f g h i j k l m n o p q r) (mulD a b c d e f g h i j k l m n o p q r)
def F10 : List Int → Option Value
  | [a, b, c, d, e, f, g, h, i, j, k, l, m, n, o, p, q, r] => some (mkMe (mulR a b c d e f g h i j k l m n o p q r))
  | _ => none

/-- Apply (11), Left (12). -/
def applyT (a b c d e f g h i x y z : Int) : List (Bool × List Int) := [(both a b c d e f g h i x y z != 0, [0, 0, 0, both a b c d e f g h i x y z])]
def applyD (a b c d e f g h i x y z : Int) : List Int := [dotR a b c x y z, dotR d e f x y z, dotR g h i x y z, 0]
def leftD (a b c d e f g h i x y z : Int) : List Int := [dotR x y z a d g, dotR x y z b e h, dotR x y z c f i, 0]
def applyR (a b c d e f g h i x y z : Int) : List Int := chainL (applyT a b c d e f g h i x y z) (applyD a b c d e f g h i x y z)
def leftR (a b c d e f g h i x y z : Int) : List Int := chainL (applyT a b c d e f g h i x y z) (leftD a b c d e f g h i x y z)
def F11 : List Int → Option Value
  | [a, b, c, d, e, f, g, h, i, x, y, z] => some (mkVe (applyR a b c d e f g h i x y z))
  | _ => none
def F12 : List Int → Option Value
  | [x, y, z, a, b, c, d, e, f, g, h, i] => some (mkVe (leftR a b c d e f g h i x y z))
  | _ => none

/-- The document's Mat (13) and Column (15). -/
def rangeT (n : Int) : List Int → List (Bool × List Int)
  | [] => []
  | a :: l => (decide (a < -n), [4]) :: (decide (a > n), [4]) :: rangeT n l
def matR (a b c d e f g h i : Int) : Int := nth (chainL (rangeT 1000 [a, b, c, d, e, f, g, h, i]) [0]) 0
def colR (x y z : Int) : Int := nth (chainL (rangeT 2147483648 [x, y, z]) [0]) 0
def F13 : List Int → Option Value
  | [a, b, c, d, e, f, g, h, i] => some (mk1 (chainL (rangeT 1000 [a, b, c, d, e, f, g, h, i]) [0]))
  | _ => none
def F15 : List Int → Option Value
  | [x, y, z] => some (mk1 (chainL (rangeT 2147483648 [x, y, z]) [0]))
  | _ => none

/-- Transpose (20), Det (21), Trace (22), Adjugate (23). -/
def err9T (a b c d e f g h i : Int) : List (Bool × List Int) := [(chk a b c d e f g h i != 0, [0, 0, 0, 0, 0, 0, 0, 0, 0, chk a b c d e f g h i])]
def err1T (a b c d e f g h i : Int) : List (Bool × List Int) := [(chk a b c d e f g h i != 0, [0, chk a b c d e f g h i])]
def minR (a b c d : Int) : Int := W (W (a * b) - W (c * d))
def detR (a b c d e f g h i : Int) : Int := W (W (W (a * minR e i f h) + W (b * minR f g d i)) + W (c * minR d h e g))
def cofL (a b c d e f g h i : Int) : List Int := [minR e i f h, minR h c i b, minR b f c e, minR f g d i, minR i a g c, minR c d a f, minR d h e g, minR g b h a, minR a e b d]
def transR (a b c d e f g h i : Int) : List Int := chainL (err9T a b c d e f g h i) [a, d, g, b, e, h, c, f, i, 0]
def detE (a b c d e f g h i : Int) : List Int := chainL (err1T a b c d e f g h i) [detR a b c d e f g h i, 0]
def traceE (a b c d e f g h i : Int) : List Int := chainL (err1T a b c d e f g h i) [W (W (a + e) + i), 0]
def adjE (a b c d e f g h i : Int) : List Int := chainL (err9T a b c d e f g h i) (cofL a b c d e f g h i ++ [0])
def F20 : List Int → Option Value
  | [a, b, c, d, e, f, g, h, i] => some (mkMe (transR a b c d e f g h i))
  | _ => none
def F21 : List Int → Option Value
  | [a, b, c, d, e, f, g, h, i] => some (mkIe (detE a b c d e f g h i))
  | _ => none
def F22 : List Int → Option Value
  | [a, b, c, d, e, f, g, h, i] => some (mkIe (traceE a b c d e f g h i))
  | _ => none
def F23 : List Int → Option Value
  | [a, b, c, d, e, f, g, h, i] => some (mkMe (adjE a b c d e f g h i))
  | _ => none

def F50 : List Int → Option Value
  | [_] => some (.bool false)
  | _ => none
/-- cmp.Compare (47), Compare (33), the document's (34). -/
def cmpT (a b : Int) : List (Bool × List Int) := [(decide (a < b), [-1]), (decide (a > b), [1])]
def cmpR (a b : Int) : Int := nth (chainL (cmpT a b) [0]) 0
def F47 : List Int → Option Value
  | [a, b] => some (mk1 (chainL (cmpT a b) [0]))
  | _ => none
def compT : List Int → List Int → List (Bool × List Int)
  | a :: l, b :: m => (cmpR a b != 0, [cmpR a b]) :: compT l m
  | _, _ => []
def compR (l m : List Int) : Int := nth (chainL (compT l m) [0]) 0
def dcompT : List Int → List Int → List (Bool × List Int)
  | a :: l, b :: m => (decide (a < b), [-1]) :: (decide (a > b), [1]) :: dcompT l m
  | _, _ => []
def dcompR (l m : List Int) : Int := nth (chainL (dcompT l m) [0]) 0
def F33 : List Int → Option Value
  | [a, b, c, d, e, f, g, h, i, j, k, l, m, n, o, p, q, r] => some (mk1 (chainL (compT [a, b, c, d, e, f, g, h, i] [j, k, l, m, n, o, p, q, r]) [0]))
  | _ => none
def F34 : List Int → Option Value
  | [a, b, c, d, e, f, g, h, i, j, k, l, m, n, o, p, q, r] => some (mk1 (chainL (dcompT [a, b, c, d, e, f, g, h, i] [j, k, l, m, n, o, p, q, r]) [0]))
  | _ => none

def F9 : List Int → Option Value
  | [] => some (.bool true)
  | _ => none

def zeros9 (e : Int) : List Int := [0, 0, 0, 0, 0, 0, 0, 0, 0, e]
/-- Inverse (29). -/
def invL (a b c d e f g h i : Int) : List Int :=
  [W (minR e i f h * detR a b c d e f g h i), W (minR h c i b * detR a b c d e f g h i), W (minR b f c e * detR a b c d e f g h i), W (minR f g d i * detR a b c d e f g h i), W (minR i a g c * detR a b c d e f g h i), W (minR c d a f * detR a b c d e f g h i), W (minR d h e g * detR a b c d e f g h i), W (minR g b h a * detR a b c d e f g h i), W (minR a e b d * detR a b c d e f g h i)]
def invE (a b c d e f g h i : Int) : List Int :=
  chainL [(chk a b c d e f g h i != 0, zeros9 (chk a b c d e f g h i)), (detR a b c d e f g h i != 1 && detR a b c d e f g h i != -1, zeros9 3)] (invL a b c d e f g h i ++ [0])
def invO (a b c d e f g h i : Int) : Option Value :=
  match chk a b c d e f g h i != 0 with
  | true => some (mkMe (zeros9 (chk a b c d e f g h i)))
  | false => match detR a b c d e f g h i != 1 with
    | true => match detR a b c d e f g h i != -1 with
      | true => some (mkMe (zeros9 3))
      | false => some (mkMe (invL a b c d e f g h i ++ [0]))
    | false => some (mkMe (invL a b c d e f g h i ++ [0]))
theorem invO_eq (a b c d e f g h i : Int) : invO a b c d e f g h i = some (mkMe (invE a b c d e f g h i)) := by
  unfold invO invE
  cases chk a b c d e f g h i != 0 <;> cases detR a b c d e f g h i != 1 <;> cases detR a b c d e f g h i != -1 <;> rfl
def F29 : List Int → Option Value
  | [a, b, c, d, e, f, g, h, i] => some (mkMe (invE a b c d e f g h i))
  | _ => none

/-- Functions of rows of nine numbers (and an error's behind them). -/
def mulL (x y : List Int) : List Int := mulR (nth x 0) (nth x 1) (nth x 2) (nth x 3) (nth x 4) (nth x 5) (nth x 6) (nth x 7) (nth x 8) (nth y 0) (nth y 1) (nth y 2) (nth y 3) (nth y 4) (nth y 5) (nth y 6) (nth y 7) (nth y 8)
def prodM (x y : List Int) : List Int := prodL (nth x 0) (nth x 1) (nth x 2) (nth x 3) (nth x 4) (nth x 5) (nth x 6) (nth x 7) (nth x 8) (nth y 0) (nth y 1) (nth y 2) (nth y 3) (nth y 4) (nth y 5) (nth y 6) (nth y 7) (nth y 8)
def eqM (x y : List Int) : Bool := eq9 (nth x 0) (nth x 1) (nth x 2) (nth x 3) (nth x 4) (nth x 5) (nth x 6) (nth x 7) (nth x 8) (nth y 0) (nth y 1) (nth y 2) (nth y 3) (nth y 4) (nth y 5) (nth y 6) (nth y 7) (nth y 8)
def applyL (x v : List Int) : List Int := applyR (nth x 0) (nth x 1) (nth x 2) (nth x 3) (nth x 4) (nth x 5) (nth x 6) (nth x 7) (nth x 8) (nth v 0) (nth v 1) (nth v 2)
def leftL (v x : List Int) : List Int := leftR (nth x 0) (nth x 1) (nth x 2) (nth x 3) (nth x 4) (nth x 5) (nth x 6) (nth x 7) (nth x 8) (nth v 0) (nth v 1) (nth v 2)
def detM (x : List Int) : List Int := detE (nth x 0) (nth x 1) (nth x 2) (nth x 3) (nth x 4) (nth x 5) (nth x 6) (nth x 7) (nth x 8)
def traceM (x : List Int) : List Int := traceE (nth x 0) (nth x 1) (nth x 2) (nth x 3) (nth x 4) (nth x 5) (nth x 6) (nth x 7) (nth x 8)
def transM (x : List Int) : List Int := transR (nth x 0) (nth x 1) (nth x 2) (nth x 3) (nth x 4) (nth x 5) (nth x 6) (nth x 7) (nth x 8)
def adjM (x : List Int) : List Int := adjE (nth x 0) (nth x 1) (nth x 2) (nth x 3) (nth x 4) (nth x 5) (nth x 6) (nth x 7) (nth x 8)
def invM (x : List Int) : List Int := invE (nth x 0) (nth x 1) (nth x 2) (nth x 3) (nth x 4) (nth x 5) (nth x 6) (nth x 7) (nth x 8)
def eqV3 (x y : List Int) : Bool := eq3 (nth x 0) (nth x 1) (nth x 2) (nth y 0) (nth y 1) (nth y 2)
def one9 : List Int := [1, 0, 0, 0, 1, 0, 0, 0, 1]

/-- Order (31). -/
def orderT (a b c d e f g h i : Int) : List (Bool × List Int) :=
  [(nth (invE a b c d e f g h i) 9 != 0, [0, nth (invE a b c d e f g h i) 9]),
   (eqM [a, b, c, d, e, f, g, h, i] one9, [1, 0]),
   (eqM [a, b, c, d, e, f, g, h, i] (invE a b c d e f g h i), [2, 0]),
   (eqM (prodM [a, b, c, d, e, f, g, h, i] [a, b, c, d, e, f, g, h, i]) (invE a b c d e f g h i), [3, 0]),
   (eqM (prodM [a, b, c, d, e, f, g, h, i] [a, b, c, d, e, f, g, h, i]) (prodM (invE a b c d e f g h i) (invE a b c d e f g h i)), [4, 0]),
   (eqM (prodM (prodM [a, b, c, d, e, f, g, h, i] [a, b, c, d, e, f, g, h, i]) (prodM [a, b, c, d, e, f, g, h, i] [a, b, c, d, e, f, g, h, i])) (prodM (invE a b c d e f g h i) (invE a b c d e f g h i)), [6, 0])]
def orderR (a b c d e f g h i : Int) : List Int := chainL (orderT a b c d e f g h i) [0, 9]
def orderM (x : List Int) : List Int := orderR (nth x 0) (nth x 1) (nth x 2) (nth x 3) (nth x 4) (nth x 5) (nth x 6) (nth x 7) (nth x 8)
def F31 : List Int → Option Value
  | [a, b, c, d, e, f, g, h, i] => some (mkIe (orderR a b c d e f g h i))
  | _ => none

/-- The document's Form (44) and DocInverse (30). -/
def rdet (a b c d e f g h i : Int) : Int :=
  W (W (W (0 + W (W (W (a * e) * i) - W (W (a * f) * h))) + W (W (W (b * f) * g) - W (W (b * d) * i))) + W (W (W (c * d) * h) - W (W (c * e) * g)))
def formR (a b c d e f g h i : Int) : Int := nth (chainL [(matR a b c d e f g h i != 0, [4]), (rdet a b c d e f g h i != 1 && rdet a b c d e f g h i != -1, [3])] [0]) 0
def formO (a b c d e f g h i : Int) : Option Value :=
  match matR a b c d e f g h i != 0 with
  | true => some (.int .i64 4)
  | false => match rdet a b c d e f g h i != 1 with
    | true => match rdet a b c d e f g h i != -1 with
      | true => some (.int .i64 3)
      | false => some (.int .i64 0)
    | false => some (.int .i64 0)
def F44 : List Int → Option Value
  | [a, b, c, d, e, f, g, h, i] => some (.int .i64 (formR a b c d e f g h i))
  | _ => none
theorem formO_eq (a b c d e f g h i : Int) : formO a b c d e f g h i = some (.int .i64 (formR a b c d e f g h i)) := by
  unfold formO formR
  cases matR a b c d e f g h i != 0 <;> cases rdet a b c d e f g h i != 1 <;> cases rdet a b c d e f g h i != -1 <;> rfl
def rinvL (a b c d e f g h i : Int) : List Int :=
  [W (minR e i f h * rdet a b c d e f g h i), W (minR h c i b * rdet a b c d e f g h i), W (minR b f c e * rdet a b c d e f g h i), W (minR f g d i * rdet a b c d e f g h i), W (minR i a g c * rdet a b c d e f g h i), W (minR c d a f * rdet a b c d e f g h i), W (minR d h e g * rdet a b c d e f g h i), W (minR g b h a * rdet a b c d e f g h i), W (minR a e b d * rdet a b c d e f g h i)]
def F30 : List Int → Option Value
  | [a, b, c, d, e, f, g, h, i] => some (mkMe (chainL [(formR a b c d e f g h i != 0, zeros9 (formR a b c d e f g h i))] (rinvL a b c d e f g h i ++ [0])))
  | _ => none

end Go.Proofs.Ytofblakbfmjgkaa.Vx


namespace Go.Proofs.Ytofblakbfmjgkaa.Vx
open Go

/-- The first test that holds answers false. -/
def guardF : List Bool → Option Value → Option Value
  | [], k => k
  | t :: ts, k => match t with
    | true => some (.bool false)
    | false => guardF ts k
/-- All of these. -/
def andO : List Bool → Option Value
  | [] => some (.bool true)
  | [b] => some (.bool b)
  | b :: bs => match b with
    | true => andO bs
    | false => some (.bool false)
/-- One of these. -/
def orB : List Bool → Option Value → Option Value → Option Value
  | [], _, e => e
  | t :: ts, a, e => match t with
    | true => a
    | false => orB ts a e

theorem guardF_eq : ∀ (ts : List Bool) (k : Option Value), (∀ t ∈ ts, t = false) → guardF ts k = k
  | [], _, _ => rfl
  | t :: ts, k, h => by
    have := h t (by simp)
    subst this
    exact guardF_eq ts k fun u hu => h u (by simp [hu])
theorem andO_eq : ∀ (ts : List Bool), (∀ t ∈ ts, t = true) → andO ts = some (.bool true)
  | [], _ => rfl
  | [b], h => by have := h b (by simp); subst this; rfl
  | b :: c :: bs, h => by
    have := h b (by simp)
    subst this
    exact andO_eq (c :: bs) fun u hu => h u (by simp [hu])

def inB (n : Int) (l : List Int) : Bool := l.all fun x => decide (-n ≤ x) && decide (x ≤ n)

theorem range_eq (n : Int) : ∀ (l : List Int), nth (chainL (rangeT n l) [0]) 0 = bif inB n l then 0 else 4
  | [] => rfl
  | a :: l => by
    have ih := range_eq n l
    unfold inB at ih ⊢
    simp only [rangeT, List.all_cons]
    by_cases h1 : a < -n
    · have : decide (-n ≤ a) = false := by simp; omega
      simp [chainL, h1, this, nth]
    · by_cases h2 : a > n
      · have : decide (a ≤ n) = false := by simp; omega
        simp [chainL, h1, h2, this, nth]
      · have e1 : decide (-n ≤ a) = true := by simp; omega
        have e2 : decide (a ≤ n) = true := by simp; omega
        simp only [chainL, h1, h2, decide_false, e1, e2, Bool.true_and]
        exact ih

theorem within_eq (a b c n : Int) (h0 : 0 ≤ n) (h1 : n ≤ 9223372036854775807) : withinR a b c n = bif inB n [a, b, c] then 0 else 4 := by
  have : withinT a b c n = rangeT n [a, b, c] := by
    unfold withinT
    rw [show W (0 - n) = -n from by rw [W_id (by omega) (by omega)]; omega]
    rfl
  unfold withinR
  rw [this, range_eq]

theorem mat_eq (a b c d e f g h i : Int) : matR a b c d e f g h i = bif inB 1000 [a, b, c, d, e, f, g, h, i] then 0 else 4 := range_eq 1000 _
theorem col_eq (x y z : Int) : colR x y z = bif inB 2147483648 [x, y, z] then 0 else 4 := range_eq _ _

theorem chk_eq (a b c d e f g h i : Int) : chk a b c d e f g h i = bif inB 1000 [a, b, c, d, e, f, g, h, i] then 0 else 4 := by
  have hs : inB 1000 [a, b, c, d, e, f, g, h, i] = (inB 1000 [a, b, c] && (inB 1000 [d, e, f] && inB 1000 [g, h, i])) := by
    unfold inB; simp only [List.all_cons, List.all_nil, Bool.and_true]
    simp only [Bool.and_assoc]
  rw [hs]
  unfold chk checkT
  rw [within_eq a b c 1000 (by omega) (by omega), within_eq d e f 1000 (by omega) (by omega), within_eq g h i 1000 (by omega) (by omega)]
  cases inB 1000 [a, b, c] <;> cases inB 1000 [d, e, f] <;> cases inB 1000 [g, h, i] <;> rfl

theorem both_eq (a b c d e f g h i x y z : Int) : both a b c d e f g h i x y z = bif inB 1000 [a, b, c, d, e, f, g, h, i] && inB 2147483648 [x, y, z] then 0 else 4 := by
  unfold both bothT
  rw [chk_eq, within_eq x y z 2147483648 (by omega) (by omega)]
  cases inB 1000 [a, b, c, d, e, f, g, h, i] <;> cases inB 2147483648 [x, y, z] <;> rfl


theorem mulR_eq (a b c d e f g h i j k l m n o p q r : Int) : mulR a b c d e f g h i j k l m n o p q r = bif inB 1000 [a, b, c, d, e, f, g, h, i] && inB 1000 [j, k, l, m, n, o, p, q, r] then mulD a b c d e f g h i j k l m n o p q r else zeros9 4 := by
  unfold mulR mulT
  rw [chk_eq, chk_eq]
  cases inB 1000 [a, b, c, d, e, f, g, h, i] <;> cases inB 1000 [j, k, l, m, n, o, p, q, r] <;> rfl
theorem applyR_eq (a b c d e f g h i x y z : Int) : applyR a b c d e f g h i x y z = bif inB 1000 [a, b, c, d, e, f, g, h, i] && inB 2147483648 [x, y, z] then applyD a b c d e f g h i x y z else [0, 0, 0, 4] := by
  unfold applyR applyT
  rw [both_eq]
  cases inB 1000 [a, b, c, d, e, f, g, h, i] <;> cases inB 2147483648 [x, y, z] <;> rfl
theorem leftR_eq (a b c d e f g h i x y z : Int) : leftR a b c d e f g h i x y z = bif inB 1000 [a, b, c, d, e, f, g, h, i] && inB 2147483648 [x, y, z] then leftD a b c d e f g h i x y z else [0, 0, 0, 4] := by
  unfold leftR applyT
  rw [both_eq]
  cases inB 1000 [a, b, c, d, e, f, g, h, i] <;> cases inB 2147483648 [x, y, z] <;> rfl
theorem transR_eq (a b c d e f g h i : Int) : transR a b c d e f g h i = bif inB 1000 [a, b, c, d, e, f, g, h, i] then [a, d, g, b, e, h, c, f, i, 0] else zeros9 4 := by
  unfold transR err9T
  rw [chk_eq]
  cases inB 1000 [a, b, c, d, e, f, g, h, i] <;> rfl
theorem detE_eq (a b c d e f g h i : Int) : detE a b c d e f g h i = bif inB 1000 [a, b, c, d, e, f, g, h, i] then [detR a b c d e f g h i, 0] else [0, 4] := by
  unfold detE err1T
  rw [chk_eq]
  cases inB 1000 [a, b, c, d, e, f, g, h, i] <;> rfl
theorem traceE_eq (a b c d e f g h i : Int) : traceE a b c d e f g h i = bif inB 1000 [a, b, c, d, e, f, g, h, i] then [W (W (a + e) + i), 0] else [0, 4] := by
  unfold traceE err1T
  rw [chk_eq]
  cases inB 1000 [a, b, c, d, e, f, g, h, i] <;> rfl
theorem adjE_eq (a b c d e f g h i : Int) : adjE a b c d e f g h i = bif inB 1000 [a, b, c, d, e, f, g, h, i] then cofL a b c d e f g h i ++ [0] else zeros9 4 := by
  unfold adjE err9T
  rw [chk_eq]
  cases inB 1000 [a, b, c, d, e, f, g, h, i] <;> rfl

/-! The document's sums. -/
def rdot (a b c d e f : Int) : Int := W (W (W (0 + W (a * d)) + W (b * e)) + W (c * f))
theorem rdot_eq (a b c d e f : Int) : rdot a b c d e f = dotR a b c d e f := by
  unfold rdot dotR
  rw [Int.zero_add, W_W]
def det (a b c d e f g h i : Int) : Int := a * (e * i - f * h) + b * (f * g - d * i) + c * (d * h - e * g)
theorem detR_eq (a b c d e f g h i : Int) : detR a b c d e f g h i = W (det a b c d e f g h i) := by
  unfold detR minR det
  simp only [W_addl, W_addr, W_subl, W_subr, W_mulr]
theorem rdet_eq (a b c d e f g h i : Int) : rdet a b c d e f g h i = W (det a b c d e f g h i) := by
  unfold rdet det
  simp only [W_addl, W_addr, W_subl, W_subr, W_mull, Int.zero_add, W_W]
  congr 1
  grind

theorem eq3_refl (a b c : Int) : eq3 a b c a b c = true := by simp [eq3]
theorem eq9_refl (a b c d e f g h i : Int) : eq9 a b c d e f g h i a b c d e f g h i = true := by simp [eq9, eq3_refl]

end Go.Proofs.Ytofblakbfmjgkaa.Vx


namespace Go.Proofs.Ytofblakbfmjgkaa.Vx
open Go

theorem bd_mul {m n x y : Int} (hx : -m ≤ x ∧ x ≤ m) (hy : -n ≤ y ∧ y ≤ n) : -(m * n) ≤ x * y ∧ x * y ≤ m * n := by
  have h1 := Int.mul_nonneg (show 0 ≤ m - x by omega) (show 0 ≤ n + y by omega)
  have h2 := Int.mul_nonneg (show 0 ≤ m + x by omega) (show 0 ≤ n - y by omega)
  have h3 := Int.mul_nonneg (show 0 ≤ m - x by omega) (show 0 ≤ n - y by omega)
  have h4 := Int.mul_nonneg (show 0 ≤ m + x by omega) (show 0 ≤ n + y by omega)
  have e1 : (m - x) * (n + y) + (m + x) * (n - y) = 2 * (m * n) - 2 * (x * y) := by grind
  have e2 : (m - x) * (n - y) + (m + x) * (n + y) = 2 * (m * n) + 2 * (x * y) := by grind
  omega

theorem tmod_bd (x n : Int) (hn : 0 < n) : -(n - 1) ≤ Int.tmod x n ∧ Int.tmod x n ≤ n - 1 := by
  have h1 := Int.tmod_lt_of_pos x hn
  have h2 := Int.tmod_lt_of_pos (-x) hn
  rw [Int.neg_tmod] at h2
  omega

theorem inB_iff {n : Int} {l : List Int} : inB n l = true ↔ ∀ x ∈ l, -n ≤ x ∧ x ≤ n := by
  unfold inB
  simp [List.all_eq_true]

theorem dotR_W (a b c d e f : Int) : dotR a b c d e f = W (a * d + b * e + c * f) := by
  unfold dotR
  simp only [W_addl, W_addr]
theorem minR_W (a b c d : Int) : minR a b c d = W (a * b - c * d) := by
  unfold minR
  simp only [W_subl, W_subr]

theorem dotR_bd {m n a b c d e f : Int} (ha : -m ≤ a ∧ a ≤ m) (hb : -m ≤ b ∧ b ≤ m) (hc : -m ≤ c ∧ c ≤ m) (hd : -n ≤ d ∧ d ≤ n) (he : -n ≤ e ∧ e ≤ n) (hf : -n ≤ f ∧ f ≤ n) (h : 3 * (m * n) ≤ 9223372036854775807) :
    dotR a b c d e f = a * d + b * e + c * f ∧ -(3 * (m * n)) ≤ dotR a b c d e f ∧ dotR a b c d e f ≤ 3 * (m * n) := by
  have h1 := bd_mul ha hd
  have h2 := bd_mul hb he
  have h3 := bd_mul hc hf
  rw [dotR_W]
  have : W (a * d + b * e + c * f) = a * d + b * e + c * f := W_id (by omega) (by omega)
  rw [this]
  exact ⟨rfl, by omega, by omega⟩
theorem minR_bd {m a b c d : Int} (ha : -m ≤ a ∧ a ≤ m) (hb : -m ≤ b ∧ b ≤ m) (hc : -m ≤ c ∧ c ≤ m) (hd : -m ≤ d ∧ d ≤ m) (h : 2 * (m * m) ≤ 9223372036854775807) :
    minR a b c d = a * b - c * d ∧ -(2 * (m * m)) ≤ minR a b c d ∧ minR a b c d ≤ 2 * (m * m) := by
  have h1 := bd_mul ha hb
  have h2 := bd_mul hc hd
  rw [minR_W]
  have : W (a * b - c * d) = a * b - c * d := W_id (by omega) (by omega)
  rw [this]
  exact ⟨rfl, by omega, by omega⟩

theorem inB_mono {m n : Int} (h : m ≤ n) {l : List Int} (hl : inB m l = true) : inB n l = true := by
  rw [inB_iff] at hl ⊢
  intro x hx
  have := hl x hx
  omega

theorem det_mul (a b c d e f g h i j k l m n o p q r : Int) :
    det (a * j + b * m + c * p) (a * k + b * n + c * q) (a * l + b * o + c * r) (d * j + e * m + f * p) (d * k + e * n + f * q) (d * l + e * o + f * r) (g * j + h * m + i * p) (g * k + h * n + i * q) (g * l + h * o + i * r) = det a b c d e f g h i * det j k l m n o p q r := by
  unfold det; grind

theorem W_cadd {x x' y y' : Int} (h1 : W x = W x') (h2 : W y = W y') : W (x + y) = W (x' + y') := by
  rw [← W_addl, ← W_addr, h1, h2, W_addr, W_addl]
theorem W_csub {x x' y y' : Int} (h1 : W x = W x') (h2 : W y = W y') : W (x - y) = W (x' - y') := by
  rw [← W_subl, ← W_subr, h1, h2, W_subr, W_subl]
theorem W_cmul {x x' y y' : Int} (h1 : W x = W x') (h2 : W y = W y') : W (x * y) = W (x' * y') := by
  rw [← W_mull, ← W_mulr, h1, h2, W_mulr, W_mull]
/-- Entries that wrap to the same have determinants that do. -/
theorem W_det {a b c d e f g h i a' b' c' d' e' f' g' h' i' : Int} (ha : W a = W a') (hb : W b = W b') (hc : W c = W c') (hd : W d = W d') (he : W e = W e') (hf : W f = W f') (hg : W g = W g') (hh : W h = W h') (hi : W i = W i') :
    W (det a b c d e f g h i) = W (det a' b' c' d' e' f' g' h' i') :=
  W_cadd (W_cadd (W_cmul ha (W_csub (W_cmul he hi) (W_cmul hf hh))) (W_cmul hb (W_csub (W_cmul hf hg) (W_cmul hd hi)))) (W_cmul hc (W_csub (W_cmul hd hh) (W_cmul he hg)))

end Go.Proofs.Ytofblakbfmjgkaa.Vx


namespace Go.Proofs.Ytofblakbfmjgkaa.Vx
open Go

structure O3 where
  (r : M3) (t : V3)
structure P3 where
  (m : Int) (x : V3)
def O3.zero : O3 := ⟨M3.zero, V3.zero⟩
def P3.zero : P3 := ⟨0, V3.zero⟩

/-! Values -/
def vI (n : Int) : Value := .int .i64 n
def vB (b : Bool) : Value := .bool b
def M3.v (m : M3) : Value := .agg #[.int .i64 m.a, .int .i64 m.b, .int .i64 m.c, .int .i64 m.d, .int .i64 m.e, .int .i64 m.f, .int .i64 m.g, .int .i64 m.h, .int .i64 m.i]
def V3.v (u : V3) : Value := .agg #[.int .i64 u.x, .int .i64 u.y, .int .i64 u.z]
def O3.v (o : O3) : Value := .agg #[.int .i64 o.r.a, .int .i64 o.r.b, .int .i64 o.r.c, .int .i64 o.r.d, .int .i64 o.r.e, .int .i64 o.r.f, .int .i64 o.r.g, .int .i64 o.r.h, .int .i64 o.r.i, .int .i64 o.t.x, .int .i64 o.t.y, .int .i64 o.t.z]
def P3.v (p : P3) : Value := .agg #[.int .i64 p.m, .int .i64 p.x.x, .int .i64 p.x.y, .int .i64 p.x.z]
def p2 (a b : Value) : Value := .tuple #[a, b]

/-! Comparisons, as the executor makes them -/
def M3.eqB (m n : M3) : Bool := eq9 m.a m.b m.c m.d m.e m.f m.g m.h m.i n.a n.b n.c n.d n.e n.f n.g n.h n.i
def V3.eqB (u v : V3) : Bool := eq3 u.x u.y u.z v.x v.y v.z
def O3.eqB (o p : O3) : Bool := o.r.eqB p.r && (o.t.eqB p.t && true)
def P3.eqB (p q : P3) : Bool := (p.m == q.m) && (p.x.eqB q.x && true)
theorem M3.eqB_iff {m n : M3} : m.eqB n = true ↔ m = n := by
  cases m; cases n
  simp only [M3.eqB, eq9, eq3, Bool.and_eq_true, beq_iff_eq, M3.mk.injEq, and_true, and_assoc]
theorem V3.eqB_iff {m n : V3} : m.eqB n = true ↔ m = n := by
  cases m; cases n
  simp only [V3.eqB, eq3, Bool.and_eq_true, beq_iff_eq, V3.mk.injEq, and_true]
theorem O3.eqB_iff {m n : O3} : m.eqB n = true ↔ m = n := by
  cases m; cases n
  simp only [O3.eqB, Bool.and_eq_true, M3.eqB_iff, V3.eqB_iff, O3.mk.injEq, and_true]
theorem P3.eqB_iff {m n : P3} : m.eqB n = true ↔ m = n := by
  cases m; cases n
  simp only [P3.eqB, Bool.and_eq_true, V3.eqB_iff, P3.mk.injEq, and_true, beq_iff_eq]
theorem M3.eqB_refl (m : M3) : m.eqB m = true := M3.eqB_iff.2 rfl
theorem V3.eqB_refl (m : V3) : m.eqB m = true := V3.eqB_iff.2 rfl
theorem O3.eqB_refl (m : O3) : m.eqB m = true := O3.eqB_iff.2 rfl
theorem P3.eqB_refl (m : P3) : m.eqB m = true := P3.eqB_iff.2 rfl
theorem M3.eqB_false {m n : M3} : m.eqB n = false ↔ m ≠ n := by rw [Ne, ← M3.eqB_iff, Bool.not_eq_true]
theorem V3.eqB_false {m n : V3} : m.eqB n = false ↔ m ≠ n := by rw [Ne, ← V3.eqB_iff, Bool.not_eq_true]
theorem O3.eqB_false {m n : O3} : m.eqB n = false ↔ m ≠ n := by rw [Ne, ← O3.eqB_iff, Bool.not_eq_true]
theorem P3.eqB_false {m n : P3} : m.eqB n = false ↔ m ≠ n := by rw [Ne, ← P3.eqB_iff, Bool.not_eq_true]

/-! Bounds -/
def M3.l (m : M3) : List Int := [m.a, m.b, m.c, m.d, m.e, m.f, m.g, m.h, m.i]
def V3.l (m : V3) : List Int := [m.x, m.y, m.z]
def M3.ok (m : M3) : Bool := inB 1000 m.l
def V3.ok (v : V3) : Bool := inB 2147483648 v.l
def M3.Bd (n : Int) (m : M3) : Prop := (-n ≤ m.a ∧ m.a ≤ n) ∧ (-n ≤ m.b ∧ m.b ≤ n) ∧ (-n ≤ m.c ∧ m.c ≤ n) ∧ (-n ≤ m.d ∧ m.d ≤ n) ∧ (-n ≤ m.e ∧ m.e ≤ n) ∧ (-n ≤ m.f ∧ m.f ≤ n) ∧ (-n ≤ m.g ∧ m.g ≤ n) ∧ (-n ≤ m.h ∧ m.h ≤ n) ∧ (-n ≤ m.i ∧ m.i ≤ n)
def V3.Bd (n : Int) (m : V3) : Prop := (-n ≤ m.x ∧ m.x ≤ n) ∧ (-n ≤ m.y ∧ m.y ≤ n) ∧ (-n ≤ m.z ∧ m.z ≤ n)
theorem M3.ok_iff {m : M3} : m.ok = true ↔ m.Bd 1000 := by
  unfold M3.ok M3.l M3.Bd
  rw [inB_iff]
  simp only [List.mem_cons, List.not_mem_nil, or_false, forall_eq_or_imp, forall_eq]
theorem V3.ok_iff {m : V3} : m.ok = true ↔ m.Bd 2147483648 := by
  unfold V3.ok V3.l V3.Bd
  rw [inB_iff]
  simp only [List.mem_cons, List.not_mem_nil, or_false, forall_eq_or_imp, forall_eq]
theorem M3.Bd.mono {m : M3} {k n : Int} (h : m.Bd k) (hk : k ≤ n) : m.Bd n := by unfold M3.Bd at *; omega
theorem V3.Bd.mono {m : V3} {k n : Int} (h : m.Bd k) (hk : k ≤ n) : m.Bd n := by unfold V3.Bd at *; omega
/-- Products of three with three. -/
theorem dot_bd {m n a b c d e f : Int} (ha : -m ≤ a ∧ a ≤ m) (hb : -m ≤ b ∧ b ≤ m) (hc : -m ≤ c ∧ c ≤ m) (hd : -n ≤ d ∧ d ≤ n) (he : -n ≤ e ∧ e ≤ n) (hf : -n ≤ f ∧ f ≤ n) :
    -(3 * (m * n)) ≤ a * d + b * e + c * f ∧ a * d + b * e + c * f ≤ 3 * (m * n) := by
  have h1 := bd_mul ha hd
  have h2 := bd_mul hb he
  have h3 := bd_mul hc hf
  omega
theorem min_bd {m n a b c d : Int} (ha : -m ≤ a ∧ a ≤ m) (hb : -n ≤ b ∧ b ≤ n) (hc : -m ≤ c ∧ c ≤ m) (hd : -n ≤ d ∧ d ≤ n) :
    -(2 * (m * n)) ≤ a * b - c * d ∧ a * b - c * d ≤ 2 * (m * n) := by
  have h1 := bd_mul ha hb
  have h2 := bd_mul hc hd
  omega
theorem M3.Bd.mul {m n : M3} {k l : Int} (hm : m.Bd k) (hn : n.Bd l) : (m.mul n).Bd (3 * (k * l)) := by
  obtain ⟨a, b, c, d, e, f, g, h, i⟩ := hm
  obtain ⟨a', b', c', d', e', f', g', h', i'⟩ := hn
  exact ⟨dot_bd a b c a' d' g', dot_bd a b c b' e' h', dot_bd a b c c' f' i', dot_bd d e f a' d' g', dot_bd d e f b' e' h', dot_bd d e f c' f' i', dot_bd g h i a' d' g', dot_bd g h i b' e' h', dot_bd g h i c' f' i'⟩
theorem M3.Bd.app {m : M3} {v : V3} {k l : Int} (hm : m.Bd k) (hn : v.Bd l) : (m.app v).Bd (3 * (k * l)) := by
  obtain ⟨a, b, c, d, e, f, g, h, i⟩ := hm
  obtain ⟨x, y, z⟩ := hn
  exact ⟨dot_bd a b c x y z, dot_bd d e f x y z, dot_bd g h i x y z⟩
theorem M3.Bd.adj {m : M3} {k : Int} (hm : m.Bd k) : m.adj.Bd (2 * (k * k)) := by
  obtain ⟨a, b, c, d, e, f, g, h, i⟩ := hm
  exact ⟨min_bd e i f h, min_bd h c i b, min_bd b f c e, min_bd f g d i, min_bd i a g c, min_bd c d a f, min_bd d h e g, min_bd g b h a, min_bd a e b d⟩
theorem M3.Bd.det {m : M3} {k : Int} (hm : m.Bd k) : -(3 * (k * (2 * (k * k)))) ≤ m.det ∧ m.det ≤ 3 * (k * (2 * (k * k))) := by
  obtain ⟨a, b, c, d, e, f, g, h, i⟩ := hm
  exact dot_bd a b c (min_bd e i f h) (min_bd f g d i) (min_bd d h e g)
theorem M3.Bd.inv {m : M3} {k : Int} (hm : m.Bd k) (hu : m.U) : m.inv.Bd (2 * (k * k)) := by
  have h := hm.adj
  unfold M3.Bd M3.inv M3.smul at *
  simp only
  rcases hu with e | e <;> rw [e] <;> omega

/-- A number wrapped round that lies within. -/
theorem W_in {n : Int} (h : -9000000000000000000 ≤ n ∧ n ≤ 9000000000000000000) : W n = n := W_id (by omega) (by omega)

/-! vec -/
def M3.ck (m : M3) : Int := bif m.ok then 0 else 4
theorem chk_ck (m : M3) : chk m.a m.b m.c m.d m.e m.f m.g m.h m.i = m.ck := chk_eq _ _ _ _ _ _ _ _ _
def unitB (d : Int) : Bool := d == 1 || d == -1
theorem unitB_iff {d : Int} : unitB d = true ↔ (d = 1 ∨ d = -1) := by simp [unitB]
/-- What keeps a matrix from being in form. -/
def M3.form (m : M3) : Int := bif m.ok then (bif unitB m.det then 0 else 3) else 4
theorem M3.form_zero {m : M3} : m.form = 0 ↔ m.ok = true ∧ m.U := by
  unfold M3.form M3.U
  rw [← unitB_iff]
  cases m.ok <;> cases unitB m.det <;> simp

def tWithin (v : V3) (n : Int) : Option Value := chainO mk1 (withinT v.x v.y v.z n) [0]
def fWithin (v : V3) (n : Int) : Value := vI (withinR v.x v.y v.z n)
theorem tWithin_eq (v : V3) (n : Int) : tWithin v n = some (fWithin v n) := by
  unfold tWithin fWithin
  rw [chain_eq]; rfl
def tCheck (m : M3) : Option Value := chainO mk1 (checkT m.a m.b m.c m.d m.e m.f m.g m.h m.i) [0]
def fCheck (m : M3) : Value := vI m.ck
theorem tCheck_eq (m : M3) : tCheck m = some (fCheck m) := by
  unfold tCheck fCheck
  rw [chain_eq, ← chk_ck]; rfl
def tBoth (m : M3) (v : V3) : Option Value := chainO mk1 [(m.ck != 0, [m.ck])] [withinR v.x v.y v.z 2147483648]
def fBoth (m : M3) (v : V3) : Value := vI (bif m.ok && v.ok then 0 else 4)
theorem tBoth_eq (m : M3) (v : V3) : tBoth m v = some (fBoth m v) := by
  unfold tBoth fBoth
  rw [chain_eq, within_eq _ _ _ _ (by omega) (by omega)]
  change some (mk1 (chainL [(m.ck != 0, [m.ck])] [bif v.ok then 0 else 4])) = _
  unfold M3.ck
  cases m.ok <;> cases v.ok <;> rfl
def prodW (m n : M3) : List Int := prodL m.a m.b m.c m.d m.e m.f m.g m.h m.i n.a n.b n.c n.d n.e n.f n.g n.h n.i
theorem dotR_in {a b c d e f : Int} (h : -9000000000000000000 ≤ a * d + b * e + c * f ∧ a * d + b * e + c * f ≤ 9000000000000000000) : dotR a b c d e f = a * d + b * e + c * f := by rw [dotR_W, W_in h]
theorem prodW_eq {m n : M3} (h : (m.mul n).Bd 9000000000000000000) : prodW m n = (m.mul n).l := by
  obtain ⟨h0, h1, h2, h3, h4, h5, h6, h7, h8⟩ := h
  simp only [prodW, prodL, M3.l]
  rw [dotR_in h0, dotR_in h1, dotR_in h2, dotR_in h3, dotR_in h4, dotR_in h5, dotR_in h6, dotR_in h7, dotR_in h8]
  rfl
def tMul (m n : M3) : Option Value := chainO mkMe [(m.ck != 0, zeros9 m.ck), (n.ck != 0, zeros9 n.ck)] (prodW m n ++ [0])
def M3.mulF (m n : M3) : M3 := bif m.ok && n.ok then m.mul n else M3.zero
def fMul (m n : M3) : Value := p2 (m.mulF n).v (vI (bif m.ok && n.ok then 0 else 4))
theorem tMul_eq (m n : M3) : tMul m n = some (fMul m n) := by
  unfold tMul fMul M3.mulF
  rw [chain_eq]
  unfold M3.ck
  cases h1 : m.ok <;> cases h2 : n.ok <;> simp only [cond_true, cond_false, Bool.and_true, Bool.and_false, chainL, bne_self_eq_false]
  · rfl
  · rfl
  · rfl
  · rw [prodW_eq (((M3.ok_iff.1 h1).mul (M3.ok_iff.1 h2)).mono (by omega))]; rfl
def appW (m : M3) (v : V3) : List Int := [dotR m.a m.b m.c v.x v.y v.z, dotR m.d m.e m.f v.x v.y v.z, dotR m.g m.h m.i v.x v.y v.z]
theorem appW_eq {m : M3} {v : V3} (h : (m.app v).Bd 9000000000000000000) : appW m v = (m.app v).l := by
  obtain ⟨h0, h1, h2⟩ := h
  simp only [appW, V3.l]
  rw [dotR_in h0, dotR_in h1, dotR_in h2]
  rfl
def tApply (m : M3) (v : V3) : Option Value := chainO mkVe [((bif m.ok && v.ok then 0 else 4 : Int) != 0, [0, 0, 0, bif m.ok && v.ok then 0 else 4])] (appW m v ++ [0])
def M3.appF (m : M3) (v : V3) : V3 := bif m.ok && v.ok then m.app v else V3.zero
def fApply (m : M3) (v : V3) : Value := p2 (m.appF v).v (vI (bif m.ok && v.ok then 0 else 4))
theorem tApply_eq (m : M3) (v : V3) : tApply m v = some (fApply m v) := by
  unfold tApply fApply M3.appF
  rw [chain_eq]
  cases h1 : m.ok <;> cases h2 : v.ok <;> simp only [cond_true, cond_false, Bool.and_true, Bool.and_false, chainL, bne_self_eq_false]
  · rfl
  · rfl
  · rfl
  · rw [appW_eq (((M3.ok_iff.1 h1).app (V3.ok_iff.1 h2)).mono (by omega))]; rfl
def detW (m : M3) : Int := detR m.a m.b m.c m.d m.e m.f m.g m.h m.i
theorem detW_W (m : M3) : detW m = W m.det := detR_eq _ _ _ _ _ _ _ _ _
theorem detW_eq {m : M3} (h : m.ok = true) : detW m = m.det := by
  rw [detW_W, W_in]
  have := (M3.ok_iff.1 h).det
  omega
def tDet (m : M3) : Option Value := chainO mkIe [(m.ck != 0, [0, m.ck])] [detW m, 0]
def fDet (m : M3) : Value := p2 (vI (bif m.ok then m.det else 0)) (vI m.ck)
theorem tDet_eq (m : M3) : tDet m = some (fDet m) := by
  unfold tDet fDet
  rw [chain_eq]
  unfold M3.ck
  cases h : m.ok
  · rfl
  · rw [detW_eq h]; rfl
def invW (m : M3) : List Int := invL m.a m.b m.c m.d m.e m.f m.g m.h m.i
theorem minR_in {a b c d : Int} (h : -9000000000000000000 ≤ a * b - c * d ∧ a * b - c * d ≤ 9000000000000000000) : minR a b c d = a * b - c * d := by rw [minR_W, W_in h]
theorem invW_eq {m : M3} (h : m.ok = true) (hu : m.U) : invW m = m.inv.l := by
  have hb := M3.ok_iff.1 h
  have hd : detR m.a m.b m.c m.d m.e m.f m.g m.h m.i = m.det := detW_eq h
  obtain ⟨h0, h1, h2, h3, h4, h5, h6, h7, h8⟩ := hb.adj.mono (show 2 * (1000 * 1000) ≤ 9000000000000000000 by omega)
  have hw := (hb.inv hu).mono (show 2 * (1000 * 1000) ≤ 9000000000000000000 by omega)
  obtain ⟨k0, k1, k2, k3, k4, k5, k6, k7, k8⟩ := hw
  simp only [invW, invL, hd]
  simp only [M3.adj] at h0 h1 h2 h3 h4 h5 h6 h7 h8
  rw [minR_in h0, minR_in h1, minR_in h2, minR_in h3, minR_in h4, minR_in h5, minR_in h6, minR_in h7, minR_in h8]
  simp only [M3.inv, M3.smul, M3.adj] at k0 k1 k2 k3 k4 k5 k6 k7 k8
  rw [W_in k0, W_in k1, W_in k2, W_in k3, W_in k4, W_in k5, W_in k6, W_in k7, W_in k8]
  rfl
def tInverse (m : M3) : Option Value :=
  match m.ck != 0 with
  | true => some (mkMe (zeros9 m.ck))
  | false => match detW m != 1 with
    | true => match detW m != -1 with
      | true => some (mkMe (zeros9 3))
      | false => some (mkMe (invW m ++ [0]))
    | false => some (mkMe (invW m ++ [0]))
def M3.invF (m : M3) : M3 := bif m.form == 0 then m.inv else M3.zero
def fInverse (m : M3) : Value := p2 m.invF.v (vI m.form)
theorem tInverse_eq (m : M3) : tInverse m = some (fInverse m) := by
  unfold tInverse fInverse M3.invF M3.form M3.ck
  cases h : m.ok
  · rfl
  · simp only [cond_true, bne_self_eq_false, detW_eq h]
    by_cases h1 : m.det = 1
    · rw [invW_eq h (Or.inl h1), h1]; rfl
    · by_cases h2 : m.det = -1
      · rw [invW_eq h (Or.inr h2), h2]; rfl
      · have e1 : (m.det != 1) = true := by simpa using h1
        have e2 : (m.det != -1) = true := by simpa using h2
        have e3 : unitB m.det = false := by simp [unitB, h1, h2]
        rw [e1, e2, e3]; rfl
/-- The first of 1, 2, 3, 4, 6 that makes a power the identity; 0: none. -/
def M3.ordI (m : M3) : Int :=
  bif m.eqB M3.one then 1 else bif (m.pow 2).eqB M3.one then 2 else bif (m.pow 3).eqB M3.one then 3 else bif (m.pow 4).eqB M3.one then 4 else bif (m.pow 6).eqB M3.one then 6 else 0
def lM (l : List Int) : M3 := ⟨nth l 0, nth l 1, nth l 2, nth l 3, nth l 4, nth l 5, nth l 6, nth l 7, nth l 8⟩
theorem lM_l (m : M3) : lM m.l = m := rfl
def tOrder (m : M3) : Option Value :=
  chainO mkIe [(m.form != 0, [0, m.form]), (m.eqB M3.one, [1, 0]), (m.eqB m.invF, [2, 0]), ((lM (prodW m m)).eqB m.invF, [3, 0]), ((lM (prodW m m)).eqB (lM (prodW m.invF m.invF)), [4, 0]),
    ((lM (prodW (lM (prodW m m)) (lM (prodW m m)))).eqB (lM (prodW m.invF m.invF)), [6, 0])] [0, 9]
def M3.ordF (m : M3) : Int := bif m.form == 0 then m.ordI else 0
def M3.ordE (m : M3) : Int := bif m.form == 0 then (bif m.ordI == 0 then 9 else 0) else m.form
def fOrder (m : M3) : Value := p2 (vI m.ordF) (vI m.ordE)
theorem beq_of_iff {p q : Bool} (h : p = true ↔ q = true) : p = q := by cases p <;> cases q <;> simp_all
theorem M3.pow2 (m : M3) : m.pow 2 = m.mul m := by simp only [M3.pow]; rw [M3.mul_one]
theorem M3.cancel_iff {m x y : M3} (h : m.U) : x = y ↔ m.mul x = m.mul y := ⟨fun e => by rw [e], M3.cancel_left h⟩
theorem tOrder_eq (m : M3) : tOrder m = some (fOrder m) := by
  unfold tOrder fOrder M3.ordF M3.ordE
  rw [chain_eq]
  by_cases hf : m.form = 0
  · obtain ⟨hok, hu⟩ := M3.form_zero.1 hf
    have hb := M3.ok_iff.1 hok
    have hi := hb.inv hu
    have e0 : m.invF = m.inv := by unfold M3.invF; rw [hf]; rfl
    have hmm := hb.mul hb
    have hii := hi.mul hi
    rw [e0, prodW_eq (hmm.mono (by omega)), prodW_eq (hii.mono (by omega)), lM_l, lM_l, prodW_eq ((hmm.mul hmm).mono (by omega)), lM_l, hf]
    have k2 : m.eqB m.inv = (m.pow 2).eqB M3.one := beq_of_iff (by rw [M3.eqB_iff, M3.eqB_iff, M3.pow2, M3.cancel_iff hu, M3.mul_inv hu])
    have k3 : (m.mul m).eqB m.inv = (m.pow 3).eqB M3.one := beq_of_iff (by
      rw [M3.eqB_iff, M3.eqB_iff, M3.cancel_iff hu, M3.mul_inv hu]; simp only [M3.pow]; rw [M3.mul_one])
    have k4 : (m.mul m).eqB (m.inv.mul m.inv) = (m.pow 4).eqB M3.one := beq_of_iff (by
      rw [M3.eqB_iff, M3.eqB_iff, M3.cancel_iff hu, ← M3.mul_assoc m m.inv, M3.mul_inv hu, M3.one_mul, M3.cancel_iff hu, M3.mul_inv hu]; simp only [M3.pow]; rw [M3.mul_one])
    have k6 : ((m.mul m).mul (m.mul m)).eqB (m.inv.mul m.inv) = (m.pow 6).eqB M3.one := beq_of_iff (by
      rw [M3.eqB_iff, M3.eqB_iff, M3.cancel_iff hu, ← M3.mul_assoc m m.inv, M3.mul_inv hu, M3.one_mul, M3.cancel_iff hu, M3.mul_inv hu]; simp only [M3.pow]; rw [M3.mul_one, M3.mul_assoc m m])
    rw [k2, k3, k4, k6]
    unfold M3.ordI
    cases m.eqB M3.one <;> cases (m.pow 2).eqB M3.one <;> cases (m.pow 3).eqB M3.one <;> cases (m.pow 4).eqB M3.one <;> cases (m.pow 6).eqB M3.one <;> rfl
  · have e1 : (m.form != 0) = true := by simpa using hf
    have e2 : (m.form == 0) = false := by simpa using hf
    rw [e1, e2]; rfl
/-- What ordI tells. -/
theorem M3.ordI_spec {m : M3} (h : m.ordI ≠ 0) : ∃ n : Nat, m.ordI = n ∧ m.IsOrd n ∧ (n = 1 ∨ n = 2 ∨ n = 3 ∨ n = 4 ∨ n = 6) := by
  unfold M3.ordI at h ⊢
  cases h1 : m.eqB M3.one with
  | true => exact ⟨1, rfl, M3.ord1 (M3.eqB_iff.1 h1), by omega⟩
  | false =>
    cases h2 : (m.pow 2).eqB M3.one with
    | true => exact ⟨2, rfl, M3.ord2 (M3.eqB_false.1 h1) (M3.eqB_iff.1 h2), by omega⟩
    | false =>
      cases h3 : (m.pow 3).eqB M3.one with
      | true => exact ⟨3, rfl, M3.ord3 (M3.eqB_false.1 h1) (M3.eqB_iff.1 h3), by omega⟩
      | false =>
        cases h4 : (m.pow 4).eqB M3.one with
        | true => exact ⟨4, rfl, M3.ord4 (M3.eqB_false.1 h1) (M3.eqB_false.1 h2) (M3.eqB_iff.1 h4), by omega⟩
        | false =>
          cases h6 : (m.pow 6).eqB M3.one with
          | true => exact ⟨6, rfl, M3.ord6 (M3.eqB_false.1 h1) (M3.eqB_false.1 h2) (M3.eqB_false.1 h3) (M3.eqB_iff.1 h6), by omega⟩
          | false => rw [h1, h2, h3, h4, h6] at h; exact absurd rfl h
theorem M3.ordI_of {m : M3} {n : Nat} (h : m.IsOrd n) (hn : n = 1 ∨ n = 2 ∨ n = 3 ∨ n = 4 ∨ n = 6) : m.ordI = n := by
  have key : ∀ k, (m.pow k).eqB M3.one = decide (n ∣ k) := fun k => beq_of_iff (by rw [M3.eqB_iff, h.dvd k]; simp)
  unfold M3.ordI
  have k1 : m.eqB M3.one = decide (n ∣ 1) := by rw [← key, M3.pow_one]
  rw [k1, key, key, key, key]
  rcases hn with rfl | rfl | rfl | rfl | rfl <;> rfl

/-! frac -/
def md (n m : Int) : Int := match decide (Int.tmod n m < 0) with
  | true => W (Int.tmod n m + m)
  | false => Int.tmod n m
theorem md_emod (n m : Int) (h0 : 0 < m) (h1 : m ≤ 1000) : md n m = n % m := by
  unfold md
  have h := Int.tmod_add_mul_tdiv n m
  have hb := tmod_bd n m h0
  have e2 : (n.tmod m) % m = n % m := by
    conv => rhs; rw [← h]
    rw [Int.add_mul_emod_self_left]
  by_cases hn : n.tmod m < 0
  · have : decide (n.tmod m < 0) = true := by simpa using hn
    rw [this]
    simp only
    rw [W_in (by omega), ← e2]
    have : (n.tmod m + m) % m = n.tmod m % m := Int.add_emod_right _ _
    rw [← this, Int.emod_eq_of_lt (by omega) (by omega)]
  · have : decide (n.tmod m < 0) = false := by simpa using hn
    rw [this]
    simp only
    rw [← e2, Int.emod_eq_of_lt (by omega) (by omega)]
/-- A number that is divided by: above 0, and not too great. -/
def modB (m : Int) : Bool := decide (0 < m) && decide (m ≤ 1000)
theorem modB_iff {m : Int} : modB m = true ↔ 0 < m ∧ m ≤ 1000 := by simp [modB]
def tResidue (n m : Int) : Option Value := match m == 0 with
  | true => none
  | false => match decide (Int.tmod n m < 0) with
    | true => some (.int .i64 (W (Int.tmod n m + m)))
    | false => some (.int .i64 (Int.tmod n m))
theorem tResidue_eq {n m : Int} (h : modB m = true) : tResidue n m = some (vI (n % m)) := by
  obtain ⟨h0, h1⟩ := modB_iff.1 h
  have e : (m == 0) = false := by simp; omega
  rw [← md_emod n m h0 h1]
  unfold tResidue md vI
  rw [e]
  cases decide (Int.tmod n m < 0) <;> rfl
def V3.a24 (u v : V3) : V3 := ⟨(u.x % 24 + v.x % 24) % 24, (u.y % 24 + v.y % 24) % 24, (u.z % 24 + v.z % 24) % 24⟩
theorem V3.a24_eq (u v : V3) : u.a24 v = (u.add v).md 24 := by
  unfold V3.a24 V3.add V3.md
  simp only [V3.mk.injEq]
  omega
theorem mod24_in (x y : Int) : W (x % 24 + y % 24) = x % 24 + y % 24 := W_in (by omega)
def tAdd (u v : V3) : Option Value := some (V3.v ⟨W (u.x % 24 + v.x % 24) % 24, W (u.y % 24 + v.y % 24) % 24, W (u.z % 24 + v.z % 24) % 24⟩)
def fAdd (u v : V3) : Value := ((u.add v).md 24).v
theorem tAdd_eq (u v : V3) : tAdd u v = some (fAdd u v) := by
  unfold tAdd fAdd
  rw [mod24_in, mod24_in, mod24_in, ← V3.a24_eq]; rfl
def tNeg (u : V3) : Option Value := some (V3.v ⟨W (0 - u.x % 24) % 24, W (0 - u.y % 24) % 24, W (0 - u.z % 24) % 24⟩)
def fNeg (u : V3) : Value := (u.neg.md 24).v
theorem tNeg_eq (u : V3) : tNeg u = some (fNeg u) := by
  unfold tNeg fNeg
  rw [W_in (by omega), W_in (by omega), W_in (by omega)]
  have : u.neg.md 24 = ⟨(0 - u.x % 24) % 24, (0 - u.y % 24) % 24, (0 - u.z % 24) % 24⟩ := by
    unfold V3.neg V3.md; simp only [V3.mk.injEq]; omega
  rw [this]
def V3.smul (n : Int) (u : V3) : V3 := ⟨n * u.x, n * u.y, n * u.z⟩
def tTimes (n : Int) (u : V3) : Option Value := some (V3.v ⟨W (n % 24 * (u.x % 24)) % 24, W (n % 24 * (u.y % 24)) % 24, W (n % 24 * (u.z % 24)) % 24⟩)
def fTimes (n : Int) (u : V3) : Value := ((u.smul n).md 24).v
theorem times_in (n x : Int) : W (n % 24 * (x % 24)) % 24 = n * x % 24 := by
  have h1 : 0 ≤ n % 24 ∧ n % 24 < 24 := by omega
  have h2 : 0 ≤ x % 24 ∧ x % 24 < 24 := by omega
  have := bd_mul (m := 24) (n := 24) (x := n % 24) (y := x % 24) (by omega) (by omega)
  rw [W_in (by omega), ← Int.mul_emod]
theorem tTimes_eq (n : Int) (u : V3) : tTimes n u = some (fTimes n u) := by
  unfold tTimes fTimes V3.smul V3.md
  rw [times_in, times_in, times_in]
def isF (m : Int) : Bool := (m == 24) || ((m == 48) || ((m == 96) || (m == 192)))
theorem isF_iff {m : Int} : isF m = true ↔ m = 24 ∨ m = 48 ∨ m = 96 ∨ m = 192 := by simp [isF]
theorem isF_modB {m : Int} (h : isF m = true) : modB m = true := by
  rw [modB_iff]; rcases isF_iff.1 h with rfl | rfl | rfl | rfl <;> omega
def tFine (m : Int) : Option Value := match m == 24 with
  | true => some (.bool true)
  | false => match m == 48 with
    | true => some (.bool true)
    | false => match m == 96 with
      | true => some (.bool true)
      | false => some (.bool (m == 192))
def fFine (m : Int) : Value := .bool (isF m)
theorem tFine_eq (m : Int) : tFine m = some (fFine m) := by
  unfold tFine fFine isF
  cases m == 24 <;> cases m == 48 <;> cases m == 96 <;> rfl
/-- Go on where this holds. -/
def onO (b : Bool) (k : Option Value) : Option Value := match b with
  | true => k
  | false => none
theorem onO_true {b : Bool} (h : b = true) (k : Option Value) : onO b k = k := by subst h; rfl
def P3.form (p : P3) : Bool := isF p.m && p.x.eqB (p.x.md p.m)
def tPForm (p : P3) : Option Value := match isF p.m with
  | true => onO (modB p.m) (onO (modB p.m) (onO (modB p.m) (some (.bool (p.x.eqB (p.x.md p.m))))))
  | false => some (.bool false)
def fPForm (p : P3) : Value := .bool p.form
theorem tPForm_eq (p : P3) : tPForm p = some (fPForm p) := by
  unfold tPForm fPForm P3.form
  cases h : isF p.m with
  | true => simp only [onO_true (isF_modB h), Bool.true_and]
  | false => rfl
theorem P3.form_spec {p : P3} (h : p.form = true) : (p.m = 24 ∨ p.m = 48 ∨ p.m = 96 ∨ p.m = 192) ∧ (0 ≤ p.x.x ∧ p.x.x < p.m) ∧ (0 ≤ p.x.y ∧ p.x.y < p.m) ∧ (0 ≤ p.x.z ∧ p.x.z < p.m) := by
  unfold P3.form at h
  rw [Bool.and_eq_true] at h
  have hm := isF_iff.1 h.1
  have hx := V3.eqB_iff.1 h.2
  refine ⟨hm, ?_⟩
  have e1 : p.x.x = p.x.x % p.m := congrArg V3.x hx
  have e2 : p.x.y = p.x.y % p.m := congrArg V3.y hx
  have e3 : p.x.z = p.x.z % p.m := congrArg V3.z hx
  rcases hm with e | e | e | e <;> rw [e] at e1 e2 e3 ⊢ <;> omega
def tPlace (m : Int) (v : V3) : Option Value := match !(isF m) with
  | true => some (p2 P3.zero.v (vI 1))
  | false => onO (modB m) (onO (modB m) (onO (modB m) (some (p2 (P3.v ⟨m, v.md m⟩) (vI 0)))))
def P3.place (m : Int) (v : V3) : P3 := bif isF m then ⟨m, v.md m⟩ else P3.zero
def fPlace (m : Int) (v : V3) : Value := p2 (P3.place m v).v (vI (bif isF m then 0 else 1))
theorem tPlace_eq (m : Int) (v : V3) : tPlace m v = some (fPlace m v) := by
  unfold tPlace fPlace P3.place
  cases h : isF m with
  | true => simp only [Bool.not_true, onO_true (isF_modB h), cond_true]
  | false => rfl
def shW (m x t : Int) : Int := W (x + W (t % 24 * W (Int.tdiv m 24))) % m
def tShift (p : P3) (t : V3) : Option Value := match !p.form with
  | true => some (p2 P3.zero.v (vI 3))
  | false => onO (modB p.m) (onO (modB p.m) (onO (modB p.m) (some (p2 (P3.v ⟨p.m, ⟨shW p.m p.x.x t.x, shW p.m p.x.y t.y, shW p.m p.x.z t.z⟩⟩) (vI 0)))))
def P3.shift (p : P3) (t : V3) : P3 := ⟨p.m, (p.x.add (t.smul (p.m / 24))).md p.m⟩
theorem smul_comm' (a b : Int) : b * a = a * b := Int.mul_comm _ _
def fShift (p : P3) (t : V3) : Value := p2 (bif p.form then p.shift t else P3.zero).v (vI (bif p.form then 0 else 3))
theorem shW_eq {m x : Int} (t : Int) (hm : m = 24 ∨ m = 48 ∨ m = 96 ∨ m = 192) (hx : 0 ≤ x ∧ x < m) : shW m x t = (x + m / 24 * t) % m := by
  unfold shW
  rcases hm with rfl | rfl | rfl | rfl
  · rw [show W (Int.tdiv 24 24) = 1 from rfl, W_in (n := t % 24 * 1) (by omega), W_in (by omega)]; omega
  · rw [show W (Int.tdiv 48 24) = 2 from rfl, W_in (n := t % 24 * 2) (by omega), W_in (by omega)]; omega
  · rw [show W (Int.tdiv 96 24) = 4 from rfl, W_in (n := t % 24 * 4) (by omega), W_in (by omega)]; omega
  · rw [show W (Int.tdiv 192 24) = 8 from rfl, W_in (n := t % 24 * 8) (by omega), W_in (by omega)]; omega
theorem tShift_eq (p : P3) (t : V3) : tShift p t = some (fShift p t) := by
  unfold tShift fShift
  cases h : p.form with
  | true =>
    obtain ⟨hm, h1, h2, h3⟩ := P3.form_spec h
    have hmod : modB p.m = true := modB_iff.2 (by omega)
    simp only [Bool.not_true, onO_true hmod, cond_true]
    rw [shW_eq _ hm h1, shW_eq _ hm h2, shW_eq _ hm h3]
    rfl
  | false => rfl
end Go.Proofs.Ytofblakbfmjgkaa.Vx


namespace Go.Proofs.Ytofblakbfmjgkaa.Vx
open Go

/-! What both come to -/
def part1 (x : Int) : Bool := decide (0 ≤ x) && decide (x ≤ 23)
def V3.part (v : V3) : Bool := part1 v.x && (part1 v.y && part1 v.z)
theorem V3.part_iff {v : V3} : v.part = true ↔ (0 ≤ v.x ∧ v.x ≤ 23) ∧ (0 ≤ v.y ∧ v.y ≤ 23) ∧ (0 ≤ v.z ∧ v.z ≤ 23) := by
  simp [V3.part, part1]
theorem V3.md_part (v : V3) : (v.md 24).part = true := by rw [V3.part_iff]; unfold V3.md; simp only; omega
theorem V3.part_md {v : V3} (h : v.part = true) : v.md 24 = v := by
  rw [V3.part_iff] at h
  apply V3.ext'; unfold V3.md; simp only; omega
theorem V3.part_ok {v : V3} (h : v.part = true) : v.ok = true := by
  rw [V3.part_iff] at h; rw [V3.ok_iff]; unfold V3.Bd; omega
/-- What keeps a map from being in form. -/
def O3.ck (o : O3) : Int := bif o.t.part then o.r.form else 3
theorem O3.ck_zero {o : O3} : o.ck = 0 ↔ o.t.part = true ∧ o.r.ok = true ∧ o.r.U := by
  unfold O3.ck
  cases h : o.t.part with
  | true => simp only [cond_true, true_and]; exact M3.form_zero
  | false => simp
theorem O3.ck_cases (o : O3) : o.ck = 0 ∨ o.ck = 3 ∨ o.ck = 4 := by
  unfold O3.ck M3.form
  cases o.t.part <;> cases o.r.ok <;> cases unitB o.r.det <;> simp
def leastI (a b : Int) : Int := bif (a == 0 || b == 0) then (if b > a then b else a) else (if b < a then b else a)
def O3.one : O3 := ⟨M3.one, V3.zero⟩
def O3.mul (a b : O3) : O3 := ⟨a.r.mul b.r, ((a.r.app b.t).add a.t).md 24⟩
def O3.inv (o : O3) : O3 := ⟨o.r.inv, ((o.r.inv.app o.t).neg).md 24⟩
/-- A map, if its entries lie within bounds. -/
def O3.small (o : O3) : O3 := bif o.r.ok then o else O3.zero
def O3.smallE (o : O3) : Int := bif o.r.ok then 0 else 4
def pOE (o : O3) (e : Int) : Value := p2 o.v (vI e)
def O3.mulF (a b : O3) : O3 := bif leastI a.ck b.ck == 0 then (a.mul b).small else O3.zero
def O3.mulE (a b : O3) : Int := bif leastI a.ck b.ck == 0 then (a.mul b).smallE else leastI a.ck b.ck
def O3.invF (a : O3) : O3 := bif a.ck == 0 then a.inv.small else O3.zero
def O3.invE (a : O3) : Int := bif a.ck == 0 then a.inv.smallE else a.ck
theorem leastI_zero {a b : O3} : leastI a.ck b.ck = 0 ↔ a.ck = 0 ∧ b.ck = 0 := by
  rcases O3.ck_cases a with h | h | h <;> rcases O3.ck_cases b with k | k | k <;> rw [h, k] <;> decide

theorem bif_beq {a : Int} (h : a ≠ 0) : (a == 0) = false ∧ (a != 0) = true := by constructor <;> simpa using h

/-! op -/
def tAwake : Option Value := some (.bool true)
def fAwake : Value := .bool true
theorem tAwake_eq : tAwake = some fAwake := rfl
def tOCheck (o : O3) : Option Value := chainO mk1 [(decide (o.t.x < 0), [3]), (decide (o.t.x ≥ 24), [3]), (decide (o.t.y < 0), [3]), (decide (o.t.y ≥ 24), [3]), (decide (o.t.z < 0), [3]), (decide (o.t.z ≥ 24), [3])] [o.r.form]
def fOCheck (o : O3) : Value := vI o.ck
theorem part1_eq (x : Int) : part1 x = (!(decide (x < 0)) && !(decide (x ≥ 24))) := by
  unfold part1
  rw [Bool.eq_iff_iff]
  simp only [Bool.and_eq_true, decide_eq_true_eq, Bool.not_eq_true', decide_eq_false_iff_not]
  omega
theorem tOCheck_eq (o : O3) : tOCheck o = some (fOCheck o) := by
  unfold tOCheck fOCheck O3.ck V3.part
  rw [chain_eq, part1_eq, part1_eq, part1_eq]
  cases decide (o.t.x < 0) <;> cases decide (o.t.x ≥ 24) <;> cases decide (o.t.y < 0) <;> cases decide (o.t.y ≥ 24) <;> cases decide (o.t.z < 0) <;> cases decide (o.t.z ≥ 24) <;> rfl
def tCheckM (m : M3) : Option Value :=
  match m.ck != 0 with
  | true => some (vI m.ck)
  | false => match (bif m.ok then m.det else 0) != 1 with
    | true => match (bif m.ok then m.det else 0) != -1 with
      | true => some (vI 3)
      | false => some (vI 0)
    | false => some (vI 0)
def fCheckM (m : M3) : Value := vI m.form
theorem tCheckM_eq (m : M3) : tCheckM m = some (fCheckM m) := by
  unfold tCheckM fCheckM M3.form M3.ck
  cases m.ok
  · rfl
  · simp only [cond_true, bne_self_eq_false]
    by_cases h1 : m.det = 1
    · rw [h1]; rfl
    · by_cases h2 : m.det = -1
      · rw [h2]; rfl
      · have e1 : (m.det != 1) = true := by simpa using h1
        have e2 : (m.det != -1) = true := by simpa using h2
        have e3 : unitB m.det = false := by simp [unitB, h1, h2]
        rw [e1, e2, e3]; rfl
def tLeast (a b : Int) : Option Value :=
  match a == 0 with
  | true => some (vI (if b > a then b else a))
  | false => match b == 0 with
    | true => some (vI (if b > a then b else a))
    | false => some (vI (if b < a then b else a))
def fLeast (a b : Int) : Value := vI (leastI a b)
theorem tLeast_eq (a b : Int) : tLeast a b = some (fLeast a b) := by
  unfold tLeast fLeast leastI
  cases a == 0 <;> cases b == 0 <;> rfl
def O3.send (o : O3) (t : V3) : V3 := ((o.r.appF t).add o.t).md 24
def tSend (o : O3) (t : V3) : Option Value := some (fAdd (o.r.appF t) o.t)
def fSend (o : O3) (t : V3) : Value := (o.send t).v
theorem tSend_eq (o : O3) (t : V3) : tSend o t = some (fSend o t) := rfl
def M3.w (m : M3) : M3 := ⟨W m.a, W m.b, W m.c, W m.d, W m.e, W m.f, W m.g, W m.h, W m.i⟩
def V3.w (m : V3) : V3 := ⟨W m.x, W m.y, W m.z⟩
theorem M3.w_eq {m : M3} (h : m.Bd 9000000000000000000) : m.w = m := by
  obtain ⟨h0, h1, h2, h3, h4, h5, h6, h7, h8⟩ := h
  unfold M3.w
  rw [W_in h0, W_in h1, W_in h2, W_in h3, W_in h4, W_in h5, W_in h6, W_in h7, W_in h8]
theorem V3.w_eq {m : V3} (h : m.Bd 9000000000000000000) : m.w = m := by
  obtain ⟨h0, h1, h2⟩ := h
  unfold V3.w
  rw [W_in h0, W_in h1, W_in h2]
def M3.negW (m : M3) : M3 := ⟨W (0 - m.a), W (0 - m.b), W (0 - m.c), W (0 - m.d), W (0 - m.e), W (0 - m.f), W (0 - m.g), W (0 - m.h), W (0 - m.i)⟩
theorem M3.negW_eq {m : M3} (h : m.Bd 1000) : m.negW = m.neg := by
  unfold M3.Bd at h
  unfold M3.negW M3.neg
  rw [W_in (n := 0 - m.a) (by omega), W_in (n := 0 - m.b) (by omega), W_in (n := 0 - m.c) (by omega), W_in (n := 0 - m.d) (by omega), W_in (n := 0 - m.e) (by omega), W_in (n := 0 - m.f) (by omega), W_in (n := 0 - m.g) (by omega), W_in (n := 0 - m.h) (by omega), W_in (n := 0 - m.i) (by omega)]
  simp only [Int.zero_sub]
def tOpposite (m : M3) : Option Value := some m.negW.v
def fOpposite (m : M3) : Value := m.negW.v
theorem tOpposite_eq (m : M3) : tOpposite m = some (fOpposite m) := rfl
def tOForm (o : O3) : Option Value := some (.bool (o.ck == 0))
def fOForm (o : O3) : Value := .bool (o.ck == 0)
theorem tOForm_eq (o : O3) : tOForm o = some (fOForm o) := rfl
def tMake (m : M3) (t : V3) : Option Value :=
  match m.form != 0 with
  | true => some (pOE O3.zero m.form)
  | false => some (pOE ⟨m, (t.add V3.zero).md 24⟩ 0)
def O3.makeF (m : M3) (t : V3) : O3 := bif m.form == 0 then ⟨m, t.md 24⟩ else O3.zero
def fMake (m : M3) (t : V3) : Value := pOE (O3.makeF m t) m.form
theorem V3.add_zero (t : V3) : t.add V3.zero = t := by unfold V3.add V3.zero; simp
theorem tMake_eq (m : M3) (t : V3) : tMake m t = some (fMake m t) := by
  unfold tMake fMake O3.makeF
  rw [V3.add_zero]
  by_cases h : m.form = 0
  · rw [h]; rfl
  · rw [(bif_beq h).1, (bif_beq h).2]; rfl
def tOne : Option Value := some O3.one.v
def fOne : Value := O3.one.v
theorem tOne_eq : tOne = some fOne := rfl
def tOMul (a b : O3) : Option Value :=
  match leastI a.ck b.ck != 0 with
  | true => some (pOE O3.zero (leastI a.ck b.ck))
  | false => match (a.r.mulF b.r).ck != 0 with
    | true => some (pOE O3.zero (a.r.mulF b.r).ck)
    | false => some (pOE ⟨a.r.mulF b.r, a.send b.t⟩ 0)
def fOMul (a b : O3) : Value := pOE (a.mulF b) (a.mulE b)
theorem O3.send_eq {o : O3} {t : V3} (h : o.r.ok = true) (ht : t.ok = true) : o.send t = ((o.r.app t).add o.t).md 24 := by
  unfold O3.send M3.appF; rw [h, ht]; rfl
theorem tOMul_eq (a b : O3) : tOMul a b = some (fOMul a b) := by
  unfold tOMul fOMul O3.mulF O3.mulE
  by_cases h : leastI a.ck b.ck = 0
  · obtain ⟨ha, hb⟩ := leastI_zero.1 h
    obtain ⟨a1, a2, a3⟩ := O3.ck_zero.1 ha
    obtain ⟨b1, b2, b3⟩ := O3.ck_zero.1 hb
    have e : a.r.mulF b.r = a.r.mul b.r := by unfold M3.mulF; rw [a2, b2]; rfl
    rw [h, e, O3.send_eq a2 (V3.part_ok b1)]
    unfold O3.small O3.smallE M3.ck
    simp only [O3.mul]
    cases (a.r.mul b.r).ok <;> rfl
  · rw [(bif_beq h).1, (bif_beq h).2]; rfl
def tOInverse (o : O3) : Option Value :=
  match o.ck != 0 with
  | true => some (pOE O3.zero o.ck)
  | false => match o.r.invF.ck != 0 with
    | true => some (pOE O3.zero o.r.invF.ck)
    | false => some (pOE ⟨o.r.invF, ((o.r.invF.appF o.t).neg).md 24⟩ 0)
def fOInverse (o : O3) : Value := pOE o.invF o.invE
theorem tOInverse_eq (o : O3) : tOInverse o = some (fOInverse o) := by
  unfold tOInverse fOInverse O3.invF O3.invE
  by_cases h : o.ck = 0
  · obtain ⟨a1, a2, a3⟩ := O3.ck_zero.1 h
    have e : o.r.invF = o.r.inv := by unfold M3.invF; rw [M3.form_zero.2 ⟨a2, a3⟩]; rfl
    rw [h, e]
    unfold O3.small O3.smallE M3.ck O3.inv M3.appF
    rw [V3.part_ok a1]
    cases o.r.inv.ok <;> rfl
  · rw [(bif_beq h).1, (bif_beq h).2]; rfl
/-- The kind of a matrix. -/
def M3.kindF (m : M3) : Int := bif m.det == 1 then m.ordI else -m.neg.ordI
theorem M3.neg_ok {m : M3} (h : m.ok = true) : m.neg.ok = true := by
  rw [M3.ok_iff] at *; unfold M3.Bd M3.neg at *; simp only; omega
theorem M3.det_neg (m : M3) : m.neg.det = -m.det := by unfold M3.det M3.neg; grind
theorem M3.U_neg {m : M3} (h : m.U) : m.neg.U := by
  unfold M3.U at *; rw [M3.det_neg]; omega
def M3.kindE (m : M3) : Int := bif m.kindF == 0 then 9 else 0
def O3.kindF (o : O3) : Int := bif o.ck == 0 then o.r.kindF else 0
def O3.kindE (o : O3) : Int := bif o.ck == 0 then o.r.kindE else o.ck
def tKind (o : O3) : Option Value :=
  match o.ck != 0 with
  | true => some (p2 (vI 0) (vI o.ck))
  | false => match (bif o.r.ok then o.r.det else 0) == 1 with
    | true => some (p2 (vI o.r.ordF) (vI o.r.ordE))
    | false => some (p2 (vI (W (0 - o.r.negW.ordF))) (vI o.r.negW.ordE))
def fKind (o : O3) : Value := p2 (vI o.kindF) (vI o.kindE)
theorem M3.ordI_bd (m : M3) : 0 ≤ m.ordI ∧ m.ordI ≤ 6 := by
  unfold M3.ordI
  cases m.eqB M3.one <;> cases (m.pow 2).eqB M3.one <;> cases (m.pow 3).eqB M3.one <;> cases (m.pow 4).eqB M3.one <;> cases (m.pow 6).eqB M3.one <;> decide
theorem tKind_eq (o : O3) : tKind o = some (fKind o) := by
  unfold tKind fKind O3.kindF O3.kindE
  by_cases h : o.ck = 0
  · obtain ⟨a1, a2, a3⟩ := O3.ck_zero.1 h
    rw [h, a2]
    unfold M3.kindE M3.kindF
    simp only [cond_true, bne_self_eq_false, beq_self_eq_true]
    cases hd : o.r.det == 1 with
    | true => unfold M3.ordF M3.ordE; rw [M3.form_zero.2 ⟨a2, a3⟩]; rfl
    | false =>
      rw [M3.negW_eq (M3.ok_iff.1 a2)]
      unfold M3.ordF M3.ordE
      rw [M3.form_zero.2 ⟨M3.neg_ok a2, M3.U_neg a3⟩]
      have := M3.ordI_bd o.r.neg
      simp only [beq_self_eq_true, cond_true, cond_false]
      rw [W_in (by omega), Int.zero_sub]
      congr 2
      have e : (o.r.neg.ordI == 0) = (-o.r.neg.ordI == 0) := beq_of_iff (by simp only [beq_iff_eq]; omega)
      rw [e]
  · rw [(bif_beq h).1, (bif_beq h).2]; rfl
/-- Apply. -/
def O3.app (o : O3) (p : P3) : P3 := ⟨p.m, ((o.r.app p.x).add (o.t.smul (p.m / 24))).md p.m⟩
def O3.appE (o : O3) (p : P3) : Int := bif p.form then o.ck else 3
def O3.appF (o : O3) (p : P3) : P3 := bif o.appE p == 0 then o.app p else P3.zero
def O3.appL (o : O3) (p : P3) : Int := bif !p.form then leastI o.ck 3 else o.ck
def tOApplyEnd (o : O3) (p : P3) (e : Int) : Option Value :=
  match e != 0 with
  | true => some (p2 P3.zero.v (vI e))
  | false => some (fShift (P3.place p.m (o.r.appF p.x)) o.t)
def tOApply (o : O3) (p : P3) : Option Value :=
  match !p.form with
  | true => tOApplyEnd o p (leastI o.ck 3)
  | false => tOApplyEnd o p o.ck
def fOApply (o : O3) (p : P3) : Value := p2 (o.appF p).v (vI (o.appE p))
theorem md_add_md (m : Int) (u v : V3) : ((u.md m).add v).md m = (u.add v).md m := by
  unfold V3.md V3.add
  simp only [Int.emod_add_emod]
theorem md_md (m : Int) (u : V3) : (u.md m).md m = u.md m := by
  unfold V3.md; simp only [Int.emod_emod]
theorem P3.x_ok {p : P3} (h : p.form = true) : p.x.ok = true := by
  obtain ⟨hm, h1, h2, h3⟩ := P3.form_spec h
  rw [V3.ok_iff]; unfold V3.Bd; omega
theorem tOApply_eq (o : O3) (p : P3) : tOApply o p = some (fOApply o p) := by
  unfold tOApply fOApply O3.appF O3.appE tOApplyEnd
  cases hp : p.form with
  | false =>
    have e : leastI o.ck 3 = 3 := by rcases O3.ck_cases o with h | h | h <;> rw [h] <;> rfl
    simp only [Bool.not_false, e]
    rfl
  | true =>
    simp only [Bool.not_true, cond_true]
    by_cases h : o.ck = 0
    · obtain ⟨a1, a2, a3⟩ := O3.ck_zero.1 h
      obtain ⟨hm, h1, h2, h3⟩ := P3.form_spec hp
      have hF : isF p.m = true := isF_iff.2 hm
      have e1 : P3.place p.m (o.r.appF p.x) = ⟨p.m, (o.r.app p.x).md p.m⟩ := by
        unfold P3.place M3.appF; rw [hF, a2, P3.x_ok hp]; rfl
      have e2 : P3.form ⟨p.m, (o.r.app p.x).md p.m⟩ = true := by
        unfold P3.form
        simp only [hF, md_md, V3.eqB_refl, Bool.and_self]
      rw [h, e1]
      unfold fShift
      rw [e2]
      simp only [bne_self_eq_false, beq_self_eq_true, cond_true]
      unfold P3.shift O3.app
      rw [md_add_md]
    · rw [(bif_beq h).1, (bif_beq h).2]; rfl

/-! The document's answer -/
def tMod (n m : Int) : Option Value := match m == 0 with
  | true => none
  | false => match m == 0 with
    | true => none
    | false => some (vI (Int.tmod (W (Int.tmod n m + m)) m))
theorem tMod_eq {n m : Int} (h : modB m = true) : tMod n m = some (vI (n % m)) := by
  obtain ⟨h0, h1⟩ := modB_iff.1 h
  have e : (m == 0) = false := by simp; omega
  unfold tMod
  rw [e]
  have hb := tmod_bd n m h0
  have e2 := Int.tmod_add_mul_tdiv n m
  have e3 : (n.tmod m) % m = n % m := by
    conv => rhs; rw [← e2]
    rw [Int.add_mul_emod_self_left]
  simp only
  rw [W_in (by omega), Int.tmod_eq_emod_of_nonneg (by omega), Int.add_emod_right, e3]
def tRDet (m : M3) : Option Value := some (vI (W (W (W (0 + W (m.a * minR m.e m.i m.f m.h)) + W (m.b * minR m.f m.g m.d m.i)) + W (m.c * minR m.d m.h m.e m.g))))
def fRDet (m : M3) : Value := vI (W m.det)
theorem tRDet_eq (m : M3) : tRDet m = some (fRDet m) := by
  unfold tRDet fRDet
  rw [← detW_W, Int.zero_add, W_W]; rfl
def tWithinM (m : M3) : Option Value := guardF [decide (m.a < -1000), decide (m.a > 1000), decide (m.b < -1000), decide (m.b > 1000), decide (m.c < -1000), decide (m.c > 1000), decide (m.d < -1000), decide (m.d > 1000), decide (m.e < -1000), decide (m.e > 1000), decide (m.f < -1000), decide (m.f > 1000), decide (m.g < -1000), decide (m.g > 1000), decide (m.h < -1000), decide (m.h > 1000), decide (m.i < -1000), decide (m.i > 1000)] (some (.bool true))
def fWithinM (m : M3) : Value := .bool m.ok
theorem guardF_all : ∀ (ts : List Bool), guardF ts (some (.bool true)) = some (.bool (ts.all (!·)))
  | [] => rfl
  | true :: ts => rfl
  | false :: ts => by simp only [guardF, List.all_cons, Bool.not_false, Bool.true_and]; exact guardF_all ts
theorem tWithinM_eq (m : M3) : tWithinM m = some (fWithinM m) := by
  unfold tWithinM fWithinM
  rw [guardF_all]
  congr 2
  rw [Bool.eq_iff_iff, M3.ok_iff]
  unfold M3.Bd
  simp only [List.all_cons, List.all_nil, Bool.and_true, Bool.and_eq_true, Bool.not_eq_true', decide_eq_false_iff_not]
  omega
def tPart (v : V3) : Option Value := guardF [decide (v.x < 0), decide (v.x > 23), decide (v.y < 0), decide (v.y > 23), decide (v.z < 0), decide (v.z > 23)] (some (.bool true))
def fPart (v : V3) : Value := .bool v.part
theorem tPart_eq (v : V3) : tPart v = some (fPart v) := by
  unfold tPart fPart
  rw [guardF_all]
  congr 2
  rw [Bool.eq_iff_iff, V3.part_iff]
  simp only [List.all_cons, List.all_nil, Bool.and_true, Bool.and_eq_true, Bool.not_eq_true', decide_eq_false_iff_not]
  omega
def tTimesM (m n : M3) : Option Value := some (M3.v ⟨rdot m.a m.b m.c n.a n.d n.g, rdot m.a m.b m.c n.b n.e n.h, rdot m.a m.b m.c n.c n.f n.i, rdot m.d m.e m.f n.a n.d n.g, rdot m.d m.e m.f n.b n.e n.h, rdot m.d m.e m.f n.c n.f n.i, rdot m.g m.h m.i n.a n.d n.g, rdot m.g m.h m.i n.b n.e n.h, rdot m.g m.h m.i n.c n.f n.i⟩)
def fTimesM (m n : M3) : Value := (m.mul n).w.v
theorem tTimesM_eq (m n : M3) : tTimesM m n = some (fTimesM m n) := by
  unfold tTimesM fTimesM
  simp only [rdot_eq, dotR_W]
  rfl
def tColumn (m : M3) (v : V3) : Option Value := some (V3.v ⟨rdot m.a m.b m.c v.x v.y v.z, rdot m.d m.e m.f v.x v.y v.z, rdot m.g m.h m.i v.x v.y v.z⟩)
def fColumn (m : M3) (v : V3) : Value := (m.app v).w.v
theorem tColumn_eq (m : M3) (v : V3) : tColumn m v = some (fColumn m v) := by
  unfold tColumn fColumn
  simp only [rdot_eq, dotR_W]
  rfl
def tBring (v : V3) (m : Int) : Option Value := onO (modB m) (onO (modB m) (onO (modB m) (some (v.md m).v)))
theorem tBring_eq {v : V3} {m : Int} (h : modB m = true) : tBring v m = some (v.md m).v := by
  unfold tBring; simp only [onO_true h]
def tRAdd (u v : V3) : Option Value := some (u.add v).w.v
def fRAdd (u v : V3) : Value := (u.add v).w.v
theorem tRAdd_eq (u v : V3) : tRAdd u v = some (fRAdd u v) := rfl
end Go.Proofs.Ytofblakbfmjgkaa.Vx


namespace Go.Proofs.Ytofblakbfmjgkaa.Vx
open Go

def tRCheck (o : O3) : Option Value :=
  match !o.t.part with
  | true => some (vI 3)
  | false => match o.r.ok with
    | true => match W o.r.det != 1 with
      | true => match W o.r.det != -1 with
        | true => some (vI 3)
        | false => match !o.r.ok with
          | true => some (vI 4)
          | false => some (vI 0)
      | false => match !o.r.ok with
        | true => some (vI 4)
        | false => some (vI 0)
    | false => match !o.r.ok with
      | true => some (vI 4)
      | false => some (vI 0)
theorem Wdet {m : M3} (h : m.ok = true) : W m.det = m.det := by rw [← detW_W, detW_eq h]
theorem tRCheck_eq (o : O3) : tRCheck o = some (fOCheck o) := by
  unfold tRCheck fOCheck O3.ck M3.form
  cases h0 : o.t.part
  · rfl
  · cases h : o.r.ok
    · rfl
    · simp only [Wdet h, Bool.not_true, cond_true]
      by_cases h1 : o.r.det = 1
      · rw [h1]; rfl
      · by_cases h2 : o.r.det = -1
        · rw [h2]; rfl
        · have e1 : (o.r.det != 1) = true := by simpa using h1
          have e2 : (o.r.det != -1) = true := by simpa using h2
          have e3 : unitB o.r.det = false := by simp [unitB, h1, h2]
          rw [e1, e2, e3]; rfl
def tTwo (a b : O3) : Option Value :=
  match a.ck == 0 with
  | true => some (vI b.ck)
  | false => match b.ck != 0 with
    | true => match decide (b.ck < a.ck) with
      | true => some (vI b.ck)
      | false => some (vI a.ck)
    | false => some (vI a.ck)
def fTwo (a b : O3) : Value := vI (leastI a.ck b.ck)
theorem tTwo_eq (a b : O3) : tTwo a b = some (fTwo a b) := by
  unfold tTwo fTwo
  rcases O3.ck_cases a with h | h | h <;> rcases O3.ck_cases b with k | k | k <;> rw [h, k] <;> rfl
def fRMul (a b : O3) : Value := O3.v ⟨(a.r.mul b.r).w, (((a.r.app b.t).w).add a.t).w.md 24⟩
def tRMul (a b : O3) : Option Value := some (fRMul a b)
theorem tRMul_eq (a b : O3) : tRMul a b = some (fRMul a b) := rfl
def tUndone (m : M3) : Option Value := some (M3.v ⟨W (W (M3.det ⟨1, m.b, m.c, 0, m.e, m.f, 0, m.h, m.i⟩) * W m.det), W (W (M3.det ⟨0, m.b, m.c, 1, m.e, m.f, 0, m.h, m.i⟩) * W m.det), W (W (M3.det ⟨0, m.b, m.c, 0, m.e, m.f, 1, m.h, m.i⟩) * W m.det), W (W (M3.det ⟨m.a, 1, m.c, m.d, 0, m.f, m.g, 0, m.i⟩) * W m.det), W (W (M3.det ⟨m.a, 0, m.c, m.d, 1, m.f, m.g, 0, m.i⟩) * W m.det), W (W (M3.det ⟨m.a, 0, m.c, m.d, 0, m.f, m.g, 1, m.i⟩) * W m.det), W (W (M3.det ⟨m.a, m.b, 1, m.d, m.e, 0, m.g, m.h, 0⟩) * W m.det), W (W (M3.det ⟨m.a, m.b, 0, m.d, m.e, 1, m.g, m.h, 0⟩) * W m.det), W (W (M3.det ⟨m.a, m.b, 0, m.d, m.e, 0, m.g, m.h, 1⟩) * W m.det)⟩)
def fUndone (m : M3) : Value := m.inv.w.v
theorem W_mul2 (m n : Int) : W (W m * W n) = W (m * n) := by rw [W_mull, W_mulr]
theorem tUndone_eq (m : M3) : tUndone m = some (fUndone m) := by
  unfold tUndone fUndone
  simp only [W_mul2]
  unfold M3.w M3.inv M3.smul M3.adj
  simp only [M3.det]
  congr 2
  simp only [M3.mk.injEq]
  refine ⟨?_, ?_, ?_, ?_, ?_, ?_, ?_, ?_, ?_⟩ <;> (congr 2; grind)
def fBack (o : O3) : Value := O3.v ⟨o.r.inv.w, ((o.r.inv.w.app o.t).w.neg).w.md 24⟩
def tBack (o : O3) : Option Value := some (O3.v ⟨o.r.inv.w, V3.md 24 ⟨W (0 - (o.r.inv.w.app o.t).w.x), W (0 - (o.r.inv.w.app o.t).w.y), W (0 - (o.r.inv.w.app o.t).w.z)⟩⟩)
theorem tBack_eq (o : O3) : tBack o = some (fBack o) := by
  unfold tBack fBack V3.neg V3.w
  simp only [Int.zero_sub]
def tTrace (m : M3) : Option Value := some (vI (W (W (m.a + m.e) + m.i)))
def fTrace (m : M3) : Value := vI (W m.tr)
theorem tTrace_eq (m : M3) : tTrace m = some (fTrace m) := by
  unfold tTrace fTrace M3.tr; rw [W_addl]
def tRotation (m : M3) : Option Value :=
  match W m.tr != W m.inv.w.tr with
  | true => some (vI 0)
  | false => match W m.tr == 3 with
    | true => match m.eqB M3.one with
      | true => some (vI 1)
      | false => some (vI 0)
    | false => match W m.tr == -1 with
      | true => match (m.mul m).w.eqB M3.one with
        | true => some (vI 2)
        | false => some (vI 0)
      | false => match W m.tr == 0 with
        | true => some (vI 3)
        | false => match W m.tr == 1 with
          | true => some (vI 4)
          | false => match W m.tr == 2 with
            | true => some (vI 6)
            | false => some (vI 0)
def M3.rotW (m : M3) : Int :=
  bif W m.tr != W m.inv.w.tr then 0 else bif W m.tr == 3 then (bif m.eqB M3.one then 1 else 0) else bif W m.tr == -1 then (bif (m.mul m).w.eqB M3.one then 2 else 0) else
    bif W m.tr == 0 then 3 else bif W m.tr == 1 then 4 else bif W m.tr == 2 then 6 else 0
def fRotation (m : M3) : Value := vI m.rotW
theorem tRotation_eq (m : M3) : tRotation m = some (fRotation m) := by
  unfold tRotation fRotation M3.rotW
  cases W m.tr != W m.inv.w.tr <;> cases W m.tr == 3 <;> cases m.eqB M3.one <;> cases W m.tr == -1 <;> cases (m.mul m).w.eqB M3.one <;> cases W m.tr == 0 <;> cases W m.tr == 1 <;> cases W m.tr == 2 <;> rfl
def tRKind (m : M3) : Option Value :=
  match W m.det == 1 with
  | true => some (vI m.rotW)
  | false => some (vI (W (0 - m.negW.rotW)))
def M3.kindW (m : M3) : Int := bif W m.det == 1 then m.rotW else W (0 - m.negW.rotW)
def fRKind (m : M3) : Value := vI m.kindW
theorem tRKind_eq (m : M3) : tRKind m = some (fRKind m) := by
  unfold tRKind fRKind M3.kindW
  cases W m.det == 1 <;> rfl
def orderOfI (a : Int) : Int := bif decide (a > 0) then a else bif Int.tmod a 2 != 0 then W (-2 * a) else W (0 - a)
def tOrderOf (a : Int) : Option Value :=
  match decide (a > 0) with
  | true => some (vI a)
  | false => match Int.tmod a 2 != 0 with
    | true => some (vI (W (-2 * a)))
    | false => some (vI (W (0 - a)))
def fOrderOf (a : Int) : Value := vI (orderOfI a)
theorem tOrderOf_eq (a : Int) : tOrderOf a = some (fOrderOf a) := by
  unfold tOrderOf fOrderOf orderOfI
  cases decide (a > 0) <;> cases Int.tmod a 2 != 0 <;> rfl
def tSmall (o : O3) : Option Value :=
  match !o.r.ok with
  | true => some (pOE O3.zero 4)
  | false => some (pOE o 0)
def fSmall (o : O3) : Value := pOE o.small o.smallE
theorem tSmall_eq (o : O3) : tSmall o = some (fSmall o) := by
  unfold tSmall fSmall O3.small O3.smallE
  cases o.r.ok <;> rfl
def tDocMake (m : M3) (t : V3) : Option Value :=
  match (O3.mk m (t.md 24)).ck != 0 with
  | true => some (pOE O3.zero (O3.mk m (t.md 24)).ck)
  | false => some (pOE ⟨m, t.md 24⟩ 0)
theorem tDocMake_eq (m : M3) (t : V3) : tDocMake m t = some (fMake m t) := by
  have e : (O3.mk m (t.md 24)).ck = m.form := by unfold O3.ck; simp only [V3.md_part, cond_true]
  unfold tDocMake fMake O3.makeF
  rw [e]
  by_cases h : m.form = 0
  · rw [h]; rfl
  · rw [(bif_beq h).1, (bif_beq h).2]; rfl
/-- The document's product and inverse, before they are held against the bounds. -/
def O3.rmul (a b : O3) : O3 := ⟨(a.r.mul b.r).w, (((a.r.app b.t).w).add a.t).w.md 24⟩
def O3.rback (o : O3) : O3 := ⟨o.r.inv.w, ((o.r.inv.w.app o.t).w.neg).w.md 24⟩
theorem V3.part_bd {v : V3} (h : v.part = true) : v.Bd 23 := by rw [V3.part_iff] at h; unfold V3.Bd; omega
theorem V3.Bd.add {u v : V3} {k l : Int} (h : u.Bd k) (h' : v.Bd l) : (u.add v).Bd (k + l) := by unfold V3.Bd V3.add at *; simp only; omega
theorem V3.Bd.neg {u : V3} {k : Int} (h : u.Bd k) : u.neg.Bd k := by unfold V3.Bd V3.neg at *; simp only; omega
theorem O3.rmul_eq {a b : O3} (ha : a.ck = 0) (hb : b.ck = 0) : a.rmul b = a.mul b := by
  obtain ⟨a1, a2, a3⟩ := O3.ck_zero.1 ha
  obtain ⟨b1, b2, b3⟩ := O3.ck_zero.1 hb
  have h1 := (M3.ok_iff.1 a2).mul (M3.ok_iff.1 b2)
  have h2 := (M3.ok_iff.1 a2).app (V3.part_bd b1)
  have h3 := h2.add (V3.part_bd a1)
  unfold O3.rmul O3.mul
  rw [M3.w_eq (h1.mono (by omega)), V3.w_eq (h2.mono (by omega)), V3.w_eq (h3.mono (by omega))]
theorem O3.rback_eq {o : O3} (ho : o.ck = 0) : o.rback = o.inv := by
  obtain ⟨a1, a2, a3⟩ := O3.ck_zero.1 ho
  have h1 := (M3.ok_iff.1 a2).inv a3
  have h2 := h1.app (V3.part_bd a1)
  unfold O3.rback O3.inv
  rw [M3.w_eq (h1.mono (by omega)), V3.w_eq (h2.mono (by omega)), V3.w_eq (h2.neg.mono (by omega))]
def tDocMul (a b : O3) : Option Value :=
  match leastI a.ck b.ck != 0 with
  | true => some (pOE O3.zero (leastI a.ck b.ck))
  | false => some (fSmall (a.rmul b))
theorem tDocMul_eq (a b : O3) : tDocMul a b = some (fOMul a b) := by
  unfold tDocMul fOMul O3.mulF O3.mulE
  by_cases h : leastI a.ck b.ck = 0
  · obtain ⟨ha, hb⟩ := leastI_zero.1 h
    rw [h, O3.rmul_eq ha hb]; rfl
  · rw [(bif_beq h).1, (bif_beq h).2]; rfl
def tDocInverse (o : O3) : Option Value :=
  match o.ck != 0 with
  | true => some (pOE O3.zero o.ck)
  | false => some (fSmall o.rback)
theorem tDocInverse_eq (o : O3) : tDocInverse o = some (fOInverse o) := by
  unfold tDocInverse fOInverse O3.invF O3.invE
  by_cases h : o.ck = 0
  · rw [h, O3.rback_eq h]; rfl
  · rw [(bif_beq h).1, (bif_beq h).2]; rfl
def tRPlace (p : P3) : Option Value :=
  match p.m != 24 with
  | true => match p.m != 48 with
    | true => match p.m != 96 with
      | true => match p.m != 192 with
        | true => some (.bool false)
        | false => onO (modB p.m) (some (.bool (p.x.eqB (p.x.md p.m))))
      | false => onO (modB p.m) (some (.bool (p.x.eqB (p.x.md p.m))))
    | false => onO (modB p.m) (some (.bool (p.x.eqB (p.x.md p.m))))
  | false => onO (modB p.m) (some (.bool (p.x.eqB (p.x.md p.m))))
theorem tRPlace_eq (p : P3) : tRPlace p = some (fPForm p) := by
  obtain ⟨m, x⟩ := p
  unfold tRPlace fPForm P3.form
  cases h : isF m with
  | true =>
    simp only [onO_true (isF_modB h), Bool.true_and]
    rcases isF_iff.1 h with rfl | rfl | rfl | rfl <;> rfl
  | false =>
    have h' : ¬ (m = 24 ∨ m = 48 ∨ m = 96 ∨ m = 192) := by rw [← isF_iff, h]; simp
    have e1 : (m != 24) = true := by simp; omega
    have e2 : (m != 48) = true := by simp; omega
    have e3 : (m != 96) = true := by simp; omega
    have e4 : (m != 192) = true := by simp; omega
    simp only [e1, e2, e3, e4]; rfl
def rapp1 (x t m : Int) : Int := W (x + W (t * W (Int.tdiv m 24)))
def O3.rapp (o : O3) (p : P3) : P3 := ⟨p.m, V3.md p.m ⟨rapp1 (o.r.app p.x).w.x o.t.x p.m, rapp1 (o.r.app p.x).w.y o.t.y p.m, rapp1 (o.r.app p.x).w.z o.t.z p.m⟩⟩
def tRApply (o : O3) (p : P3) : Option Value := onO (modB p.m) (some (o.rapp p).v)
theorem tRApply_eq {o : O3} {p : P3} (h : modB p.m = true) : tRApply o p = some (o.rapp p).v := by unfold tRApply; rw [onO_true h]
theorem rapp1_eq {x t m : Int} (hm : m = 24 ∨ m = 48 ∨ m = 96 ∨ m = 192) (hx : -1000000 ≤ x ∧ x ≤ 1000000) (ht : 0 ≤ t ∧ t ≤ 23) : rapp1 x t m = x + m / 24 * t := by
  unfold rapp1
  rcases hm with rfl | rfl | rfl | rfl
  · rw [show W (Int.tdiv 24 24) = 1 from rfl, W_in (n := t * 1) (by omega), W_in (by omega)]; omega
  · rw [show W (Int.tdiv 48 24) = 2 from rfl, W_in (n := t * 2) (by omega), W_in (by omega)]; omega
  · rw [show W (Int.tdiv 96 24) = 4 from rfl, W_in (n := t * 4) (by omega), W_in (by omega)]; omega
  · rw [show W (Int.tdiv 192 24) = 8 from rfl, W_in (n := t * 8) (by omega), W_in (by omega)]; omega
theorem O3.rapp_eq {o : O3} {p : P3} (ho : o.ck = 0) (hp : p.form = true) : o.rapp p = o.app p := by
  obtain ⟨a1, a2, a3⟩ := O3.ck_zero.1 ho
  obtain ⟨hm, h1, h2, h3⟩ := P3.form_spec hp
  have hx : p.x.Bd 192 := by unfold V3.Bd; omega
  have hb := (M3.ok_iff.1 a2).app hx
  have hp' := V3.part_iff.1 a1
  unfold O3.rapp O3.app
  rw [V3.w_eq (hb.mono (by omega))]
  unfold V3.Bd at hb
  rw [rapp1_eq hm (by omega) hp'.1, rapp1_eq hm (by omega) hp'.2.1, rapp1_eq hm (by omega) hp'.2.2]
  rfl
def tDocApplyEnd (o : O3) (p : P3) (e : Int) : Option Value :=
  match e != 0 with
  | true => some (p2 P3.zero.v (vI e))
  | false => onO (modB p.m) (some (p2 (o.rapp p).v (vI 0)))
def tDocApply (o : O3) (p : P3) : Option Value :=
  match !p.form with
  | true => tDocApplyEnd o p 3
  | false => tDocApplyEnd o p o.ck
theorem tDocApply_eq (o : O3) (p : P3) : tDocApply o p = some (fOApply o p) := by
  unfold tDocApply fOApply O3.appF O3.appE tDocApplyEnd
  cases hp : p.form with
  | false => rfl
  | true =>
    simp only [Bool.not_true, cond_true]
    by_cases h : o.ck = 0
    · have hm : modB p.m = true := modB_iff.2 (by have := (P3.form_spec hp).1; omega)
      rw [h, O3.rapp_eq h hp, onO_true hm]
      rfl
    · rw [(bif_beq h).1, (bif_beq h).2]; rfl
end Go.Proofs.Ytofblakbfmjgkaa.Vx


namespace Go.Proofs.Ytofblakbfmjgkaa.Vx
open Go

def ptrIs (v : Option Value) (b : Nat) : Bool := match v with
  | some (.pointer (some ⟨c, 0, none⟩)) => Nat.beq c b
  | _ => false
theorem ptrIs_spec {v : Option Value} {b : Nat} (h : ptrIs v b = true) : v = some (.pointer (some ⟨b, 0, none⟩)) := by
  unfold ptrIs at h
  split at h
  · rw [Nat.eq_of_beq_eq_true h]
  · cases h
def intAt (v : Option Value) : Option Int := match v with
  | some (.int .i64 n) => some n
  | _ => none
theorem intAt_spec {v : Option Value} {n : Int} (h : intAt v = some n) : v = some (.int .i64 n) := by
  unfold intAt at h
  split at h
  · simp only [Option.some.injEq] at h; rw [h]
  · cases h
def aggAt (v : Option Value) : List Value := match v with
  | some (.agg cs) => cs.toList
  | _ => []
theorem aggAt_spec {v : Option Value} {l : List Value} (h : aggAt v = l) (hl : l ≠ []) : v = some (.agg l.toArray) := by
  unfold aggAt at h
  split at h
  · rename_i cs; rw [← h]
  · exact absurd h.symm hl
def O3.cells (o : O3) : List Value := [.int .i64 o.r.a, .int .i64 o.r.b, .int .i64 o.r.c, .int .i64 o.r.d, .int .i64 o.r.e, .int .i64 o.r.f, .int .i64 o.r.g, .int .i64 o.r.h, .int .i64 o.r.i, .int .i64 o.t.x, .int .i64 o.t.y, .int .i64 o.t.z]
def V3.cells (o : V3) : List Value := [.int .i64 o.x, .int .i64 o.y, .int .i64 o.z]
def M3.cells (m : M3) : List Value := [.int .i64 m.a, .int .i64 m.b, .int .i64 m.c, .int .i64 m.d, .int .i64 m.e, .int .i64 m.f, .int .i64 m.g, .int .i64 m.h, .int .i64 m.i]
def i64s : List Value → Option (List Int)
  | [] => some []
  | .int .i64 n :: l => match i64s l with
    | some r => some (n :: r)
    | none => none
  | _ => none
theorem i64s_spec : ∀ {l : List Value} {r : List Int}, i64s l = some r → l = r.map (.int .i64)
  | [], r, h => by simp [i64s] at h; subst h; rfl
  | v :: l, r, h => by
    unfold i64s at h
    split at h
    · rename_i heq; cases heq
    · rename_i n l' heq
      simp only [List.cons.injEq] at heq
      obtain ⟨rfl, rfl⟩ := heq
      split at h
      · rename_i q hq
        simp only [Option.some.injEq] at h
        subst h
        rw [List.map_cons, ← i64s_spec hq]
      · cases h
    · cases h
def opCells (l : List Value) : Option O3 := match i64s l with
  | some [a, b, c, d, e, f, g, h, i, x, y, z] => some ⟨⟨a, b, c, d, e, f, g, h, i⟩, ⟨x, y, z⟩⟩
  | _ => none
theorem opCells_spec {l : List Value} {o : O3} (h : opCells l = some o) : l = o.cells := by
  unfold opCells at h
  split at h
  · rename_i hq
    simp only [Option.some.injEq] at h
    subst h
    rw [i64s_spec hq]; rfl
  · cases h
def vecCells (l : List Value) : Option V3 := match i64s l with
  | some [x, y, z] => some ⟨x, y, z⟩
  | _ => none
theorem vecCells_spec {l : List Value} {o : V3} (h : vecCells l = some o) : l = o.cells := by
  unfold vecCells at h
  split at h
  · rename_i hq
    simp only [Option.some.injEq] at h
    subst h
    rw [i64s_spec hq]; rfl
  · cases h
def matCells (l : List Value) : Option M3 := match i64s l with
  | some [a, b, c, d, e, f, g, h, i] => some ⟨a, b, c, d, e, f, g, h, i⟩
  | _ => none
theorem matCells_spec {l : List Value} {o : M3} (h : matCells l = some o) : l = o.cells := by
  unfold matCells at h
  split at h
  · rename_i hq
    simp only [Option.some.injEq] at h
    subst h
    rw [i64s_spec hq]; rfl
  · cases h
def ownCells : Option Blk → List Value
  | some (.cells true 0 c) => c
  | _ => []
theorem ownCells_spec {k : Option Blk} {c : List Value} (h : ownCells k = c) (hc : c ≠ []) : k = some (.cells true 0 c) := by
  unfold ownCells at h
  split at h
  · rw [h]
  · exact absurd h.symm hc
theorem mem_of {m : Mem} : ∀ {l : List Blk}, m.length = l.length → (∀ i, i < l.length → m[i]? = l[i]?) → m = l := by
  intro l hl h
  apply List.ext_getElem?
  intro i
  by_cases hi : i < l.length
  · exact h i hi
  · rw [List.getElem?_eq_none (by omega), List.getElem?_eq_none (by omega)]
end Go.Proofs.Ytofblakbfmjgkaa.Vx


namespace Go.Proofs.Ytofblakbfmjgkaa.Vx
open Go

/-- The cells of a list's maps. -/
def opRow (l : List O3) : Nat → List Value := fun i => ((l[i]?).getD O3.zero).cells
def decO (l : List Value) : O3 := match opCells l with
  | some o => o
  | none => O3.zero
def isO (l : List Value) : Bool := match opCells l with
  | some _ => true
  | none => false
def okOps (n : Nat) (row : Nat → List Value) : Bool := (List.range n).all fun i => isO (row i)
def opsOf (n : Nat) (row : Nat → List Value) : List O3 := (List.range n).map fun i => decO (row i)
theorem opCells_cells (o : O3) : opCells o.cells = some o := rfl
theorem isO_cells (o : O3) : isO o.cells = true := rfl
theorem decO_cells (o : O3) : decO o.cells = o := rfl
theorem okOps_opRow (xs : List O3) (n : Nat) : okOps n (opRow xs) = true := List.all_eq_true.2 fun _ _ => isO_cells _
theorem opsOf_opRow (xs : List O3) : opsOf xs.length (opRow xs) = xs := by
  apply List.ext_getElem?
  intro i
  unfold opsOf opRow
  rw [List.getElem?_map]
  by_cases hi : i < xs.length
  · rw [List.getElem?_range hi, List.getElem?_eq_getElem hi]
    simp [decO_cells, List.getElem?_eq_getElem hi]
  · rw [List.getElem?_eq_none (by simp; omega), List.getElem?_eq_none (by omega)]; rfl
theorem opsOf_length (n : Nat) (row : Nat → List Value) : (opsOf n row).length = n := by simp [opsOf]
theorem ops_like {n : Nat} {row : Nat → List Value} (h : okOps n row = true) : rowsLike n row (opRow (opsOf n row)) := by
  intro i hi
  have := List.all_eq_true.1 h i (List.mem_range.2 hi)
  unfold isO at this
  split at this
  · rename_i o ho
    unfold opRow opsOf
    rw [List.getElem?_map, List.getElem?_range hi]
    simp only [Option.map_some, Option.getD_some, decO, ho]
    exact opCells_spec ho
  · cases this
theorem like_ops {own : Bool} {n : Nat} {row : Nat → List Value} (h : okOps n row = true) : Like (.rows own true 12 n row) (.rows own true 12 (opsOf n row).length (opRow (opsOf n row))) := by
  rw [opsOf_length]; exact .rows (ops_like h)
theorem blt_ff {a b : Nat} (h : ¬ a < b) : Nat.blt a b = false := by
  cases hb : Nat.blt a b with
  | false => rfl
  | true => exact absurd (Nat.blt_eq.mp hb) h
/-- One map behind others. -/
theorem catR_one (xs : List O3) (o : O3) (i : Nat) (hi : i < xs.length + 1) : catR xs.length (opRow xs) (chop 12 0 o.cells) i = opRow (xs ++ [o]) i := by
  unfold catR opRow
  by_cases h : i < xs.length
  · rw [show Nat.blt i xs.length = true by simpa [Nat.blt_eq] using h, List.getElem?_append_left h]
  · have : i = xs.length := by omega
    subst this
    rw [blt_ff (Nat.lt_irrefl _)]
    simp only [Nat.sub_self]
    rw [List.getElem?_append_right (Nat.le_refl _)]
    simp only [Nat.sub_self, List.getElem?_cons_zero, Option.getD_some]
    rfl
theorem like_ng {pl : Bool} {n : Nat} {xs : List O3} (hx : xs.length = n) (o : O3) : Like (.grow pl 12 (n + 1) (catR n (opRow xs) (chop 12 0 o.cells))) (.grow pl 12 (n + 1) (opRow (xs ++ [o]))) := by
  subst hx
  exact .grow fun i hi => catR_one xs o i hi
theorem like_nr {own pl : Bool} {n : Nat} {xs : List O3} (hx : xs.length = n) (o : O3) : Like (.rows own pl 12 (n + 1) (catR n (opRow xs) (chop 12 0 o.cells))) (.rows own pl 12 (n + 1) (opRow (xs ++ [o]))) := by
  subst hx
  exact .rows fun i hi => catR_one xs o i hi
theorem like_chop {own pl : Bool} (o : O3) : Like (.rows own pl 12 1 (chop 12 0 o.cells)) (.rows own pl 12 1 (opRow [o])) := .rows fun i hi => by
  have : i = 0 := by omega
  subst this
  rfl
theorem like_one {own pl : Bool} (xs : List O3) (o : O3) : Like (.rows own pl 12 (xs.length + 1) (catR xs.length (opRow xs) (chop 12 0 o.cells))) (.rows own pl 12 (xs ++ [o]).length (opRow (xs ++ [o]))) := by
  rw [List.length_append]
  exact .rows fun i hi => catR_one xs o i hi

theorem like_oneg {pl : Bool} (xs : List O3) (o : O3) : Like (.grow pl 12 (xs.length + 1) (catR xs.length (opRow xs) (chop 12 0 o.cells))) (.grow pl 12 (xs ++ [o]).length (opRow (xs ++ [o]))) := by
  rw [List.length_append]
  exact .grow fun i hi => catR_one xs o i hi

/-! Guards -/
def tAt (st : St) (i : Nat) : Option Value := st.tmps[i]?
def gd {α : Type} (b : Bool) (x : Option α) : Option α := match b with
  | true => x
  | false => none
theorem gd_true {α : Type} (x : Option α) : gd true x = x := rfl
theorem LoopSem.like {P : Program} {B : Nat} {x : Code} {tm : List Value} {m m2 : Mem} {s : St} {e : Exit} (h : LoopSem P B x ⟨tm, m2⟩ e s) (hl : LikeL m m2) : LoopSem P B x ⟨tm, m⟩ e s := by
  intro Q w0 keep r0 a w hB hQ hr
  refine h Q w0 keep r0 a w hB hQ ?_
  obtain ⟨r, hx, h1, h2, h3⟩ := hr
  exact ⟨r, hx, h1, h2, h3.like hl⟩
theorem beq_len {a b : Nat} (h : Nat.beq a b = true) : a = b := Nat.eq_of_beq_eq_true h
/-- Of two errors the lesser one, 0 being none. -/
def leastN (a b : Int) : Int := match a == 0 with
  | true => b
  | false => match b != 0 with
    | true => match decide (b < a) with
      | true => b
      | false => a
    | false => a
end Go.Proofs.Ytofblakbfmjgkaa.Vx
