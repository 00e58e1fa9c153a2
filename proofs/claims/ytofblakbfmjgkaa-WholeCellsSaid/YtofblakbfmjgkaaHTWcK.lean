/-
  The record of WholeCells' functions is the program's. Nothing here is trusted.
-/
import Derived.Test.YtofblakbfmjgkaaHTWcP
namespace Go.Proofs.Ytofblakbfmjgkaa
open Go Vx Go.RowKit
open Classical in
noncomputable def nosB (m : G6) (n : Int) : Bool := decide (Nosh m n)
noncomputable def Rc : RC := ⟨G6.mck, G6.detF, G6.dotF, G6.dotE, G6.spF, G6.spE, M3.appF, fun m v => bif m.ok && v.ok then 0 else 4, stG, stP, stB, obG, obP, obN, shN, turG, turE, fun m n => (m.mul n).w, O3.metF, O3.metE, O3.idxF, O3.idxE, fun m => bif m.ok then m.det else 0, M3.ck, sgM, gramG, fun m => m.det != 0, nosB⟩
theorem okz0 : CxOk (Cz0 Rc Try.prog) := okwd2
theorem okz1 : CxOk (Cz1 Rc Try.prog) := Cx.dup_ok okz0 fun l v hl h => by
  match l, hl, h with
  | [a0, a1, a2, a3, a4, a5], _, hh =>
    have hh : some _ = some v := hh
    rw [← Option.some.inj hh]
    rfl
theorem okz2 : CxOk (Cz2 Rc Try.prog) := Cx.dup_ok okz1 fun l v hl h => by
  match l, hl, h with
  | [a0, a1, a2, a3, a4, a5], _, hh =>
    have hh : some _ = some v := hh
    rw [← Option.some.inj hh]
    rfl
theorem okz3 : CxOk (Cz3 Rc Try.prog) := Cx.dup_ok okz2 fun l v hl h => by
  match l, hl, h with
  | [a0, a1, a2, a3, a4, a5, b0, b1, b2, c0, c1, c2], _, hh =>
    have hh : some _ = some v := hh
    rw [← Option.some.inj hh]
    rfl
theorem okz4 : CxOk (Cz4 Rc Try.prog) := Cx.dup_ok okz3 fun l v hl h => by
  match l, hl, h with
  | [a0, a1, a2, a3, a4, a5, b0, b1, b2], _, hh =>
    have hh : some _ = some v := hh
    rw [← Option.some.inj hh]
    rfl
theorem okz5 : CxOk (Cz5 Rc Try.prog) := Cx.dup_ok okz4 fun l v hl h => by
  match l, hl, h with
  | [a0, a1, a2, a3, a4, a5, a6, a7, a8, b0, b1, b2], _, hh =>
    have hh : some _ = some v := hh
    rw [← Option.some.inj hh]
    rfl
theorem okz6 : CxOk (Cz6 Rc Try.prog) := Cx.dup_ok okz5 fun l v hl h => by
  match l, hl, h with
  | [a0, a1, a2, a3, a4, a5], _, hh =>
    have hh : some _ = some v := hh
    rw [← Option.some.inj hh]
    rfl
theorem okz7 : CxOk (Cz7 Rc Try.prog) := Cx.dup_ok okz6 fun l v hl h => by
  match l, hl, h with
  | [a0, a1, a2, a3, a4, a5], _, hh =>
    have hh : some _ = some v := hh
    rw [← Option.some.inj hh]
    rfl
theorem okz8 : CxOk (Cz8 Rc Try.prog) := Cx.dup_ok okz7 fun l v hl h => by
  match l, hl, h with
  | [a0, a1, a2, a3, a4, a5], _, hh =>
    have hh : some _ = some v := hh
    rw [← Option.some.inj hh]
    rfl
theorem okz9 : CxOk (Cz9 Rc Try.prog) := Cx.dup_ok okz8 fun l v hl h => by
  match l, hl, h with
  | [a0, a1, a2, a3, a4, a5, b0, b1, b2, b3, b4, b5, b6, b7, b8], _, hh =>
    have hh : some _ = some v := hh
    rw [← Option.some.inj hh]
    rfl
theorem okz10 : CxOk (Cz10 Rc Try.prog) := Cx.dup_ok okz9 fun l v hl h => by
  match l, hl, h with
  | [a0, a1, a2, a3, a4, a5, a6, a7, a8, b0, b1, b2, b3, b4, b5, b6, b7, b8], _, hh =>
    have hh : some _ = some v := hh
    rw [← Option.some.inj hh]
    rfl
theorem okz11 : CxOk (Cz11 Rc Try.prog) := Cx.dup_ok okz10 fun l v hl h => by
  match l, hl, h with
  | [a0, a1, a2, a3, a4, a5, a6, a7, a8, a9, a10, a11, b0, b1, b2, b3, b4, b5], _, hh =>
    have hh : some _ = some v := hh
    rw [← Option.some.inj hh]
    rfl
theorem okz12 : CxOk (Cz12 Rc Try.prog) := Cx.dup_ok okz11 fun l v hl h => by
  match l, hl, h with
  | [a0, a1, a2, a3, a4, a5, a6, a7, a8, a9, a10, a11, b0, b1, b2], _, hh =>
    have hh : some _ = some v := hh
    rw [← Option.some.inj hh]
    rfl
theorem okz13 : CxOk (Cz13 Rc Try.prog) := Cx.dup_ok okz12 fun l v hl h => by
  match l, hl, h with
  | [a0, a1, a2, a3, a4, a5, a6, a7, a8], _, hh =>
    have hh : some _ = some v := hh
    rw [← Option.some.inj hh]
    rfl
theorem okz14 : CxOk (Cz14 Rc Try.prog) := Cx.dup_ok okz13 fun l v hl h => by
  match l, hl, h with
  | [a0, a1, a2, a3, a4, a5, a6, a7, a8], _, hh =>
    have hh : some _ = some v := hh
    rw [← Option.some.inj hh]
    rfl
def Czs (P : Program) : Cx := (Cf2 P)
theorem sgRun {k : Int} (h0 : 0 ≤ k) (h1 : k < 256) : exFun ((CCf Try.prog).at 53) 60 Try.f53 [.int .u8 k] = some (sgM k).v := by
  refine of_runsG (P := Try.prog) (fn := Try.f53) (f := 53) (T := sgM) (fun q hq => ?_) h0 h1
  match q, hq with
  | 0, _ => exact rSg0
  | 1, _ => exact rSg1
  | 2, _ => exact rSg2
  | 3, _ => exact rSg3
  | 4, _ => exact rSg4
  | 5, _ => exact rSg5
  | 6, _ => exact rSg6
  | 7, _ => exact rSg7
  | 8, _ => exact rSg8
  | 9, _ => exact rSg9
  | 10, _ => exact rSg10
  | 11, _ => exact rSg11
  | 12, _ => exact rSg12
  | 13, _ => exact rSg13
  | 14, _ => exact rSg14
  | 15, _ => exact rSg15
  | n + 16, h => omega
theorem sgS {k : Int} (h0 : 0 ≤ k) (h1 : k < 256) : PlainSem Try.prog 53 [.int .u8 k] (sgM k).v :=
  (exFun_sem (C := (CCf Try.prog).at 53) (okCf.at 53) (n := 60) Try.func53 (by kernel_rfl) (Or.inl rfl) (by
    intro v hv
    simp only [List.mem_cons, List.not_mem_nil, or_false] at hv
    rcases hv with rfl; rfl) (sgRun h0 h1)).1
theorem metT_eq {m : M3} (h : m.Bd 11) : metT m = some (p2 (gramG m).v (.bool (m.det != 0))) := by
  have hk : m.ok = true := M3.ok_iff.2 (by unfold M3.Bd at *; omega)
  have hc : m.ck = 0 := by unfold M3.ck; rw [hk]; rfl
  have hw : gramW m = gramG m := by
    obtain ⟨ha, hb, hc, hd, he, hf, hg, hh, hi⟩ := h
    have q : ∀ {a b : Int}, -11 ≤ a ∧ a ≤ 11 → -11 ≤ b ∧ b ≤ 11 → -121 ≤ a * b ∧ a * b ≤ 121 := fun p r => bd_mul p r
    refine G6.ext' ⟨?_, ?_, ?_, ?_, ?_, ?_⟩ <;> (simp only [gramW, gramG]; exact W_in (by first
      | (have := q ha ha; have := q hd hd; have := q hg hg; omega)
      | (have := q hb hb; have := q he he; have := q hh hh; omega)
      | (have := q hc hc; have := q hf hf; have := q hi hi; omega)
      | (have := q hb hc; have := q he hf; have := q hh hi; omega)
      | (have := q ha hc; have := q hd hf; have := q hg hi; omega)
      | (have := q ha hb; have := q hd he; have := q hg hh; omega)))
  unfold metT
  rw [hc, hw, hk]
  rfl
theorem w12M_bd (a b c d e f g h i : Int) : (w12M a b c d e f g h i).Bd 11 := e12M_bd (W a) (W b) (W c) (W d) (W e) (W f) (W g) (W h) (W i)
theorem metS (a b c d e f g h i : Int) : PlainSem Try.prog 51 [a9 a b c d e f g h i] (p2 (gramG (w12M a b c d e f g h i)).v (.bool ((w12M a b c d e f g h i).det != 0))) :=
  (exFun_sem (C := (Cwd2 Try.prog).at 51) (okwd2.at 51) (n := 60) Try.func51 (by kernel_rfl) (Or.inl rfl) (by
    intro v hv
    simp only [List.mem_cons, List.not_mem_nil, or_false] at hv
    rcases hv with rfl; rfl) ((eMet a b c d e f g h i).trans (metT_eq (w12M_bd a b c d e f g h i)))).1
open Classical in
theorem nosB_of {m : G6} {n : Int} (h : nosB m n = true) : Nosh m n := of_decide_eq_true h
open Classical in
theorem nosB_to {m : G6} {n : Int} (h : Nosh m n) : nosB m n = true := decide_eq_true h
theorem okz15 : CxOk (Cz15 Rc Try.prog) := Cx.addP_ok okz14 fun args v _ h _ => by
  unfold Fz_53 at h
  split at h
  · rename_i k
    simp only [Option.some.injEq, Prod.mk.injEq, Bool.and_eq_true, decide_eq_true_eq] at h
    obtain ⟨⟨h0, h1⟩, rfl⟩ := h
    exact sgS h0 h1
  · cases h
theorem okz16 : CxOk (Cz16 Rc Try.prog) := Cx.addP_ok okz15 fun args v _ h _ => by
  unfold Fz_51 at h
  split at h
  · simp only [Option.some.injEq, Prod.mk.injEq, true_and] at h
    subst h
    exact metS _ _ _ _ _ _ _ _ _
  · cases h
set_option maxRecDepth 100000 in
theorem okz17 : CxOk (Cz17 Rc Try.prog) := Cx.addP_ok okz16 fun args v _ h _ => by
  split at h
  · rename_i l hu
    obtain ⟨rfl, hl⟩ := unpack_spec _ _ _ hu
    match l, hl, h with
    | [a0, a1, a2, a3, a4, a5, b], _, h =>
      simp only [Fz_59, Option.some.injEq, Prod.mk.injEq] at h
      obtain ⟨h0, rfl⟩ := h
      have e1 : Rc.ns ⟨a0, a1, a2, a3, a4, a5⟩ b = nosB ⟨a0, a1, a2, a3, a4, a5⟩ b := by simp only [Rc]
      have e : Nosh ⟨a0, a1, a2, a3, a4, a5⟩ b := nosB_of (e1 ▸ h0)
      have pk : pack [some 6, none] [a0, a1, a2, a3, a4, a5, b] = [G6.v ⟨a0, a1, a2, a3, a4, a5⟩, vI b] := rfl
      rw [pk]
      exact hS e
  · cases h
theorem okz : CxOk (Cz Rc Try.prog) := okz17
end Go.Proofs.Ytofblakbfmjgkaa
