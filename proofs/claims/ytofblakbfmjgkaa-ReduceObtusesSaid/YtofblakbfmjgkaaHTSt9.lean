/-
  The document's step: the inner loop as a contract. Nothing here is trusted.
-/
import Derived.Test.YtofblakbfmjgkaaHTSt8
namespace Go.Proofs.Ytofblakbfmjgkaa
open Go Vx Go.RowKit
def cleanS (mask : List Nat) (sp : List From) (B : Nat) (K : St → Option (Ans (Exit × St))) (st : St) : Option (Ans (Exit × St)) :=
  match (cleanA mask mask sp sp B (.ret, st)).res with
  | some (_, s0) => K s0
  | none => none
theorem cleanS_ok {P : Program} {B : Nat} {x : Code} {mask : List Nat} {sp : List From} {K : St → Option (Ans (Exit × St))} (h : ∀ st ans e s, K st = some ans → ans.res = some (e, s) → LoopSem P B x st e s) (st : St) (ans : Ans (Exit × St)) (e : Exit) (s : St) (hc : cleanS mask sp B K st = some ans) (hr : ans.res = some (e, s)) : LoopSem P B x st e s := by
  unfold cleanS at hc
  split at hc
  · rename_i e0 s0 h0
    exact fun Q w0 keep r0 a w hB hQ hrel => h s0 ans e s hc hr Q w0 keep r0 a w hB hQ (clean_rel h0 hB hrel).2
  · cases hc
theorem loop_run {C : Cx} (hC : CxOk C) {f B n : Nat} {x : Code} {mask mout : List Nat} {sp so : List From} {st s : St} {e : Exit} (hin : InBody (C.into f B) (.loop x)) (h : roundR (C.into f B) n (.loop x) mask mout sp so st = some (e, s)) : LoopSem C.P B x st e s := by
  obtain ⟨⟨e1, s1⟩, h3, h4⟩ := Ans.bind_some h
  intro Q w0 keep r0 a w hB hQ hr
  refine (exCode_sound hC n).2 f B x hin st e1 s1 h3 _ w0 keep r0 a w hB ?_ hr
  intro a' w' hr'
  obtain ⟨rfl, hs⟩ := clean_rel h4 hB hr'
  exact hQ a' w' hs
def setI : List Int → Nat → Int → List Int
  | [], _, _ => []
  | _ :: l, 0, v => v :: l
  | x :: l, k + 1, v => x :: setI l k v
def k8 (s : St) : Option (Ans (Exit × St)) :=
  match sized s 122 5, tAt s 1, tAt s 2, tAt s 3, tAt s 9, tAt s 11, tAt s 12, tAt s 13, tAt s 14, tAt s 54, tAt s 57, s.mem with
  | true, some (.pointer (some ⟨0, 0, none⟩)), some (.pointer (some ⟨1, 0, none⟩)), some (.pointer (some ⟨2, 0, none⟩)), some (.pointer (some ⟨3, 0, none⟩)), some (.pointer (some ⟨4, 0, none⟩)), some (.int .i64 i), some (.int .i64 j), some (.int .i64 n), some (.int .i64 a), some (.int .i64 b), [.cells true 0 cF, .cells true 0 cz, .cells true 0 cw, .cells true 0 cT, .cells true 0 cg] =>
    match intsOf .i64 16 cF, intsOf .i64 16 cz, intsOf .i64 9 cw, intsOf .i64 16 cT, intsOf .i64 16 cg with
    | some F, some z, some w, some T, some g => some (.br (decide (0 ≤ i) && (decide (i < 4) && (decide (0 ≤ j) && (decide (j < 4) && (n == 0))))) (.out (.exit 8, s8O F z w T (setI g (4 * i.toNat + j.toNat) (entG T F (nth g (4 * i.toNat + j.toNat)) i.toNat j.toNat)) i a b)) .fail)
    | _, _, _, _, _ => none
  | _, _, _, _, _, _, _, _, _, _, _, _ => none
theorem len16 {l : List Int} (h : l.length = 16) : ∃ a0 a1 a2 a3 a4 a5 a6 a7 a8 a9 a10 a11 a12 a13 a14 a15, l = [a0, a1, a2, a3, a4, a5, a6, a7, a8, a9, a10, a11, a12, a13, a14, a15] := by
  match l, h with
  | a0 :: a1 :: a2 :: a3 :: a4 :: a5 :: a6 :: a7 :: a8 :: a9 :: a10 :: a11 :: a12 :: a13 :: a14 :: a15 :: [], _ => exact ⟨_, _, _, _, _, _, _, _, _, _, _, _, _, _, _, _, rfl⟩
theorem len9 {l : List Int} (h : l.length = 9) : ∃ a0 a1 a2 a3 a4 a5 a6 a7 a8, l = [a0, a1, a2, a3, a4, a5, a6, a7, a8] := by
  match l, h with
  | a0 :: a1 :: a2 :: a3 :: a4 :: a5 :: a6 :: a7 :: a8 :: [], _ => exact ⟨_, _, _, _, _, _, _, _, _, rfl⟩
theorem loop_sub {x b : Code} (h : x ∈ loopsIn b) : ∀ y ∈ loopsIn (.loop x), y ∈ loopsIn b := fun y hy => by
  simp only [loopsIn, List.mem_cons] at hy
  rcases hy with rfl | hy
  · exact h
  · exact loopsIn_trans b x y h hy
set_option maxRecDepth 100000 in
theorem s8In : InBody ((CCl Try.prog).into 93 0) (.loop (x8 Try.prog)) := by
  have hm : x8 Try.prog ∈ loopsIn (s2B Try.prog) := by
    have h0 : loopsOf Try.prog 93 24 = (loopsIn (s2B Try.prog)).filter fun x => Nat.beq (loopKey x) 24 := by
      unfold loopsOf
      rw [show Try.prog.funcs[93]? = some Try.f93 from Try.func93]
      show (match Try.f93.body with
        | some b => (loopsIn b).filter fun x => Nat.beq (loopKey x) 24
        | none => []) = _
      rw [s2B_eq]
    have : x8 Try.prog ∈ loopsOf Try.prog 93 24 := by rw [x8_eq]; exact List.mem_cons_self
    rw [h0] at this
    exact (List.mem_filter.1 this).1
  exact Or.inl ⟨Try.f93, s2B Try.prog, Try.func93, s2B_eq, loop_sub hm⟩
set_option maxRecDepth 100000 in
theorem s8L {F z w T g : List Int} (hF : F.length = 16) (hz : z.length = 16) (hw : w.length = 9) (hT : T.length = 16) (hg : g.length = 16) {i j a b : Int} (hi : 0 ≤ i ∧ i < 4) (hj : 0 ≤ j ∧ j < 4) :
    LoopSem Try.prog 0 (x8 Try.prog) (s8I F z w T g i j a b) (.exit 8) (s8O F z w T (setI g (4 * i.toNat + j.toNat) (entG T F (nth g (4 * i.toNat + j.toNat)) i.toNat j.toNat)) i a b) := by
  obtain ⟨f0, f1, f2, f3, f4, f5, f6, f7, f8, f9, f10, f11, f12, f13, f14, f15, rfl⟩ := len16 hF
  obtain ⟨z0, z1, z2, z3, z4, z5, z6, z7, z8, z9, z10, z11, z12, z13, z14, z15, rfl⟩ := len16 hz
  obtain ⟨w0, w1, w2, w3, w4, w5, w6, w7, w8, rfl⟩ := len9 hw
  obtain ⟨t0, t1, t2, t3, t4, t5, t6, t7, t8, t9, t10, t11, t12, t13, t14, t15, rfl⟩ := len16 hT
  obtain ⟨g0, g1, g2, g3, g4, g5, g6, g7, g8, g9, g10, g11, g12, g13, g14, g15, rfl⟩ := len16 hg
  have ci : i = 0 ∨ i = 1 ∨ i = 2 ∨ i = 3 := by omega
  have cj : j = 0 ∨ j = 1 ∨ j = 2 ∨ j = 3 := by omega
  rcases ci with rfl | rfl | rfl | rfl <;> rcases cj with rfl | rfl | rfl | rfl
  · exact loop_run (C := CCl Try.prog) okCl (f := 93) (B := 0) s8In (s8R00 f0 f1 f2 f3 f4 f5 f6 f7 f8 f9 f10 f11 f12 f13 f14 f15 z0 z1 z2 z3 z4 z5 z6 z7 z8 z9 z10 z11 z12 z13 z14 z15 w0 w1 w2 w3 w4 w5 w6 w7 w8 t0 t1 t2 t3 t4 t5 t6 t7 t8 t9 t10 t11 t12 t13 t14 t15 g0 g1 g2 g3 g4 g5 g6 g7 g8 g9 g10 g11 g12 g13 g14 g15 a b)
  · exact loop_run (C := CCl Try.prog) okCl (f := 93) (B := 0) s8In (s8R01 f0 f1 f2 f3 f4 f5 f6 f7 f8 f9 f10 f11 f12 f13 f14 f15 z0 z1 z2 z3 z4 z5 z6 z7 z8 z9 z10 z11 z12 z13 z14 z15 w0 w1 w2 w3 w4 w5 w6 w7 w8 t0 t1 t2 t3 t4 t5 t6 t7 t8 t9 t10 t11 t12 t13 t14 t15 g0 g1 g2 g3 g4 g5 g6 g7 g8 g9 g10 g11 g12 g13 g14 g15 a b)
  · exact loop_run (C := CCl Try.prog) okCl (f := 93) (B := 0) s8In (s8R02 f0 f1 f2 f3 f4 f5 f6 f7 f8 f9 f10 f11 f12 f13 f14 f15 z0 z1 z2 z3 z4 z5 z6 z7 z8 z9 z10 z11 z12 z13 z14 z15 w0 w1 w2 w3 w4 w5 w6 w7 w8 t0 t1 t2 t3 t4 t5 t6 t7 t8 t9 t10 t11 t12 t13 t14 t15 g0 g1 g2 g3 g4 g5 g6 g7 g8 g9 g10 g11 g12 g13 g14 g15 a b)
  · exact loop_run (C := CCl Try.prog) okCl (f := 93) (B := 0) s8In (s8R03 f0 f1 f2 f3 f4 f5 f6 f7 f8 f9 f10 f11 f12 f13 f14 f15 z0 z1 z2 z3 z4 z5 z6 z7 z8 z9 z10 z11 z12 z13 z14 z15 w0 w1 w2 w3 w4 w5 w6 w7 w8 t0 t1 t2 t3 t4 t5 t6 t7 t8 t9 t10 t11 t12 t13 t14 t15 g0 g1 g2 g3 g4 g5 g6 g7 g8 g9 g10 g11 g12 g13 g14 g15 a b)
  · exact loop_run (C := CCl Try.prog) okCl (f := 93) (B := 0) s8In (s8R10 f0 f1 f2 f3 f4 f5 f6 f7 f8 f9 f10 f11 f12 f13 f14 f15 z0 z1 z2 z3 z4 z5 z6 z7 z8 z9 z10 z11 z12 z13 z14 z15 w0 w1 w2 w3 w4 w5 w6 w7 w8 t0 t1 t2 t3 t4 t5 t6 t7 t8 t9 t10 t11 t12 t13 t14 t15 g0 g1 g2 g3 g4 g5 g6 g7 g8 g9 g10 g11 g12 g13 g14 g15 a b)
  · exact loop_run (C := CCl Try.prog) okCl (f := 93) (B := 0) s8In (s8R11 f0 f1 f2 f3 f4 f5 f6 f7 f8 f9 f10 f11 f12 f13 f14 f15 z0 z1 z2 z3 z4 z5 z6 z7 z8 z9 z10 z11 z12 z13 z14 z15 w0 w1 w2 w3 w4 w5 w6 w7 w8 t0 t1 t2 t3 t4 t5 t6 t7 t8 t9 t10 t11 t12 t13 t14 t15 g0 g1 g2 g3 g4 g5 g6 g7 g8 g9 g10 g11 g12 g13 g14 g15 a b)
  · exact loop_run (C := CCl Try.prog) okCl (f := 93) (B := 0) s8In (s8R12 f0 f1 f2 f3 f4 f5 f6 f7 f8 f9 f10 f11 f12 f13 f14 f15 z0 z1 z2 z3 z4 z5 z6 z7 z8 z9 z10 z11 z12 z13 z14 z15 w0 w1 w2 w3 w4 w5 w6 w7 w8 t0 t1 t2 t3 t4 t5 t6 t7 t8 t9 t10 t11 t12 t13 t14 t15 g0 g1 g2 g3 g4 g5 g6 g7 g8 g9 g10 g11 g12 g13 g14 g15 a b)
  · exact loop_run (C := CCl Try.prog) okCl (f := 93) (B := 0) s8In (s8R13 f0 f1 f2 f3 f4 f5 f6 f7 f8 f9 f10 f11 f12 f13 f14 f15 z0 z1 z2 z3 z4 z5 z6 z7 z8 z9 z10 z11 z12 z13 z14 z15 w0 w1 w2 w3 w4 w5 w6 w7 w8 t0 t1 t2 t3 t4 t5 t6 t7 t8 t9 t10 t11 t12 t13 t14 t15 g0 g1 g2 g3 g4 g5 g6 g7 g8 g9 g10 g11 g12 g13 g14 g15 a b)
  · exact loop_run (C := CCl Try.prog) okCl (f := 93) (B := 0) s8In (s8R20 f0 f1 f2 f3 f4 f5 f6 f7 f8 f9 f10 f11 f12 f13 f14 f15 z0 z1 z2 z3 z4 z5 z6 z7 z8 z9 z10 z11 z12 z13 z14 z15 w0 w1 w2 w3 w4 w5 w6 w7 w8 t0 t1 t2 t3 t4 t5 t6 t7 t8 t9 t10 t11 t12 t13 t14 t15 g0 g1 g2 g3 g4 g5 g6 g7 g8 g9 g10 g11 g12 g13 g14 g15 a b)
  · exact loop_run (C := CCl Try.prog) okCl (f := 93) (B := 0) s8In (s8R21 f0 f1 f2 f3 f4 f5 f6 f7 f8 f9 f10 f11 f12 f13 f14 f15 z0 z1 z2 z3 z4 z5 z6 z7 z8 z9 z10 z11 z12 z13 z14 z15 w0 w1 w2 w3 w4 w5 w6 w7 w8 t0 t1 t2 t3 t4 t5 t6 t7 t8 t9 t10 t11 t12 t13 t14 t15 g0 g1 g2 g3 g4 g5 g6 g7 g8 g9 g10 g11 g12 g13 g14 g15 a b)
  · exact loop_run (C := CCl Try.prog) okCl (f := 93) (B := 0) s8In (s8R22 f0 f1 f2 f3 f4 f5 f6 f7 f8 f9 f10 f11 f12 f13 f14 f15 z0 z1 z2 z3 z4 z5 z6 z7 z8 z9 z10 z11 z12 z13 z14 z15 w0 w1 w2 w3 w4 w5 w6 w7 w8 t0 t1 t2 t3 t4 t5 t6 t7 t8 t9 t10 t11 t12 t13 t14 t15 g0 g1 g2 g3 g4 g5 g6 g7 g8 g9 g10 g11 g12 g13 g14 g15 a b)
  · exact loop_run (C := CCl Try.prog) okCl (f := 93) (B := 0) s8In (s8R23 f0 f1 f2 f3 f4 f5 f6 f7 f8 f9 f10 f11 f12 f13 f14 f15 z0 z1 z2 z3 z4 z5 z6 z7 z8 z9 z10 z11 z12 z13 z14 z15 w0 w1 w2 w3 w4 w5 w6 w7 w8 t0 t1 t2 t3 t4 t5 t6 t7 t8 t9 t10 t11 t12 t13 t14 t15 g0 g1 g2 g3 g4 g5 g6 g7 g8 g9 g10 g11 g12 g13 g14 g15 a b)
  · exact loop_run (C := CCl Try.prog) okCl (f := 93) (B := 0) s8In (s8R30 f0 f1 f2 f3 f4 f5 f6 f7 f8 f9 f10 f11 f12 f13 f14 f15 z0 z1 z2 z3 z4 z5 z6 z7 z8 z9 z10 z11 z12 z13 z14 z15 w0 w1 w2 w3 w4 w5 w6 w7 w8 t0 t1 t2 t3 t4 t5 t6 t7 t8 t9 t10 t11 t12 t13 t14 t15 g0 g1 g2 g3 g4 g5 g6 g7 g8 g9 g10 g11 g12 g13 g14 g15 a b)
  · exact loop_run (C := CCl Try.prog) okCl (f := 93) (B := 0) s8In (s8R31 f0 f1 f2 f3 f4 f5 f6 f7 f8 f9 f10 f11 f12 f13 f14 f15 z0 z1 z2 z3 z4 z5 z6 z7 z8 z9 z10 z11 z12 z13 z14 z15 w0 w1 w2 w3 w4 w5 w6 w7 w8 t0 t1 t2 t3 t4 t5 t6 t7 t8 t9 t10 t11 t12 t13 t14 t15 g0 g1 g2 g3 g4 g5 g6 g7 g8 g9 g10 g11 g12 g13 g14 g15 a b)
  · exact loop_run (C := CCl Try.prog) okCl (f := 93) (B := 0) s8In (s8R32 f0 f1 f2 f3 f4 f5 f6 f7 f8 f9 f10 f11 f12 f13 f14 f15 z0 z1 z2 z3 z4 z5 z6 z7 z8 z9 z10 z11 z12 z13 z14 z15 w0 w1 w2 w3 w4 w5 w6 w7 w8 t0 t1 t2 t3 t4 t5 t6 t7 t8 t9 t10 t11 t12 t13 t14 t15 g0 g1 g2 g3 g4 g5 g6 g7 g8 g9 g10 g11 g12 g13 g14 g15 a b)
  · exact loop_run (C := CCl Try.prog) okCl (f := 93) (B := 0) s8In (s8R33 f0 f1 f2 f3 f4 f5 f6 f7 f8 f9 f10 f11 f12 f13 f14 f15 z0 z1 z2 z3 z4 z5 z6 z7 z8 z9 z10 z11 z12 z13 z14 z15 w0 w1 w2 w3 w4 w5 w6 w7 w8 t0 t1 t2 t3 t4 t5 t6 t7 t8 t9 t10 t11 t12 t13 t14 t15 g0 g1 g2 g3 g4 g5 g6 g7 g8 g9 g10 g11 g12 g13 g14 g15 a b)
theorem k8_ok (st : St) (ans : Ans (Exit × St)) (e : Exit) (s : St) (h : k8 st = some ans) (hr : ans.res = some (e, s)) : LoopSem Try.prog 0 (x8 Try.prog) st e s := by
  unfold k8 at h
  split at h
  · rename_i i j n a b cF cz cw cT cg hb h1 h2 h3 h9 h11 h12 h13 h14 h54 h57 hm
    split at h
    · rename_i F z w T g hF hz hw hT hg
      obtain ⟨eF, lF⟩ := intsOf_spec 16 cF F hF
      obtain ⟨ez, lz⟩ := intsOf_spec 16 cz z hz
      obtain ⟨ew, lw⟩ := intsOf_spec 9 cw w hw
      obtain ⟨eT, lT⟩ := intsOf_spec 16 cT T hT
      obtain ⟨eg, lg⟩ := intsOf_spec 16 cg g hg
      simp only [Option.some.injEq] at h
      subst h
      rcases Ans.br_some hr with ⟨hc, hr1⟩ | ⟨_, hr1⟩
      · clear hr
        simp only [Bool.and_eq_true, decide_eq_true_eq, beq_iff_eq] at hc
        obtain ⟨c1, c2, c3, c4, c5⟩ := hc
        subst c5
        simp only [Ans.res, Option.some.injEq, Prod.mk.injEq] at hr1
        obtain ⟨rfl, rfl⟩ := hr1
        have hm : st.mem = s8M F z w T g := by rw [hm, eF, ez, ew, eT, eg]; rfl
        have hk := stOf_keep hb [obPt 1 0, obPt 2 1, obPt 3 2, obPt 9 3, obPt 11 4, (12, vI i), (13, vI j), (14, vI 0), (54, vI a), (57, vI b)] (by
          intro x hx
          simp only [List.mem_cons, List.not_mem_nil, or_false] at hx
          rcases hx with rfl | rfl | rfl | rfl | rfl | rfl | rfl | rfl | rfl | rfl
          · exact h1
          · exact h2
          · exact h3
          · exact h9
          · exact h11
          · exact h12
          · exact h13
          · exact h14
          · exact h54
          · exact h57) hm
        have key := s8L lF lz lw lT lg (a := a) (b := b) ⟨c1, c2⟩ ⟨c3, c4⟩
        unfold s8I at key
        rw [← hk] at key
        exact LoopSem.clean key
      · simp [Ans.res] at hr1
    · cases h
  · cases h
def CCm (P : Program) : Cx := (CCl P).addLB 93 24 0 (cleanS [1, 2, 3, 9, 11, 12, 13, 14, 54, 57] [.slot 1, .slot 2, .slot 3, .slot 9, .slot 11] 0 k8)
theorem okCm : CxOk (CCm Try.prog) := Cx.addLB_ok okCl x8_eq fun st ans e s hc hr => cleanS_ok k8_ok st ans e s hc hr
end Go.Proofs.Ytofblakbfmjgkaa
