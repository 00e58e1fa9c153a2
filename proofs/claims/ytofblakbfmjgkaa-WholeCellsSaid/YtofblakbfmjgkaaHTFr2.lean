/-
  cell.Far told: the loop over the second parts as a contract. Nothing here is trusted.
-/
import Derived.Test.YtofblakbfmjgkaaHTFr1
namespace Go.Proofs.Ytofblakbfmjgkaa
open Go Vx Go.RowKit
theorem zfK_eq (m : G6) (M : Int) (v : V3) (x y l : Int) (k : Int → Option (Exit × St)) : zfK m M v x y l k = k ((imgL v.z M).foldl (fun l z => min2I l (sW m x y z)) l) := by
  unfold zfK
  by_cases h : v.z = 0
  · rw [show (v.z == 0) = true by simpa using h, show imgL v.z M = [W (0 - M), 0, M] from if_pos h]; rfl
  · rw [show (v.z == 0) = false by simpa using h, show imgL v.z M = [W (v.z - M), v.z] from if_neg h]; rfl
theorem yfK_eq (m : G6) (M : Int) (v : V3) (x : Int) (K : Int → Option (Exit × St)) : ∀ (ys : List Int) (l : Int), yfK m M v x K ys l = K (midF m M v.z x l ys)
  | [], _ => rfl
  | y :: ys, l => by
    simp only [yfK]
    rw [zfK_eq, yfK_eq m M v x K ys]
    rfl
def kf (s : St) : Option (Ans (Exit × St)) :=
  match sized s 85 4, tAt s 3, tAt s 8, tAt s 10, tAt s 12, tAt s 43, tAt s 44, tAt s 45, tAt s 54, tAt s 55, tAt s 56, s.mem with
  | true, some (.pointer (some ⟨0, 0, none⟩)), some (.pointer (some ⟨1, 0, none⟩)), some (.int .i64 l), some (.int .i64 x), some (.slice (some ⟨2, 0, none⟩) nx 1), some (.int .i64 kx), some (.int .i64 i), some (.slice (some ⟨3, 0, none⟩) ny 1), some (.int .i64 ky), some (.int .i64 j), [.cells true 0 cm, .cells true 0 cp, .cells true 1 cx, .cells true 1 cy] =>
    match intsOf .i64 6 cm, intsOf .i64 4 cp, intsOf .i64 nx cx, intsOf .i64 ny cy with
    | some [a0, a1, a2, a3, a4, a5], some [M, v0, v1, v2], some xs, some ys => some (.br ((Nat.beq nx 2 || Nat.beq nx 3) && ((Nat.beq ny 2 || Nat.beq ny 3) && ((kx == (nx : Int)) && ((ky == (ny : Int)) && (j == 0)))))
        (.out (.exit 2, frO ⟨a0, a1, a2, a3, a4, a5⟩ M ⟨v0, v1, v2⟩ xs nx (midF ⟨a0, a1, a2, a3, a4, a5⟩ M v2 x l ys) i)) .fail)
    | _, _, _, _ => none
  | _, _, _, _, _, _, _, _, _, _, _, _ => none
set_option maxRecDepth 100000 in
theorem frIn : InBody ((CCfa Try.prog).into 28 0) (.loop (fx10 Try.prog)) := by
  obtain ⟨fn, b, hf, hb, hx⟩ | h : _ ∨ _ := loopsOf_in (C := CCfa Try.prog) (f := 28) (B := 0) (k := 10) fx10_eq
  · refine Or.inl ⟨fn, b, hf, hb, loop_sub ?_⟩
    have h0 : loopsOf Try.prog 28 10 = (loopsIn b).filter fun x => Nat.beq (loopKey x) 10 := by
      unfold loopsOf
      rw [show Try.prog.funcs[28]? = some fn from hf]
      simp only [hb]
    have : fx10 Try.prog ∈ loopsOf Try.prog 28 10 := by rw [fx10_eq]; exact List.mem_cons_self
    rw [h0] at this
    exact (List.mem_filter.1 this).1
  · exact Or.inr h
theorem len2 {l : List Int} (h : l.length = 2) : ∃ a b, l = [a, b] := by
  match l, h with
  | [a, b], _ => exact ⟨a, b, rfl⟩
theorem len3 {l : List Int} (h : l.length = 3) : ∃ a b c, l = [a, b, c] := by
  match l, h with
  | [a, b, c], _ => exact ⟨a, b, c, rfl⟩
set_option maxRecDepth 100000 in
theorem frL (m : G6) (M : Int) (v : V3) {xs ys : List Int} {nx ny : Nat} (hx : xs.length = nx) (hy : ys.length = ny) (cx : nx = 2 ∨ nx = 3) (cy : ny = 2 ∨ ny = 3) (l x i : Int) :
    LoopSem Try.prog 0 (fx10 Try.prog) (frI m M v xs ys nx ny l x i) (.exit 2) (frO m M v xs nx (midF m M v.z x l ys) i) := by
  rcases cx with rfl | rfl <;> rcases cy with rfl | rfl
  · obtain ⟨x0, x1, rfl⟩ := len2 hx
    obtain ⟨y0, y1, rfl⟩ := len2 hy
    exact loop_run (C := CCfa Try.prog) okCfa (f := 28) (B := 0) frIn ((frR22 m M v x0 x1 y0 y1 l x i).trans (yfK_eq m M v x _ _ _))
  · obtain ⟨x0, x1, rfl⟩ := len2 hx
    obtain ⟨y0, y1, y2, rfl⟩ := len3 hy
    exact loop_run (C := CCfa Try.prog) okCfa (f := 28) (B := 0) frIn ((frR23 m M v x0 x1 y0 y1 y2 l x i).trans (yfK_eq m M v x _ _ _))
  · obtain ⟨x0, x1, x2, rfl⟩ := len3 hx
    obtain ⟨y0, y1, rfl⟩ := len2 hy
    exact loop_run (C := CCfa Try.prog) okCfa (f := 28) (B := 0) frIn ((frR32 m M v x0 x1 x2 y0 y1 l x i).trans (yfK_eq m M v x _ _ _))
  · obtain ⟨x0, x1, x2, rfl⟩ := len3 hx
    obtain ⟨y0, y1, y2, rfl⟩ := len3 hy
    exact loop_run (C := CCfa Try.prog) okCfa (f := 28) (B := 0) frIn ((frR33 m M v x0 x1 x2 y0 y1 y2 l x i).trans (yfK_eq m M v x _ _ _))
theorem kf_ok (st : St) (ans : Ans (Exit × St)) (e : Exit) (s : St) (h : kf st = some ans) (hr : ans.res = some (e, s)) : LoopSem Try.prog 0 (fx10 Try.prog) st e s := by
  unfold kf at h
  split at h
  · rename_i l x nx kx i ny ky j cm cp cx cy hb h3 h8 h10 h12 h43 h44 h45 h54 h55 h56 hm
    split at h
    · rename_i a0 a1 a2 a3 a4 a5 M v0 v1 v2 xs ys q1 q2 q3 q4
      obtain ⟨e1, _⟩ := intsOf_spec 6 cm _ q1
      obtain ⟨e2, _⟩ := intsOf_spec 4 cp _ q2
      obtain ⟨e3, l3⟩ := intsOf_spec nx cx xs q3
      obtain ⟨e4, l4⟩ := intsOf_spec ny cy ys q4
      simp only [Option.some.injEq] at h
      subst h
      rcases Ans.br_some hr with ⟨hc, hr1⟩ | ⟨_, hr1⟩
      · clear hr
        simp only [Bool.and_eq_true, Bool.or_eq_true, beq_iff_eq] at hc
        obtain ⟨c1, c2, c3, c4, c5⟩ := hc
        subst c3; subst c4; subst c5
        simp only [Ans.res, Option.some.injEq, Prod.mk.injEq] at hr1
        obtain ⟨rfl, rfl⟩ := hr1
        have hm : st.mem = frM ⟨a0, a1, a2, a3, a4, a5⟩ M ⟨v0, v1, v2⟩ xs ++ [iC ys] := by rw [hm, e1, e2, e3, e4]; rfl
        have hk := stOf_keep hb [obPt 3 0, obPt 8 1, (10, vI l), (12, vI x), (43, .slice (some ⟨2, 0, none⟩) nx 1), (44, vI nx), (45, vI i), (54, .slice (some ⟨3, 0, none⟩) ny 1), (55, vI ny), (56, vI 0)] (by
          intro x hx
          simp only [List.mem_cons, List.not_mem_nil, or_false] at hx
          rcases hx with rfl | rfl | rfl | rfl | rfl | rfl | rfl | rfl | rfl | rfl
          · exact h3
          · exact h8
          · exact h10
          · exact h12
          · exact h43
          · exact h44
          · exact h45
          · exact h54
          · exact h55
          · exact h56) hm
        have key := frL ⟨a0, a1, a2, a3, a4, a5⟩ M ⟨v0, v1, v2⟩ l3 l4 (by rcases c1 with c | c; exact Or.inl (Nat.eq_of_beq_eq_true c); exact Or.inr (Nat.eq_of_beq_eq_true c)) (by rcases c2 with c | c; exact Or.inl (Nat.eq_of_beq_eq_true c); exact Or.inr (Nat.eq_of_beq_eq_true c)) l x i
        unfold frI at key
        rw [← hk] at key
        exact LoopSem.clean key
      · simp [Ans.res] at hr1
    · cases h
  · cases h
def CCfb (P : Program) : Cx := (CCfa P).addLB 28 10 0 (cleanS [3, 8, 10, 12, 43, 44, 45, 54, 55, 56] [.slot 3, .slot 8, .slot 43, .slot 54] 0 kf)
theorem okCfb : CxOk (CCfb Try.prog) := Cx.addLB_ok okCfa fx10_eq fun st ans e s hc hr => cleanS_ok kf_ok st ans e s hc hr
end Go.Proofs.Ytofblakbfmjgkaa
