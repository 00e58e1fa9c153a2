/-
  facetref05.Close: its outer loop; facetref05.Close and DocClose, told. Nothing here is trusted.
-/
import Derived.Test.YtcefeamjnnkahaaGq

namespace Go.Proofs.Ytcefeamjnnkahaa
open Go Vx
def roX (P : Program) : Code := (loopsOf P 35 4).headD .skip
theorem roX_eq : loopsOf Try.prog 35 4 = [roX Try.prog] := by kernel_rfl
theorem roR (own : Bool) (N : Nat) (ls : List O3) (n : Nat) (fs ss : List O3) (at_ : Int) : roundR ((Cri Try.prog).into 35 1) 40 (roX Try.prog) [0, 2, 3, 4, 5, 6] [0, 2, 3, 4, 5, 6] [.fix 0, .slot 4, .slot 5] [.fix 0, .slot 4, .slot 5] (roH N n at_ (riM own N ls n (opRow fs) (opRow ss))) =
    (match decide (at_ < (n : Int)) with
    | true => match riT N N N n n n n (opRow ls) (opRow fs) (opRow ss) at_ N 0 with
      | true => match (rInB (atO (opsOf n (opRow fs)) at_) (opsOf N (opRow ls)) (opsOf n (opRow fs)) (opsOf n (opRow ss))).1 with
        | true => some (.normal, roH N (rInB (atO (opsOf n (opRow fs)) at_) (opsOf N (opRow ls)) (opsOf n (opRow fs)) (opsOf n (opRow ss))).2.1.length (W (at_ + 1)) (riM own N (opsOf N (opRow ls)) (rInB (atO (opsOf n (opRow fs)) at_) (opsOf N (opRow ls)) (opsOf n (opRow fs)) (opsOf n (opRow ss))).2.1.length (opRow (rInB (atO (opsOf n (opRow fs)) at_) (opsOf N (opRow ls)) (opsOf n (opRow fs)) (opsOf n (opRow ss))).2.1) (opRow (rInB (atO (opsOf n (opRow fs)) at_) (opsOf N (opRow ls)) (opsOf n (opRow fs)) (opsOf n (opRow ss))).2.2)))
        | false => some (.ret, roH N (rInB (atO (opsOf n (opRow fs)) at_) (opsOf N (opRow ls)) (opsOf n (opRow fs)) (opsOf n (opRow ss))).2.1.length at_ (riM own N (opsOf N (opRow ls)) (rInB (atO (opsOf n (opRow fs)) at_) (opsOf N (opRow ls)) (opsOf n (opRow fs)) (opsOf n (opRow ss))).2.1.length (opRow (rInB (atO (opsOf n (opRow fs)) at_) (opsOf N (opRow ls)) (opsOf n (opRow fs)) (opsOf n (opRow ss))).2.1) (opRow (rInB (atO (opsOf n (opRow fs)) at_) (opsOf N (opRow ls)) (opsOf n (opRow fs)) (opsOf n (opRow ss))).2.2)))
      | false => none
    | false => some (.exit 0, roH N n at_ (riM own N ls n (opRow fs) (opRow ss)))) := by kernel_rfl
structure roG where
  (own : Bool) (N : Nat) (ls : List O3) (n : Nat) (fs ss : List O3) (at_ : Int) (F : Nat)
def roHg (g : roG) : St := roH g.N g.n g.at_ (riM g.own g.N g.ls g.n (opRow g.fs) (opRow g.ss))
def roInv (g : roG) : Prop := g.ls.length = g.N ∧ g.N ≤ 1100000 ∧ g.fs.length = g.n ∧ g.ss.length = g.n ∧ g.n ≤ 192 ∧ 0 ≤ g.at_ ∧ (g.F : Int) + g.at_ = 193
def roRes (g : roG) : Bool × List O3 × List O3 := rOutB g.ls g.F g.at_ g.fs g.ss
/-- How far it came. -/
def rAt (ls : List O3) : Nat → Int → List O3 → List O3 → Int
  | 0, i, _, _ => i
  | N + 1, i, fs, ss => match decide (i < (fs.length : Int)) with
    | true => match (rInB (atO fs i) ls fs ss).1 with
      | true => rAt ls N (i + 1) (rInB (atO fs i) ls fs ss).2.1 (rInB (atO fs i) ls fs ss).2.2
      | false => i
    | false => i
def roO (g : roG) : Exit × St := (match (roRes g).1 with
  | true => .exit 0
  | false => .ret, roH g.N (roRes g).2.1.length (rAt g.ls g.F g.at_ g.fs g.ss) (riM g.own g.N g.ls (roRes g).2.1.length (opRow (roRes g).2.1) (opRow (roRes g).2.2)))
theorem roL (g : roG) (hg : roInv g) : LoopSem Try.prog 1 (roX Try.prog) (roHg g) (roO g).1 (roO g).2 := by
  refine loop_rule2 (C := Cri Try.prog) okri (f := 35) (B := 1) (loopsOf_in (k := 4) roX_eq) 40 [0, 2, 3, 4, 5, 6] [0, 2, 3, 4, 5, 6] [.fix 0, .slot 4, .slot 5] [.fix 0, .slot 4, .slot 5] roHg (fun g => g.F) roInv roO ?_ g hg
  clear hg g
  rintro ⟨own, N, ls, n, fs, ss, at_, F⟩ hg
  unfold roInv at hg
  simp only at hg
  obtain ⟨h1, h2, h3, h4, h5, h6, h7⟩ := hg
  have hR := roR own N ls n fs ss at_
  rw [opsOf_row h1, opsOf_row h3, opsOf_row h4] at hR
  by_cases hi : at_ < (n : Int)
  · have hd : decide (at_ < (n : Int)) = true := by simpa using hi
    have hd2 : decide (at_ < (fs.length : Int)) = true := by rw [h3]; exact hd
    have hw : W (at_ + 1) = at_ + 1 := W_in (by omega)
    have ht : riT N N N n n n n (opRow ls) (opRow fs) (opRow ss) at_ N 0 = true := by
      unfold riT
      rw [Nat.beq_refl, Nat.beq_refl, okOps_opRow, okOps_opRow, okOps_opRow]
      simp; omega
    rw [hd, ht, hw] at hR
    simp only at hR
    obtain ⟨l1, l2, l3⟩ := rInB_len (atO fs at_) ls fs ss (by omega) (by omega)
    cases F with
    | zero => omega
    | succ F =>
      cases hq : (rInB (atO fs at_) ls fs ss).1 with
      | true =>
        left
        rw [hq] at hR
        refine ⟨⟨own, N, ls, (rInB (atO fs at_) ls fs ss).2.1.length, (rInB (atO fs at_) ls fs ss).2.1, (rInB (atO fs at_) ls fs ss).2.2, at_ + 1, F⟩, _, hR, StLike.refl _, ?_, by simp only; omega, ?_⟩
        · unfold roInv
          simp only
          exact ⟨h1, h2, trivial, l1.symm, l3, by omega, by omega⟩
        · unfold roO roRes
          simp only [rOutB, rAt, hd2, hq]
      | false =>
        right
        rw [hq] at hR
        have hres : roRes ⟨own, N, ls, n, fs, ss, at_, F + 1⟩ = (false, (rInB (atO fs at_) ls fs ss).2) := by unfold roRes; simp only [rOutB, hd2, hq]
        have hat : rAt ls (F + 1) at_ fs ss = at_ := by simp only [rAt, hd2, hq]
        refine ⟨_, by unfold roO; simp only [hres]; exact hR, ?_, by unfold roO; simp [hres]⟩
        unfold roO
        simp only [hres, hat]
        exact StLike.refl _
  · have hd : decide (at_ < (n : Int)) = false := by simpa using hi
    have hd2 : decide (at_ < (fs.length : Int)) = false := by rw [h3]; exact hd
    rw [hd] at hR
    right
    have hres : roRes ⟨own, N, ls, n, fs, ss, at_, F⟩ = (true, fs, ss) := by
      unfold roRes
      cases F with
      | zero => rfl
      | succ F => simp only [rOutB, hd2]
    have hat : rAt ls F at_ fs ss = at_ := by
      cases F with
      | zero => rfl
      | succ F => simp only [rAt, hd2]
    refine ⟨_, by unfold roO; simp only [hres]; exact hR, ?_, by unfold roO; simp [hres]⟩
    unfold roO
    simp only [hres, hat, h3]
    exact StLike.refl _
def roT (N N2 n n1 n2 n3 : Nat) (row row2 row3 : Nat → List Value) (at_ : Int) : Bool := Nat.beq N N2 && (okOps N row && (Nat.beq n n1 && (Nat.beq n n2 && (okOps n row2 && (Nat.beq n n3 && (okOps n row3 && (decide (n ≤ 192) && (decide (N ≤ 1100000) && decide (0 = at_)))))))))
def roS (st : St) : Option (Ans (Exit × St)) :=
  match Nat.beq st.tmps.length 54, tAt st 0, tAt st 2, tAt st 3, tAt st 4, tAt st 5, tAt st 6, riD (thaw (killV st.mem)) with
  | true, some (.slice (some ⟨0, 0, some 0⟩) N 12), some (.slice none 0 0), some (.bool false), some (.slice (some ⟨1, 0, some 0⟩) n 12), some (.slice (some ⟨2, 0, some 0⟩) n1 12), some (.int .i64 at_), some (own, N2, row, n2, row2, n3, row3) =>
    some (.br (roT N N2 n n1 n2 n3 row row2 row3 at_) (.br (rOutB (opsOf N row) 193 0 (opsOf n row2) (opsOf n row3)).1
      (.out (.exit 0, roH N (rOutB (opsOf N row) 193 0 (opsOf n row2) (opsOf n row3)).2.1.length (rAt (opsOf N row) 193 0 (opsOf n row2) (opsOf n row3)) (riM own N (opsOf N row) (rOutB (opsOf N row) 193 0 (opsOf n row2) (opsOf n row3)).2.1.length (opRow (rOutB (opsOf N row) 193 0 (opsOf n row2) (opsOf n row3)).2.1) (opRow (rOutB (opsOf N row) 193 0 (opsOf n row2) (opsOf n row3)).2.2))))
      (.out (.ret, roH N (rOutB (opsOf N row) 193 0 (opsOf n row2) (opsOf n row3)).2.1.length (rAt (opsOf N row) 193 0 (opsOf n row2) (opsOf n row3)) (riM own N (opsOf N row) (rOutB (opsOf N row) 193 0 (opsOf n row2) (opsOf n row3)).2.1.length (opRow (rOutB (opsOf N row) 193 0 (opsOf n row2) (opsOf n row3)).2.1) (opRow (rOutB (opsOf N row) 193 0 (opsOf n row2) (opsOf n row3)).2.2))))) .fail)
  | _, _, _, _, _, _, _, _ => none
theorem roK {st : St} {ans : Ans (Exit × St)} {e_ : Exit} {s_ : St} (h : roS st = some ans) (hr : ans.res = some (e_, s_)) : LoopSem Try.prog 1 (roX Try.prog) st e_ s_ := by
  unfold roS at h
  split at h
  rotate_left
  · cases h
  rename_i N n n1 at_ own N2 row n2 row2 n3 row3 hb hs0 hs2 hs3 hs4 hs5 hs6 hD
  simp only [Option.some.injEq] at h
  subst h
  rcases Ans.br_some hr with ⟨hc, hr1⟩ | ⟨_, hr1⟩
  rotate_left
  · simp [Ans.res] at hr1
  clear hr
  unfold roT at hc
  simp only [Bool.and_eq_true, decide_eq_true_eq] at hc
  obtain ⟨c1, c2, c3, c4, c5, c6, c7, c8, c9, c10⟩ := hc
  have c1 := beq_len c1
  have c3 := beq_len c3
  have c4 := beq_len c4
  have c6 := beq_len c6
  subst c1 c3 c4 c6 c10
  have hmem := riD_spec hD
  have hI : roInv ⟨own, N, opsOf N row, n, opsOf n row2, opsOf n row3, 0, 193⟩ := by
    unfold roInv
    simp only
    exact ⟨opsOf_length N row, c9, opsOf_length n row2, opsOf_length n row3, c8, by omega, by omega⟩
  have key := roL _ hI
  have hlike : LikeL (thaw (killV st.mem)) (roHg ⟨own, N, opsOf N row, n, opsOf n row2, opsOf n row3, 0, 193⟩).mem := by
    rw [hmem]
    exact ⟨.rows (ops_like c2), .rows (ops_like c5), .rows (ops_like c7), trivial⟩
  have key := LoopSem.like (tm := (roHg ⟨own, N, opsOf N row, n, opsOf n row2, opsOf n row3, 0, 193⟩).tmps) (m := thaw (killV st.mem)) key hlike
  have key := LoopSem.fresh key
  have hk : keepL [0, 2, 3, 4, 5, 6] 0 st.tmps = (roHg ⟨own, N, opsOf N row, n, opsOf n row2, opsOf n row3, 0, 193⟩).tmps := by
    have := keep_eq [(0, .slice (some ⟨0, 0, some 0⟩) N 12), (2, .slice none 0 0), (3, .bool false), (4, .slice (some ⟨1, 0, some 0⟩) n 12), (5, .slice (some ⟨2, 0, some 0⟩) n 12), (6, vI 0)] st.tmps 0 (by
      intro x hx _
      simp only [List.mem_cons, List.not_mem_nil, or_false] at hx
      rcases hx with rfl | rfl | rfl | rfl | rfl | rfl
      · exact hs0
      · exact hs2
      · exact hs3
      · exact hs4
      · exact hs5
      · exact hs6)
    rw [show (keepL [0, 2, 3, 4, 5, 6] 0 st.tmps) = _ from this, beq_len hb]
    rfl
  rw [← hk] at key
  have key : LoopSem Try.prog 1 (roX Try.prog) st _ _ := LoopSem.clean (mask := [0, 2, 3, 4, 5, 6]) key
  unfold roO roRes at key
  simp only at key
  rcases Ans.br_some hr1 with ⟨hq, hr2⟩ | ⟨hq, hr2⟩
  · rw [hq] at key
    simp only [Ans.res, Option.some.injEq, Prod.mk.injEq] at hr2
    obtain ⟨rfl, rfl⟩ := hr2
    exact key
  · rw [hq] at key
    simp only [Ans.res, Option.some.injEq, Prod.mk.injEq] at hr2
    obtain ⟨rfl, rfl⟩ := hr2
    exact key
def Cro (P : Program) : Cx := (Cri P).addLB 35 4 1 roS
theorem okro : CxOk (Cro Try.prog) := Cx.addLB_ok okri roX_eq fun _ _ _ _ h hr => roK h hr
/-! Close -/
def one1 : Nat → List Value := chop 12 0 O3.one.cells
theorem rcE0 : exT ((Cro Try.prog).at 35) 60 Try.f35 [.slice none 0 0] [] [.slot 0] = some (.tuple #[.slice (some ⟨0, 0, some 0⟩) 1 12, .bool true], [.rows true true 12 1 one1]) := by kernel_rfl
theorem rcE1 (own : Bool) (N : Nat) (ls : List O3) : exT ((Cro Try.prog).at 35) 60 Try.f35 [.slice (some ⟨0, 0, some 0⟩) N 12] [.rows own true 12 N (opRow ls)] [.fix 0, .slot 0] =
    gd (roT N N 1 1 1 1 (opRow ls) one1 one1 0) (match (rOutB (opsOf N (opRow ls)) 193 0 (opsOf 1 one1) (opsOf 1 one1)).1 with
      | true => some (.tuple #[.slice (some ⟨1, 0, some 0⟩) (rOutB (opsOf N (opRow ls)) 193 0 (opsOf 1 one1) (opsOf 1 one1)).2.1.length 12, .bool true], [.rows own true 12 N (opRow (opsOf N (opRow ls))), .rows true true 12 (rOutB (opsOf N (opRow ls)) 193 0 (opsOf 1 one1) (opsOf 1 one1)).2.1.length (opRow (rOutB (opsOf N (opRow ls)) 193 0 (opsOf 1 one1) (opsOf 1 one1)).2.2)])
      | false => some (.tuple #[.slice none 0 0, .bool false], [.rows own true 12 N (opRow (opsOf N (opRow ls))), .no])) := by kernel_rfl
end Go.Proofs.Ytcefeamjnnkahaa


namespace Go.Proofs.Ytcefeamjnnkahaa
open Go Vx
theorem rcR_B (ls : List O3) : rcR ls = match (rOutB ls 193 0 [O3.one] [O3.one]).1 with
    | true => some (rOutB ls 193 0 [O3.one] [O3.one]).2
    | false => none := rOutB_eq ls 193 0 [O3.one] [O3.one]
def slB (n : Nat) : Value := .tuple #[.slice (some ⟨1, 0, some 0⟩) n 12, .bool true]
def nilB : Value := .tuple #[.slice none 0 0, .bool false]
def rcT (N N2 : Nat) (row : Nat → List Value) : Bool := Nat.beq N N2 && (okOps N row && (ckMaps (opsOf N row) == 0))
def rcF : List Value → Mem → Option (Ans (Value × Mem))
  | [.slice none 0 0], [] => some (.out (.tuple #[.slice (some ⟨0, 0, some 0⟩) 1 12, .bool true], [.rows true true 12 1 (opRow [O3.one])]))
  | [.slice (some ⟨0, 0, some 0⟩) N 12], [.rows own true 12 N2 row] => some (.br (rcT N N2 row) (.br (clsOk (opsOf N row)) (.out (slB (clsG (opsOf N row)).length, [.rows own true 12 N (opRow (opsOf N row)), .rows true true 12 (clsG (opsOf N row)).length (opRow (clsG (opsOf N row)))])) (.out (nilB, [.rows own true 12 N (opRow (opsOf N row)), .no]))) .fail)
  | _, _ => none
def Crc (P : Program) : Cx := (Cro P).addF 35 rcF
theorem okrc : CxOk (Crc Try.prog) := Cx.addF_ok okro fun args m ans v m' h hr => by
  unfold rcF at h
  split at h
  · simp only [Option.some.injEq] at h
    subst h
    simp only [Ans.res, Option.some.injEq, Prod.mk.injEq] at hr
    obtain ⟨rfl, rfl⟩ := hr
    exact (exT_ok okro Try.func35 (by kernel_rfl) rcE0).likes ⟨like_chop _, trivial⟩
  · rename_i N own N2 row
    simp only [Option.some.injEq] at h
    subst h
    rcases Ans.br_some hr with ⟨hc, hr1⟩ | ⟨_, hr1⟩
    rotate_left
    · simp [Ans.res] at hr1
    clear hr
    unfold rcT at hc
    simp only [Bool.and_eq_true, beq_iff_eq] at hc
    obtain ⟨c1, c2, c3⟩ := hc
    have c1 := beq_len c1
    subst c1
    have hl := opsOf_length N row
    have hE := rcE1 own N (opsOf N row)
    rw [opsOf_row hl, show opsOf 1 one1 = [O3.one] from rfl] at hE
    have sem : ∀ {v : Value} {m' : Mem}, exT ((Cro Try.prog).at 35) 60 Try.f35 [.slice (some ⟨0, 0, some 0⟩) N 12] [.rows own true 12 N (opRow (opsOf N row))] [.fix 0, .slot 0] = some (v, m') → MemSem Try.prog 35 [.slice (some ⟨0, 0, some 0⟩) N 12] [.rows own true 12 N row] v m' := fun hh => (exT_ok okro Try.func35 (by kernel_rfl) hh).like ⟨.rows (ops_like c2), trivial⟩
    generalize opsOf N row = ls at hl hE hr1 sem c3
    obtain ⟨k1, k2⟩ := ckMaps_zero c3
    obtain ⟨r1, r2⟩ := rc_cls c3
    rw [rcR_B] at r1 r2
    have ht : roT N N 1 1 1 1 (opRow ls) one1 one1 0 = true := by
      unfold roT
      rw [Nat.beq_refl, okOps_opRow, show okOps 1 one1 = true from rfl, show Nat.beq 1 1 = true from rfl]
      simp; omega
    rw [ht, gd_true] at hE
    rcases Ans.br_some hr1 with ⟨hq, hr2⟩ | ⟨hq, hr2⟩
    · rw [hq] at r1
      cases hb : (rOutB ls 193 0 [O3.one] [O3.one]).1 with
      | false => rw [hb] at r1; cases r1
      | true =>
        have e := r2 hq
        rw [hb] at e hE
        simp only [Option.getD_some] at e
        simp only at hE
        simp only [Ans.res, Option.some.injEq, Prod.mk.injEq] at hr2
        obtain ⟨rfl, rfl⟩ := hr2
        refine sem ?_
        rw [hE]
        have hl2 : (rOutB ls 193 0 [O3.one] [O3.one]).2.1.length = (clsG ls).length := by
          rcases rcR_spec k2 with ⟨r, q1, _, q3⟩ | ⟨q1, _⟩
          · rw [rcR_B, hb] at q1
            simp only [Option.some.injEq] at q1
            rw [← e, q1, q3, sortO_len]
          · rw [rcR_B, hb] at q1; cases q1
        rw [hl2, e]
        rfl
    · rw [hq] at r1
      cases hb : (rOutB ls 193 0 [O3.one] [O3.one]).1 with
      | true => rw [hb] at r1; cases r1
      | false =>
        rw [hb] at hE
        simp only at hE
        simp only [Ans.res, Option.some.injEq, Prod.mk.injEq] at hr2
        obtain ⟨rfl, rfl⟩ := hr2
        exact sem hE
  · cases h
/-! DocClose -/
theorem dcE0 : exT ((Crc Try.prog).at 11) 60 Try.f11 [.slice none 0 0] [] [.slot 0] = some (.tuple #[.slice (some ⟨0, 0, some 0⟩) 1 12, vI 0], [.rows true true 12 1 (opRow [O3.one])]) := by kernel_rfl
theorem dcE1 (own : Bool) (N : Nat) (ls : List O3) : exT ((Crc Try.prog).at 11) 60 Try.f11 [.slice (some ⟨0, 0, some 0⟩) N 12] [.rows own true 12 N (opRow ls)] [.fix 0, .slot 0] =
    (match decide ((N : Int) > 192) with
    | true => some (nilE 2, [.rows own true 12 N (opRow ls), .no])
    | false => gd (Nat.beq N N && (okOps N (opRow ls) && decide (N ≤ 4611686018427387904))) (match leastL (opsOf N (opRow ls)) 0 != 0 with
      | true => some (nilE (leastL (opsOf N (opRow ls)) 0), [.rows own true 12 N (opRow (opsOf N (opRow ls))), .no])
      | false => gd (rcT N N (opRow (opsOf N (opRow ls)))) (match clsOk (opsOf N (opRow (opsOf N (opRow ls)))) with
        | true => some (slE (clsG (opsOf N (opRow (opsOf N (opRow ls))))).length, [.rows own true 12 N (opRow (opsOf N (opRow (opsOf N (opRow ls))))), .rows true true 12 (clsG (opsOf N (opRow (opsOf N (opRow ls))))).length (opRow (clsG (opsOf N (opRow (opsOf N (opRow ls))))))])
        | false => some (nilE 5, [.rows own true 12 N (opRow (opsOf N (opRow (opsOf N (opRow ls))))), .no])))) := by kernel_rfl
theorem dcE (own : Bool) (N : Nat) (ls : List O3) (hl : ls.length = N) (hN : N ≤ 1100000) : exT ((Crc Try.prog).at 11) 60 Try.f11 [.slice (some ⟨0, 0, some 0⟩) N 12] [.rows own true 12 N (opRow ls)] [.fix 0, .slot 0] =
    (match clsOk ls with
    | true => some (slE (clsG ls).length, [.rows own true 12 N (opRow ls), .rows true true 12 (clsG ls).length (opRow (clsG ls))])
    | false => some (nilE (clsErr ls), [.rows own true 12 N (opRow ls), .no])) := by
  rw [dcE1, opsOf_row hl, opsOf_row hl]
  by_cases h : (N : Int) > 192
  · have hc : ckMaps ls = 2 := by unfold ckMaps; rw [if_pos (by omega)]
    have h1 : clsOk ls = false := by unfold clsOk; rw [hc]; rfl
    rw [decide_eq_true h, h1]
    unfold clsErr
    rw [hc]; rfl
  · have hc : ckMaps ls = leastL ls 0 := by unfold ckMaps; rw [if_neg (by omega)]
    rw [decide_eq_false h, Nat.beq_refl, okOps_opRow, show decide (N ≤ 4611686018427387904) = true by simp; omega]
    simp only [Bool.and_self, gd_true]
    by_cases h0 : leastL ls 0 = 0
    · have ht : rcT N N (opRow ls) = true := by
        unfold rcT
        rw [Nat.beq_refl, okOps_opRow, opsOf_row hl, hc, h0]; rfl
      rw [h0, ht]
      simp only [bne_self_eq_false, gd_true]
      unfold clsErr
      rw [hc, h0]
      cases clsOk ls <;> rfl
    · have h1 : clsOk ls = false := by unfold clsOk; rw [hc, (bif_beq h0).1]; rfl
      rw [(bif_beq h0).2, h1]
      unfold clsErr
      rw [hc, (bif_beq h0).1]; rfl
def dcF : List Value → Mem → Option (Ans (Value × Mem))
  | [.slice none 0 0], [] => some (.out (.tuple #[.slice (some ⟨0, 0, some 0⟩) 1 12, vI 0], [.rows true true 12 1 (opRow [O3.one])]))
  | [.slice (some ⟨0, 0, some 0⟩) N 12], [.rows own true 12 N2 row] => some (.br (Nat.beq N N2 && (okOps N row && decide (N ≤ 1100000))) (.br (clsOk (opsOf N row)) (.out (slE (clsG (opsOf N row)).length, [.rows own true 12 N (opRow (opsOf N row)), .rows true true 12 (clsG (opsOf N row)).length (opRow (clsG (opsOf N row)))])) (.out (nilE (clsErr (opsOf N row)), [.rows own true 12 N (opRow (opsOf N row)), .no]))) .fail)
  | _, _ => none
def Cdc (P : Program) : Cx := (Crc P).addF 11 dcF
theorem okdc : CxOk (Cdc Try.prog) := Cx.addF_ok okrc fun args m ans v m' h hr => by
  unfold dcF at h
  split at h
  · simp only [Option.some.injEq] at h
    subst h
    simp only [Ans.res, Option.some.injEq, Prod.mk.injEq] at hr
    obtain ⟨rfl, rfl⟩ := hr
    exact exT_ok okrc Try.func11 (by kernel_rfl) dcE0
  · rename_i N own N2 row
    simp only [Option.some.injEq] at h
    subst h
    rcases Ans.br_some hr with ⟨hc, hr1⟩ | ⟨_, hr1⟩
    rotate_left
    · simp [Ans.res] at hr1
    clear hr
    simp only [Bool.and_eq_true, decide_eq_true_eq] at hc
    obtain ⟨c1, c2, c3⟩ := hc
    have c1 := beq_len c1
    subst c1
    have hE := dcE own N (opsOf N row) (opsOf_length N row) c3
    rcases Ans.br_some hr1 with ⟨hq, hr2⟩ | ⟨hq, hr2⟩
    · rw [hq] at hE
      simp only [Ans.res, Option.some.injEq, Prod.mk.injEq] at hr2
      obtain ⟨rfl, rfl⟩ := hr2
      exact (exT_ok okrc Try.func11 (by kernel_rfl) hE).like ⟨.rows (ops_like c2), trivial⟩
    · rw [hq] at hE
      simp only [Ans.res, Option.some.injEq, Prod.mk.injEq] at hr2
      obtain ⟨rfl, rfl⟩ := hr2
      exact (exT_ok okrc Try.func11 (by kernel_rfl) hE).like ⟨.rows (ops_like c2), trivial⟩
  · cases h
/-! Twin -/
theorem twE0 : exT ((Cdc Try.prog).at 10) 60 Try.f10 [.slice none 0 0] [] [.slot 0] = some (.slice none 0 0, [.no]) := by kernel_rfl
theorem twE1 (own : Bool) (N : Nat) (ls : List O3) : exT ((Cdc Try.prog).at 10) 60 Try.f10 [.slice (some ⟨0, 0, some 0⟩) N 12] [.rows own true 12 N (opRow ls)] [.fix 0, .slot 0] =
    (match Nat.beq N 0 with
    | true => some (.slice none 0 0, [.rows own true 12 N (opRow ls), .no])
    | false => gd (roomB N) (some (.slice (some ⟨1, 0, some 0⟩) N 12, [.rows own true 12 N (opRow ls), .rows true true 12 N (opRow ls)]))) := by kernel_rfl
def twF : List Value → Mem → Option (Ans (Value × Mem))
  | [.slice none 0 0], [] => some (.out (.slice none 0 0, [.no]))
  | [.slice (some ⟨0, 0, some 0⟩) N 12], [.rows own true 12 N2 row] => some (.br (Nat.beq N N2 && (okOps N row && decide (N ≤ 1500000))) (.br (Nat.beq N 0) (.out (.slice none 0 0, [.rows own true 12 N (opRow (opsOf N row)), .no])) (.out (.slice (some ⟨1, 0, some 0⟩) N 12, [.rows own true 12 N (opRow (opsOf N row)), .rows true true 12 N (opRow (opsOf N row))]))) .fail)
  | _, _ => none
def Ctw (P : Program) : Cx := (Cdc P).addF 10 twF
theorem oktw : CxOk (Ctw Try.prog) := Cx.addF_ok okdc fun args m ans v m' h hr => by
  unfold twF at h
  split at h
  · simp only [Option.some.injEq] at h
    subst h
    simp only [Ans.res, Option.some.injEq, Prod.mk.injEq] at hr
    obtain ⟨rfl, rfl⟩ := hr
    exact exT_ok okdc Try.func10 (by kernel_rfl) twE0
  · rename_i N own N2 row
    simp only [Option.some.injEq] at h
    subst h
    rcases Ans.br_some hr with ⟨hc, hr1⟩ | ⟨_, hr1⟩
    rotate_left
    · simp [Ans.res] at hr1
    clear hr
    simp only [Bool.and_eq_true, decide_eq_true_eq] at hc
    obtain ⟨c1, c2, c3⟩ := hc
    have c1 := beq_len c1
    subst c1
    have hE := twE1 own N (opsOf N row)
    rw [roomB_ok (by omega), gd_true] at hE
    rcases Ans.br_some hr1 with ⟨hq, hr2⟩ | ⟨hq, hr2⟩
    · rw [hq] at hE
      simp only [Ans.res, Option.some.injEq, Prod.mk.injEq] at hr2
      obtain ⟨rfl, rfl⟩ := hr2
      exact (exT_ok okdc Try.func10 (by kernel_rfl) hE).like ⟨.rows (ops_like c2), trivial⟩
    · rw [hq] at hE
      simp only [Ans.res, Option.some.injEq, Prod.mk.injEq] at hr2
      obtain ⟨rfl, rfl⟩ := hr2
      exact (exT_ok okdc Try.func10 (by kernel_rfl) hE).like ⟨.rows (ops_like c2), trivial⟩
  · cases h
end Go.Proofs.Ytcefeamjnnkahaa
