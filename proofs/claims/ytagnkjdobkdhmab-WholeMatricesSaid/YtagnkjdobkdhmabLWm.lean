/-
  The loop of the statement WholeMatrices. Nothing here is trusted.
-/
import Derived.Test.YtagnkjdobkdhmabWmC
namespace Go.Proofs.Ytagnkjdobkdhmab
open Go Vx

def wmlX (P : Program) : Code := (loopsOf P 7 35).headD .skip
theorem wmlX_eq : loopsOf Try.prog 7 35 = [wmlX Try.prog] := by kernel_rfl
def wmlH (b0 : N9) (b1 : N9) (b2 : S3) (b3 : M3) (b4 : M3) (b5 : V3) (b6 : M3) (b7 : V3) (b8 : V3) (b9 : V3) (b10 : M3) (b11 : M3) (b12 : M3) (b13 : V3) (b14 : V3) (b15 : V3) (b16 : M3) (b17 : V3) (b19 : M3) (b20 : M3) (g : M3) (w : M3) (n : Int) (i : Int) : St := stOf 320 [(43, .pointer (some ⟨18, 0, none⟩)), (48, vI n), (50, .pointer (some ⟨21, 0, none⟩)), (51, vI i)] [.cells true 0 b0.cells, .cells true 0 b1.cells, .cells true 0 b2.cells, .cells true 0 b3.cells, .cells true 0 b4.cells, .cells true 0 b5.cells, .cells true 0 b6.cells, .cells true 0 b7.cells, .cells true 0 b8.cells, .cells true 0 b9.cells, .cells true 0 b10.cells, .cells true 0 b11.cells, .cells true 0 b12.cells, .cells true 0 b13.cells, .cells true 0 b14.cells, .cells true 0 b15.cells, .cells true 0 b16.cells, .cells true 0 b17.cells, .cells true 0 g.cells, .cells true 0 b19.cells, .cells true 0 b20.cells, .cells true 0 w.cells]
theorem wmlR (b0 : N9) (b1 : N9) (b2 : S3) (b3 : M3) (b4 : M3) (b5 : V3) (b6 : M3) (b7 : V3) (b8 : V3) (b9 : V3) (b10 : M3) (b11 : M3) (b12 : M3) (b13 : V3) (b14 : V3) (b15 : V3) (b16 : M3) (b17 : V3) (b19 : M3) (b20 : M3) (g : M3) (w : M3) (n : Int) (i : Int) : roundR ((CCm Try.prog).at 7) 40 (wmlX Try.prog) [43, 48, 50, 51] [10, 48, 50] 22 (wmlH b0 b1 b2 b3 b4 b5 b6 b7 b8 b9 b10 b11 b12 b13 b14 b15 b16 b17 b19 b20 g w n i) =
    match decide (i < n) with
    | true => match w.eqB M3.one with
      | true => some (.ret, stOf 320 [(10, .bool false), (48, vI n), (50, .pointer (some ⟨21, 0, none⟩))] [.cells true 0 b0.cells, .cells true 0 b1.cells, .cells true 0 b2.cells, .cells true 0 b3.cells, .cells true 0 b4.cells, .cells true 0 b5.cells, .cells true 0 b6.cells, .cells true 0 b7.cells, .cells true 0 b8.cells, .cells true 0 b9.cells, .cells true 0 b10.cells, .cells true 0 b11.cells, .cells true 0 b12.cells, .cells true 0 b13.cells, .cells true 0 b14.cells, .cells true 0 b15.cells, .cells true 0 b16.cells, .cells true 0 b17.cells, .cells true 0 g.cells, .cells true 0 b19.cells, .cells true 0 b20.cells, .cells true 0 w.cells])
      | false => some (.normal, wmlH b0 b1 b2 b3 b4 b5 b6 b7 b8 b9 b10 b11 b12 b13 b14 b15 b16 b17 b19 b20 g (w.mul g).w n (W (i + 1)))
    | false => some (.exit 0, stOf 320 [(48, vI n), (50, .pointer (some ⟨21, 0, none⟩))] [.cells true 0 b0.cells, .cells true 0 b1.cells, .cells true 0 b2.cells, .cells true 0 b3.cells, .cells true 0 b4.cells, .cells true 0 b5.cells, .cells true 0 b6.cells, .cells true 0 b7.cells, .cells true 0 b8.cells, .cells true 0 b9.cells, .cells true 0 b10.cells, .cells true 0 b11.cells, .cells true 0 b12.cells, .cells true 0 b13.cells, .cells true 0 b14.cells, .cells true 0 b15.cells, .cells true 0 b16.cells, .cells true 0 b17.cells, .cells true 0 g.cells, .cells true 0 b19.cells, .cells true 0 b20.cells, .cells true 0 w.cells]) := by kernel_rfl
structure wmlG where
  (b0 : N9) (b1 : N9) (b2 : S3) (b3 : M3) (b4 : M3) (b5 : V3) (b6 : M3) (b7 : V3) (b8 : V3) (b9 : V3) (b10 : M3) (b11 : M3) (b12 : M3) (b13 : V3) (b14 : V3) (b15 : V3) (b16 : M3) (b17 : V3) (b19 : M3) (b20 : M3) (g : M3) (w : M3) (n : Int) (i : Int)
def wmlO (b0 : N9) (b1 : N9) (b2 : S3) (b3 : M3) (b4 : M3) (b5 : V3) (b6 : M3) (b7 : V3) (b8 : V3) (b9 : V3) (b10 : M3) (b11 : M3) (b12 : M3) (b13 : V3) (b14 : V3) (b15 : V3) (b16 : M3) (b17 : V3) (b19 : M3) (b20 : M3) (g : M3) (_ : M3) (n : Int) (_ : Int) : Exit × St :=
  (.exit 0, stOf 320 [(48, vI n), (50, .pointer (some ⟨21, 0, none⟩))] [.cells true 0 b0.cells, .cells true 0 b1.cells, .cells true 0 b2.cells, .cells true 0 b3.cells, .cells true 0 b4.cells, .cells true 0 b5.cells, .cells true 0 b6.cells, .cells true 0 b7.cells, .cells true 0 b8.cells, .cells true 0 b9.cells, .cells true 0 b10.cells, .cells true 0 b11.cells, .cells true 0 b12.cells, .cells true 0 b13.cells, .cells true 0 b14.cells, .cells true 0 b15.cells, .cells true 0 b16.cells, .cells true 0 b17.cells, .cells true 0 g.cells, .cells true 0 b19.cells, .cells true 0 b20.cells, .cells true 0 (g.pow n.toNat).cells])
theorem wmlL (b0 : N9) (b1 : N9) (b2 : S3) (b3 : M3) (b4 : M3) (b5 : V3) (b6 : M3) (b7 : V3) (b8 : V3) (b9 : V3) (b10 : M3) (b11 : M3) (b12 : M3) (b13 : V3) (b14 : V3) (b15 : V3) (b16 : M3) (b17 : V3) (b19 : M3) (b20 : M3) (g : M3) (w : M3) (n : Int) (i : Int) (hg : (wmI g w n i) = true) : LoopSem Try.prog (wmlX Try.prog) (wmlH b0 b1 b2 b3 b4 b5 b6 b7 b8 b9 b10 b11 b12 b13 b14 b15 b16 b17 b19 b20 g w n i) (wmlO b0 b1 b2 b3 b4 b5 b6 b7 b8 b9 b10 b11 b12 b13 b14 b15 b16 b17 b19 b20 g w n i).1 (wmlO b0 b1 b2 b3 b4 b5 b6 b7 b8 b9 b10 b11 b12 b13 b14 b15 b16 b17 b19 b20 g w n i).2 := by
  refine loop_rule (C := CCm Try.prog) okCm (f := 7) (loopsOf_in (k := 35) wmlX_eq) 40 [43, 48, 50, 51] [10, 48, 50] 22 (fun g : wmlG => wmlH g.b0 g.b1 g.b2 g.b3 g.b4 g.b5 g.b6 g.b7 g.b8 g.b9 g.b10 g.b11 g.b12 g.b13 g.b14 g.b15 g.b16 g.b17 g.b19 g.b20 g.g g.w g.n g.i) (fun g => (g.n - g.i).toNat) (fun g => (wmI g.g g.w g.n g.i) = true) (fun g => wmlO g.b0 g.b1 g.b2 g.b3 g.b4 g.b5 g.b6 g.b7 g.b8 g.b9 g.b10 g.b11 g.b12 g.b13 g.b14 g.b15 g.b16 g.b17 g.b19 g.b20 g.g g.w g.n g.i) (fun _ => rfl) ?_ ⟨b0, b1, b2, b3, b4, b5, b6, b7, b8, b9, b10, b11, b12, b13, b14, b15, b16, b17, b19, b20, g, w, n, i⟩ hg
  clear hg
  rintro ⟨b0, b1, b2, b3, b4, b5, b6, b7, b8, b9, b10, b11, b12, b13, b14, b15, b16, b17, b19, b20, g, w, n, i⟩ hg
  simp only at hg
  simp only [wmlR]
  by_cases hi : i < n
  · have hd : decide (i < n) = true := by simpa using hi
    rw [hd]
    obtain ⟨g1, g2⟩ := wm_step hg hi
    rw [g1]
    obtain ⟨q1, q2, q3, q4, q5⟩ := wmI_iff.1 hg
    have hb := M3.ordI_bd g
    have hw : W (i + 1) = i + 1 := W_in (by omega)
    left
    refine ⟨⟨b0, b1, b2, b3, b4, b5, b6, b7, b8, b9, b10, b11, b12, b13, b14, b15, b16, b17, b19, b20, g, (w.mul g).w, n, i + 1⟩, by simp only [hw], g2, by simp only; omega, by unfold wmlO; rfl⟩
  · have hd : decide (i < n) = false := by simpa using hi
    rw [hd]
    right
    have hw := wm_end hg hi
    unfold wmlO
    rw [← hw]
    exact ⟨by first | trivial | rfl, by simp⟩
def wmlS (st : St) : Option (Ans (Exit × St)) :=
  match sized st 320 22 && (ptrIs st.tmps[43]? 18 && (ptrIs st.tmps[50]? 21)), intAt st.tmps[48]?, intAt st.tmps[51]?, n9Cells (ownCells st.mem[0]?), n9Cells (ownCells st.mem[1]?), s3Cells (ownCells st.mem[2]?), matCells (ownCells st.mem[3]?), matCells (ownCells st.mem[4]?), vecCells (ownCells st.mem[5]?), matCells (ownCells st.mem[6]?), vecCells (ownCells st.mem[7]?), vecCells (ownCells st.mem[8]?), vecCells (ownCells st.mem[9]?), matCells (ownCells st.mem[10]?), matCells (ownCells st.mem[11]?), matCells (ownCells st.mem[12]?), vecCells (ownCells st.mem[13]?), vecCells (ownCells st.mem[14]?), vecCells (ownCells st.mem[15]?), matCells (ownCells st.mem[16]?), vecCells (ownCells st.mem[17]?), matCells (ownCells st.mem[18]?), matCells (ownCells st.mem[19]?), matCells (ownCells st.mem[20]?), matCells (ownCells st.mem[21]?) with
  | true, some n, some i, some b0, some b1, some b2, some b3, some b4, some b5, some b6, some b7, some b8, some b9, some b10, some b11, some b12, some b13, some b14, some b15, some b16, some b17, some g, some b19, some b20, some w => some (.br (wmI g w n i) (.out (.exit 0, stOf 320 [(48, vI n), (50, .pointer (some ⟨21, 0, none⟩))] [.cells true 0 b0.cells, .cells true 0 b1.cells, .cells true 0 b2.cells, .cells true 0 b3.cells, .cells true 0 b4.cells, .cells true 0 b5.cells, .cells true 0 b6.cells, .cells true 0 b7.cells, .cells true 0 b8.cells, .cells true 0 b9.cells, .cells true 0 b10.cells, .cells true 0 b11.cells, .cells true 0 b12.cells, .cells true 0 b13.cells, .cells true 0 b14.cells, .cells true 0 b15.cells, .cells true 0 b16.cells, .cells true 0 b17.cells, .cells true 0 g.cells, .cells true 0 b19.cells, .cells true 0 b20.cells, .cells true 0 (g.pow n.toNat).cells])) .fail)
  | _, _, _, _, _, _, _, _, _, _, _, _, _, _, _, _, _, _, _, _, _, _, _, _, _ => none
theorem wmlK {st : St} {ans : Ans (Exit × St)} {e : Exit} {s : St} (h : wmlS st = some ans) (hr : ans.res = some (e, s)) : LoopSem Try.prog (wmlX Try.prog) st e s := by
  unfold wmlS at h
  split at h
  · rename_i n i b0 b1 b2 b3 b4 b5 b6 b7 b8 b9 b10 b11 b12 b13 b14 b15 b16 b17 g b19 b20 w hb h_n h_i h_b0 h_b1 h_b2 h_b3 h_b4 h_b5 h_b6 h_b7 h_b8 h_b9 h_b10 h_b11 h_b12 h_b13 h_b14 h_b15 h_b16 h_b17 h_g h_b19 h_b20 h_w
    simp only [Bool.and_eq_true] at hb
    obtain ⟨hb0, hb1, hb2⟩ := hb
    simp only [Option.some.injEq] at h
    subst h
    rcases Ans.br_some hr with ⟨hc, hr⟩ | ⟨_, hr⟩
    · have hc := hc
      have hm0 := ownCells_spec (n9Cells_spec h_b0) (by simp [N9.cells])
      have hm1 := ownCells_spec (n9Cells_spec h_b1) (by simp [N9.cells])
      have hm2 := ownCells_spec (s3Cells_spec h_b2) (by simp [S3.cells])
      have hm3 := ownCells_spec (matCells_spec h_b3) (by simp [M3.cells])
      have hm4 := ownCells_spec (matCells_spec h_b4) (by simp [M3.cells])
      have hm5 := ownCells_spec (vecCells_spec h_b5) (by simp [V3.cells])
      have hm6 := ownCells_spec (matCells_spec h_b6) (by simp [M3.cells])
      have hm7 := ownCells_spec (vecCells_spec h_b7) (by simp [V3.cells])
      have hm8 := ownCells_spec (vecCells_spec h_b8) (by simp [V3.cells])
      have hm9 := ownCells_spec (vecCells_spec h_b9) (by simp [V3.cells])
      have hm10 := ownCells_spec (matCells_spec h_b10) (by simp [M3.cells])
      have hm11 := ownCells_spec (matCells_spec h_b11) (by simp [M3.cells])
      have hm12 := ownCells_spec (matCells_spec h_b12) (by simp [M3.cells])
      have hm13 := ownCells_spec (vecCells_spec h_b13) (by simp [V3.cells])
      have hm14 := ownCells_spec (vecCells_spec h_b14) (by simp [V3.cells])
      have hm15 := ownCells_spec (vecCells_spec h_b15) (by simp [V3.cells])
      have hm16 := ownCells_spec (matCells_spec h_b16) (by simp [M3.cells])
      have hm17 := ownCells_spec (vecCells_spec h_b17) (by simp [V3.cells])
      have hm18 := ownCells_spec (matCells_spec h_g) (by simp [M3.cells])
      have hm19 := ownCells_spec (matCells_spec h_b19) (by simp [M3.cells])
      have hm20 := ownCells_spec (matCells_spec h_b20) (by simp [M3.cells])
      have hm21 := ownCells_spec (matCells_spec h_w) (by simp [M3.cells])
      have hml : st.mem.length = 22 := by unfold sized at hb0; rw [Bool.and_eq_true] at hb0; exact Nat.eq_of_beq_eq_true hb0.2
      have hm : st.mem = [.cells true 0 b0.cells, .cells true 0 b1.cells, .cells true 0 b2.cells, .cells true 0 b3.cells, .cells true 0 b4.cells, .cells true 0 b5.cells, .cells true 0 b6.cells, .cells true 0 b7.cells, .cells true 0 b8.cells, .cells true 0 b9.cells, .cells true 0 b10.cells, .cells true 0 b11.cells, .cells true 0 b12.cells, .cells true 0 b13.cells, .cells true 0 b14.cells, .cells true 0 b15.cells, .cells true 0 b16.cells, .cells true 0 b17.cells, .cells true 0 g.cells, .cells true 0 b19.cells, .cells true 0 b20.cells, .cells true 0 w.cells] := mem_of hml (fun j hj => by
        simp only [List.length_cons, List.length_nil] at hj
        have : j = 0 ∨ j = 1 ∨ j = 2 ∨ j = 3 ∨ j = 4 ∨ j = 5 ∨ j = 6 ∨ j = 7 ∨ j = 8 ∨ j = 9 ∨ j = 10 ∨ j = 11 ∨ j = 12 ∨ j = 13 ∨ j = 14 ∨ j = 15 ∨ j = 16 ∨ j = 17 ∨ j = 18 ∨ j = 19 ∨ j = 20 ∨ j = 21 := by omega
        rcases this with rfl | rfl | rfl | rfl | rfl | rfl | rfl | rfl | rfl | rfl | rfl | rfl | rfl | rfl | rfl | rfl | rfl | rfl | rfl | rfl | rfl | rfl
        · exact hm0
        · exact hm1
        · exact hm2
        · exact hm3
        · exact hm4
        · exact hm5
        · exact hm6
        · exact hm7
        · exact hm8
        · exact hm9
        · exact hm10
        · exact hm11
        · exact hm12
        · exact hm13
        · exact hm14
        · exact hm15
        · exact hm16
        · exact hm17
        · exact hm18
        · exact hm19
        · exact hm20
        · exact hm21)
      have hk := stOf_keep hb0 [(43, .pointer (some ⟨18, 0, none⟩)), (48, vI n), (50, .pointer (some ⟨21, 0, none⟩)), (51, vI i)] (by
        intro x hx
        simp only [List.mem_cons, List.not_mem_nil, or_false] at hx
        rcases hx with rfl | rfl | rfl | rfl
        · exact ptrIs_spec hb1
        · exact intAt_spec h_n
        · exact ptrIs_spec hb2
        · exact intAt_spec h_i) hm
      have key := wmlL b0 b1 b2 b3 b4 b5 b6 b7 b8 b9 b10 b11 b12 b13 b14 b15 b16 b17 b19 b20 g w n i hc
      unfold wmlH at key
      rw [← hk] at key
      have key := LoopSem.clean key
      unfold wmlO at key
      simp only [Ans.res, Option.some.injEq, Prod.mk.injEq] at hr
      obtain ⟨rfl, rfl⟩ := hr
      exact key
    · simp [Ans.res] at hr
  · cases h

end Go.Proofs.Ytagnkjdobkdhmab
