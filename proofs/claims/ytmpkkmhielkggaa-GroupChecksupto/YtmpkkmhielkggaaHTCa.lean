/-
  facetref05.DocFind, told; facetlaw05.GroupChecks, run. Nothing here is trusted.
-/
import Derived.Test.YtmpkkmhielkggaaHTQd
import Derived.Test.YtmpkkmhielkggaaKas
import Derived.Test.YtmpkkmhielkggaaKar
namespace Go.Proofs.Ytmpkkmhielkggaa
open Go Vx Go.RowKit
/-- DocCheck, Maps and Place only look. -/
def Cga (P : Program) : Cx := (((Cpb P).looks 21 [true]).looks 47 [true]).looks 49 [true]
theorem okga : CxOk (Cga Try.prog) := Cx.looks_ok (Cx.looks_ok (Cx.looks_ok okpb _ _) _ _) _ _
def dfD (o : O3) : Int := leastL (opsOf 1 (chop 12 0 o.cells)) 0
theorem dfD_eq (o : O3) : dfD o = o.ck := by
  show leastL [o] 0 = o.ck
  simp [leastL, leastN]
def dfL (own : Bool) (N : Nat) (ls : List O3) (o : O3) (e : Int) : Option (Value × Mem) := match e != 0 with
  | true => some (twoI 0 e, [.rows own true 12 N (opRow ls)])
  | false => gd (lk N) (gd (pT N (opRow ls)) (match decide (placeI (opsOf N (opRow ls)) o ≥ 0) with
    | true => some (twoI (placeI (opsOf N (opRow ls)) o) 0, [.rows own true 12 N (opRow ls)])
    | false => some (twoI 0 9, [.rows own true 12 N (opRow ls)])))
theorem dfE1 (own : Bool) (N : Nat) (ls : List O3) (o : O3) : exT ((Cga Try.prog).at 22) 60 Try.f22 [.slice (some ⟨0, 0, some 0⟩) N 12, o.v] [.rows own true 12 N (opRow ls)] [.fix 0] =
    gd (lk N) (gd (pT N (opRow ls)) (match chkI (opsOf N (opRow ls)) == 0 with
      | true => dfL own N ls o (dfD o)
      | false => match dfD o != 0 with
        | true => match decide (dfD o < chkI (opsOf N (opRow ls))) with
          | true => dfL own N ls o (dfD o)
          | false => dfL own N ls o (chkI (opsOf N (opRow ls)))
        | false => dfL own N ls o (chkI (opsOf N (opRow ls))))) := by kernel_rfl
theorem dfE0 (o : O3) : exT ((Cga Try.prog).at 22) 60 Try.f22 [.slice none 0 0, o.v] [] [] =
    (match dfD o != 0 with
      | true => match decide (dfD o < 5) with
        | true => match dfD o != 0 with
          | true => some (twoI 0 (dfD o), [])
          | false => some (twoI 0 9, [])
        | false => some (twoI 0 5, [])
      | false => some (twoI 0 5, [])) := by kernel_rfl
theorem dfE (own : Bool) (ls : List O3) (o : O3) (hN : ls.length ≤ 4611686018427387904) : exT ((Cga Try.prog).at 22) 60 Try.f22 [.slice (some ⟨0, 0, some 0⟩) ls.length 12, o.v] [.rows own true 12 ls.length (opRow ls)] [.fix 0] = some (twoI (fndV ls o) (fndE ls o), [.rows own true 12 ls.length (opRow ls)]) := by
  have tp : pT ls.length (opRow ls) = true := by unfold pT; rw [Nat.beq_refl, okOps_opRow]; simpa using hN
  rw [dfE1, lk_true, gd_true, tp, gd_true, opsOf_row rfl, dfD_eq]
  unfold dfL
  rw [lk_true, gd_true, tp, gd_true, opsOf_row rfl]
  unfold fndV fndE
  by_cases h0 : chkI ls = 0
  · have hp := fnd_place h0 o
    rw [h0]
    by_cases h1 : o.ck = 0
    · rw [h1]
      rw [hp.1, hp.2]
      cases decide (placeI ls o ≥ 0) <;> rfl
    · have e1 : leastN 0 o.ck = o.ck := rfl
      have b1 : (o.ck != 0) = true := by simpa using h1
      have b2 : (o.ck == 0) = false := by simpa using h1
      rw [e1, b1, b2]
      rfl
  · have b0 : (chkI ls == 0) = false := by simpa using h0
    have b0' : (chkI ls != 0) = true := by simpa using h0
    rw [b0]
    have hl : leastN (chkI ls) o.ck ≠ 0 := fun h => h0 (leastN_zero.1 h).1
    have bl : (leastN (chkI ls) o.ck == 0) = false := by simpa using hl
    rw [bl]
    have hd : leastN (chkI ls) o.ck = bif o.ck != 0 then (bif decide (o.ck < chkI ls) then o.ck else chkI ls) else chkI ls := by
      unfold leastN
      rw [b0]
      cases o.ck != 0 <;> cases decide (o.ck < chkI ls) <;> rfl
    by_cases h1 : o.ck = 0
    · have b1 : (o.ck != 0) = false := by simpa using h1
      rw [b1] at hd
      rw [hd, b1, b0']
      rfl
    · have b1 : (o.ck != 0) = true := by simpa using h1
      rw [b1] at hd
      rw [b1]
      cases hq : decide (o.ck < chkI ls) with
      | true => rw [hq] at hd; rw [hd]; rfl
      | false => rw [hq] at hd; rw [hd, b0']; rfl
theorem dfEn (o : O3) : exT ((Cga Try.prog).at 22) 60 Try.f22 [.slice none 0 0, o.v] [] [] = some (twoI 0 (leastN 5 o.ck), []) := by
  rw [dfE0, dfD_eq]
  rcases ck_vals o with h | h | h <;> rw [h] <;> rfl
def dfF : List Value → Mem → Option (Ans (Value × Mem))
  | [.slice none 0 0, .agg co], [] => match opCells co.toList with
    | some o => some (.out (twoI 0 (leastN 5 o.ck), []))
    | none => none
  | [.slice (some ⟨0, 0, some 0⟩) N 12, .agg co], [.rows own true 12 N2 row] => match opCells co.toList with
    | some o => some (.br (Nat.beq N N2 && (okOps N row && decide (N ≤ 4611686018427387904))) (.out (twoI (fndV (opsOf N row) o) (fndE (opsOf N row) o), [.rows own true 12 N (opRow (opsOf N row))])) .fail)
    | none => none
  | _, _ => none
def Cgb (P : Program) : Cx := (Cpb P).addF 22 dfF
theorem okgb : CxOk (Cgb Try.prog) := Cx.addF_ok okpb fun args m ans v m' h hr => by
  unfold dfF at h
  split at h
  · rename_i co
    split at h
    · rename_i o ho
      simp only [Option.some.injEq] at h
      subst h
      simp only [Ans.res, Option.some.injEq, Prod.mk.injEq] at hr
      obtain ⟨rfl, rfl⟩ := hr
      have e1 : co = o.cells.toArray := by rw [← opCells_spec ho]
      subst e1
      exact exT_ok okga Try.func22 (by kernel_rfl) (dfEn o)
    · cases h
  · rename_i N co own N2 row
    split at h
    · rename_i o ho
      simp only [Option.some.injEq] at h
      subst h
      rcases Ans.br_some hr with ⟨hc, hr1⟩ | ⟨_, hr1⟩
      · clear hr
        simp only [Bool.and_eq_true, decide_eq_true_eq] at hc
        obtain ⟨c1, c2, c3⟩ := hc
        have c1 := beq_len c1
        subst c1
        simp only [Ans.res, Option.some.injEq, Prod.mk.injEq] at hr1
        obtain ⟨rfl, rfl⟩ := hr1
        have e1 : co = o.cells.toArray := by rw [← opCells_spec ho]
        subst e1
        have hl := opsOf_length N row
        have hE := dfE own (opsOf N row) o (by rw [hl]; exact c3)
        rw [hl] at hE
        exact (exT_ok okga Try.func22 (by kernel_rfl) hE).like ⟨.rows (ops_like c2), trivial⟩
      · simp [Ans.res] at hr1
    · cases h
  · cases h
/-! The law -/
def Cgc (P : Program) (p : List Bool) : Cx := (((((Cgb P).makes 13 p).lend 14).lend 15).lend 21).lend 22
theorem okgc (p : List Bool) : CxOk (Cgc Try.prog p) := Cx.lend_ok (Cx.lend_ok (Cx.lend_ok (Cx.lend_ok (Cx.makes_ok okgb _ _) _) _) _) _
def gcFin (own : Bool) (n : Nat) (xs X1 X2 : List O3) (o : O3) : Option (Value × Mem) := match fndV X2 o == fndV X1 o with
  | true => ansR own n xs (fndE X2 o == fndE X1 o)
  | false => ansR own n xs false
theorem gkE1 (own : Bool) (n : Nat) (xs : List O3) (o : O3) : exT ((Cgc Try.prog [true, false]).at 5) 80 Try.f5 [.slice (some ⟨0, 0, some 0⟩) n 12, o.v] [.rows own true 12 n (opRow xs)] [.fix 0] =
    gd (lk n) (gd (twT n (opRow xs)) (gn (Nat.beq n 0) (gd (lk n) (gd (oT n (opRow (opsOf n (opRow xs)))) (gd (lk n) (gd (pT n (opRow xs)) (match chkI (opsOf n (opRow (opsOf n (opRow xs)))) != chkI (opsOf n (opRow xs)) with
      | true => ansR own n xs false
      | false => gd (lk n) (gd (twT n (opRow xs)) (gn (Nat.beq n 0) (gd (lk n) (gd (bI n (opRow (opsOf n (opRow xs)))) (gd (lk n) (gd (bI n (opRow xs)) (gcFin own n xs (opsOf n (opRow xs)) (opsOf n (opRow (opsOf n (opRow xs)))) o)))))))))))))) := by kernel_rfl
theorem gkE0 (o : O3) : exT ((Cgc Try.prog [true]).at 5) 80 Try.f5 [.slice none 0 0, o.v] [] [] = gd (leastN 5 o.ck != 0) (some (.bool (leastN 5 o.ck == leastN 5 o.ck), [])) := by kernel_rfl
theorem gkEz (own : Bool) (o : O3) : exT ((Cgc Try.prog [true]).at 5) 80 Try.f5 [.slice (some ⟨0, 0, some 0⟩) 0 12, o.v] [.rows own true 12 0 (opRow [])] [.fix 0] = gd (leastN 5 o.ck != 0) (match (0 : Int) == fndV [] o with
    | true => ansR own 0 [] (leastN 5 o.ck == fndE [] o)
    | false => ansR own 0 [] false) := by kernel_rfl
theorem least5 (o : O3) : leastN 5 o.ck ≠ 0 := fun h => by have := (leastN_zero.1 h).1; cases this
theorem gk_sem (own : Bool) (xs : List O3) (o : O3) (hn : xs.length ≤ 1048576) : MemSem Try.prog 5 [.slice (some ⟨0, 0, some 0⟩) xs.length 12, o.v] [.rows own true 12 xs.length (opRow xs)] (.bool true) [.rows own true 12 xs.length (opRow xs)] := by
  by_cases h0 : xs = []
  · subst h0
    refine exT_ok (okgc [true]) Try.func5 (by kernel_rfl) (n := 80) (sp := [.fix 0]) ?_
    have b : (leastN 5 o.ck != 0) = true := by simpa using least5 o
    have hc : chkI ([] : List O3) = 5 := by kernel_rfl
    have b2 : (leastN 5 o.ck == 0) = false := by simpa using least5 o
    have e1 : fndV [] o = 0 := by unfold fndV; rw [hc, b2]; rfl
    have e2 : fndE [] o = leastN 5 o.ck := by unfold fndE; rw [hc, b2]; rfl
    have := gkEz own o
    rw [b, gd_true, e1, e2] at this
    simpa [ansR] using this
  · refine exT_ok (okgc [true, false]) Try.func5 (by kernel_rfl) (n := 80) (sp := [.fix 0]) ?_
    have hpos : 1 ≤ xs.length := List.length_pos_iff.2 h0
    have e0 : Nat.beq xs.length 0 = false := by
      cases hb : Nat.beq xs.length 0 with
      | false => rfl
      | true => have := Nat.eq_of_beq_eq_true hb; omega
    have tw : twT xs.length (opRow xs) = true := by unfold twT; rw [Nat.beq_refl, okOps_opRow]; simp; omega
    have tp : pT xs.length (opRow xs) = true := by unfold pT; rw [Nat.beq_refl, okOps_opRow]; simp; omega
    have to : oT xs.length (opRow xs) = true := by unfold oT; rw [Nat.beq_refl, okOps_opRow]; rfl
    have hb : (chkI xs != chkI xs) = false := by simp
    have tb : bI xs.length (opRow xs) = true := bI_ok (by omega)
    rw [gkE1]
    simp only [lk_true, gd_true, tw, e0, gn_false, opsOf_row rfl, to, tp, hb, tb, gcFin, beq_self_eq_true, ansR]
theorem groupChecks_nil (W : World) (o : O3) : Calls Try.prog 5 #[.slice none 0 0, o.v] W fun e W' => e = .returned (.bool true) ∧ Below W.heap.size W W' := by
  have b : (leastN 5 o.ck != 0) = true := by simpa using least5 o
  have hE := gkE0 o
  rw [b, gd_true, beq_self_eq_true] at hE
  have h : PlainSem Try.prog 5 [.slice none 0 0, o.v] (.bool true) := (exT_ok (okgc [true]) Try.func5 (by kernel_rfl) hE).plain (by intro x hx; simp only [List.mem_cons, List.not_mem_nil, or_false] at hx; rcases hx with rfl | rfl <;> rfl) rfl
  exact (h.2 W).mono fun _ _ hq => ⟨hq.1, hq.2.1⟩
theorem groupChecks_walk {W : World} {a : Addr} {xs : List O3} {cap : Nat} (hn : xs.length ≤ 1048576) (ha : OpsAt W a xs) (hc : xs.length ≤ cap) (o : O3) : Calls Try.prog 5 #[.slice (some a) xs.length cap, o.v] W fun e W' => e = .returned (.bool true) ∧ Below W.heap.size W W' :=
  (gk_sem false xs o hn).calls ha hc (more := [o.v]) (more' := [o.v]) ⟨(R_plain (v := o.v) rfl).2 rfl, trivial⟩
theorem groupChecks_nil2 (W : World) (o : O3) {l : List Int} (h : o.cells = intsK .i64 l) : Calls Try.prog 5 #[.slice none 0 0, .agg (intsK .i64 l).toArray] W fun e W' => e = .returned (.bool true) ∧ Below W.heap.size W W' := by
  rw [← h]
  exact groupChecks_nil W o
theorem groupChecks_walk2 {W : World} {a : Addr} {xs : List O3} {cap : Nat} (hn : xs.length ≤ 1048576) (ha : OpsAt W a xs) (hc : xs.length ≤ cap) (o : O3) {l : List Int} (h : o.cells = intsK .i64 l) : Calls Try.prog 5 #[.slice (some a) xs.length cap, .agg (intsK .i64 l).toArray] W fun e W' => e = .returned (.bool true) ∧ Below W.heap.size W W' := by
  rw [← h]
  exact groupChecks_walk hn ha hc o
end Go.Proofs.Ytmpkkmhielkggaa
