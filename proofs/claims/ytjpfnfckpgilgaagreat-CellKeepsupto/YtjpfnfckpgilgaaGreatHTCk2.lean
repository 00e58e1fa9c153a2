/-
  facetlaw11.CellKeeps: the proof. Nothing here is trusted.
-/
import Derived.Test.YtjpfnfckpgilgaaGreatHTCk1
import Derived.Test.YtjpfnfckpgilgaaGreatKak
namespace Go.Proofs.YtjpfnfckpgilgaaGreat
open Go Vx Go.RowKit

def ckA (own : Bool) (n : Nat) (xs : List O3) (b : Bool) : St := stOf 59 [(4, .bool b)] [.rows own true 12 n (opRow xs)]
def lkn (n l : Nat) : Bool := Nat.ble (0 + n) l && true
def lk2 (n l m : Nat) : Bool := Nat.ble (0 + n) l && (Nat.ble (0 + m) m && true)
def dkT (n : Nat) (row : Nat → List Value) : Bool := Nat.beq n n && (okOps n row && decide (n ≤ 4000000000000000000))
theorem ckP2 (own : Bool) (n : Nat) (xs : List O3) (h : G6) (l : Nat) (Y : List O3) : roundR ((Ckb Tryz.prog).into 3 1) 60 (seqDrop 3 (ckB Tryz.prog)) [4] [4] [.fix 0] [.fix 0] (ckS own n xs h l (opRow Y)) =
    gd (leI (n : Int) l) (gd (lkn n l) (gd (oT n (opRow Y)) (gd (lk n) (gd (dkT n (opRow xs)) (match kpI (opsOf n (opRow Y)) h == kpI (opsOf n (opRow xs)) h with
      | true => match kpe (opsOf n (opRow Y)) h == kpe (opsOf n (opRow xs)) h with
        | true => gd (leI (n : Int) l) (gd (lk2 n l n) (gd (ssT n n (opRow Y) (opRow xs)) (match sameB (opsOf n (opRow Y)) (opsOf n (opRow xs)) with
          | true => gd (boundsI (n : Int) l) (some (.ret, ckA own n xs (((Y[n]?).getD O3.zero).t.x == 9)))
          | false => some (.ret, ckA own n xs false))))
        | false => some (.ret, ckA own n xs false)
      | false => some (.ret, ckA own n xs false)))))) := by kernel_rfl
theorem ckRet (own : Bool) (n : Nat) (xs : List O3) : (retA Tryz.prog Tryz.f3 (.ret, ckA own n xs true)).res = some (.bool true, [.rows own true 12 n (opRow xs)]) := by kernel_rfl
theorem ckE0 (h : G6) : exT ((Ckt Tryz.prog []).at 3) 60 Tryz.f3 [h.v, .slice none 0 0] [] [] = (match kpI [] h == false with
    | true => match kpe [] h == leastN h.mck 5 with
      | true => some (.bool true, [])
      | false => some (.bool false, [])
    | false => some (.bool false, [])) := by kernel_rfl
theorem ops_front (X : List O3) (o : O3) : opsOf X.length (opRow (X ++ [o])) = X := by
  apply List.ext_getElem?
  intro i
  unfold opsOf opRow
  rw [List.getElem?_map]
  by_cases hi : i < X.length
  · rw [List.getElem?_range hi]
    simp only [Option.map_some]
    rw [List.getElem?_append_left hi, List.getElem?_eq_getElem hi]
    rfl
  · rw [List.getElem?_eq_none (by simp; omega), List.getElem?_eq_none (by omega)]; rfl
theorem ck_rest (own : Bool) (X : List O3) (m : G6) (hn : X.length ≤ 1048576) : CodeSem Tryz.prog 1 (seqDrop 3 (ckB Tryz.prog)) (ckS own X.length X m (X.length + 1) (opRow (X ++ [o9]))) .ret (ckA own X.length X true) := by
  have r := ckP2 own X.length X m (X.length + 1) (X ++ [o9])
  have t1 : leI (X.length : Int) (X.length + 1) = true := by simp [leI]; omega
  have t2 : lkn X.length (X.length + 1) = true := by simp [lkn, Nat.ble_eq]
  have t3 : oT X.length (opRow (X ++ [o9])) = true := by unfold oT; rw [Nat.beq_refl, okOps_opRow]; rfl
  have t4 : dkT X.length (opRow X) = true := by unfold dkT; rw [Nat.beq_refl, okOps_opRow]; simp; omega
  have t5 : lk2 X.length (X.length + 1) X.length = true := by simp [lk2, Nat.ble_eq]
  have t6 : ssT X.length X.length (opRow (X ++ [o9])) (opRow X) = true := by unfold ssT; rw [Nat.beq_refl, okOps_opRow, okOps_opRow]; simp; omega
  have t7 : boundsI (X.length : Int) (X.length + 1) = true := bd_ok' (by omega)
  have t8 : ((X ++ [o9])[X.length]?).getD O3.zero = o9 := by simp
  rw [t1, t2, t3, lk_true, t4, opsOf_opRow, ops_front, t5, t6, t7, t8, sameB_refl] at r
  simp only [gd_true, beq_self_eq_true] at r
  exact end_rule (C := Ckb Tryz.prog) okkb (f := 3) (B := 1) (bodyOf_in Tryz.func3 ckB_eq) r
theorem ck_sem (own : Bool) (X : List O3) (m : G6) (hn : X.length ≤ 1048576) : MemSem Tryz.prog 3 [m.v, .slice (some ⟨0, 0, some 0⟩) X.length 12] [.rows own true 12 X.length (opRow X)] (.bool true) [.rows own true 12 X.length (opRow X)] := by
  have body0 : ∀ p, InBody ((Ckt Tryz.prog p).into 3 1) (ckB Tryz.prog) := fun p => Or.inl ⟨Tryz.f3, ckB Tryz.prog, Tryz.func3, ckB_eq, fun _ hx => hx⟩
  have tw : twT X.length (opRow X) = true := by unfold twT; rw [Nat.beq_refl, okOps_opRow]; simp; omega
  by_cases h0 : X = []
  · subst h0
    have r1 := ckP0 own 0 [] m
    rw [lk_true, gd_true, show twT 0 (opRow []) = true from tw, gd_true] at r1
    have r1' : segR ((Ckt Tryz.prog [true, true]).into 3 1) 60 3 (ckB Tryz.prog) [1, 2, 4, 5] [.fix 0, .slot 2, .slot 5] (enter Tryz.f3 [m.v, .slice (some ⟨0, 0, some 0⟩) 0 12] [.rows own true 12 0 (opRow [])]) = some (ckS own 0 [] m 1 (chop 12 0 o9.cells)) := r1
    exact body_mem (P := Tryz.prog) (f := 3) (m := [.rows own true 12 0 (opRow [])]) Tryz.func3 ckB_eq (by kernel_rfl) (seg_rule (C := Ckt Tryz.prog [true, true]) (okkt _) (f := 3) (B := 1) (k := 3) (body0 _) r1' (CodeSem.like (ck_rest own [] m (by simp)) ⟨rfl, .refl _, .refl _, like_chop o9, trivial⟩)) (ckRet own 0 [])
  · have r1 := ckP1 own X.length X m
    have hb : Nat.beq X.length 0 = false := by
      cases X with
      | nil => exact absurd rfl h0
      | cons x l => rfl
    rw [lk_true, gd_true, tw, gd_true, hb, opsOf_opRow, show rT X.length = true by unfold rT; rw [Nat.beq_refl]; simp; omega] at r1
    have r1' : segR ((Ckt Tryz.prog [true, false]).into 3 1) 60 3 (ckB Tryz.prog) [1, 2, 4, 5] [.fix 0, .slot 2, .slot 5] (enter Tryz.f3 [m.v, .slice (some ⟨0, 0, some 0⟩) X.length 12] [.rows own true 12 X.length (opRow X)]) = some (ckS own X.length X m (X.length + 1) (catR X.length (opRow X) (chop 12 0 o9.cells))) := r1
    exact body_mem (P := Tryz.prog) (f := 3) (m := [.rows own true 12 X.length (opRow X)]) Tryz.func3 ckB_eq (by kernel_rfl) (seg_rule (C := Ckt Tryz.prog [true, false]) (okkt _) (f := 3) (B := 1) (k := 3) (body0 _) r1' (CodeSem.like (ck_rest own X m hn) ⟨rfl, .refl _, .refl _, like_nr rfl o9, trivial⟩)) (ckRet own X.length X)
theorem ck_nil (m : G6) : MemSem Tryz.prog 3 [m.v, .slice none 0 0] [] (.bool true) [] := by
  have r := ckE0 m
  have h5 : kpe [] m = leastN m.mck 5 := by
    unfold kpe
    rw [show chkI ([] : List O3) = 5 by kernel_rfl]
  have h6 : kpI [] m = false := by unfold kpI; rw [h5, g5]
  rw [h5, h6] at r
  simp only [beq_self_eq_true] at r
  exact exT_ok (okkt []) Tryz.func3 (by kernel_rfl) r
theorem calls_at1 {W : World} {a : Addr} {xs : List O3} {cap : Nat} {f : FuncId} {m' : Mem} {x : Value} {more : List Value} (h : MemSem Tryz.prog f (x :: .slice (some ⟨0, 0, some 0⟩) xs.length 12 :: more) [.rows false true 12 xs.length (opRow xs)] (.bool true) m') (ha : OpsAt W a xs) (hc : xs.length ≤ cap) (hx : Vx.plain x = true) (hm : RL (R (oneRen (opsPlace a xs.length))) more more) :
    Calls Tryz.prog f (x :: .slice (some a) xs.length cap :: more).toArray W fun e W' => e = .returned (.bool true) ∧ Below W.heap.size W W' := by
  refine (h.2 W _ _ (x :: .slice (some a) xs.length cap :: more) W ⟨(R_plain hx).2 rfl, ops_arg ha.1 hc, hm⟩ (ops_rel ha)).mono ?_
  rintro e w' ⟨v', r', rfl, h1, h2, h3⟩
  rw [(R_plain (v := .bool true) rfl).1 h1]
  exact ⟨rfl, ⟨h2.os, h2.tape, h2.output, h2.size, fun k hk => h2.kept k hk⟩⟩
theorem cellKeeps_nil (W : World) (m : G6) : Calls Tryz.prog 3 #[m.v, .slice none 0 0] W fun e W' => e = .returned (.bool true) ∧ Below W.heap.size W W' :=
  ((MemSem.plain (ck_nil m) (fun x hx => by
    simp only [List.mem_cons, List.not_mem_nil, or_false] at hx
    rcases hx with rfl | rfl <;> rfl) rfl).2 W).mono fun _ _ hq => ⟨hq.1, hq.2.1⟩
theorem cellKeeps_walk {W : World} {a : Addr} {xs : List O3} {cap : Nat} (hn : xs.length ≤ 1048576) (ha : OpsAt W a xs) (hc : xs.length ≤ cap) (m : G6) : Calls Tryz.prog 3 #[m.v, .slice (some a) xs.length cap] W fun e W' => e = .returned (.bool true) ∧ Below W.heap.size W W' :=
  calls_at1 (ck_sem false xs m hn) ha hc (x := m.v) (more := []) rfl trivial
end Go.Proofs.YtjpfnfckpgilgaaGreat
