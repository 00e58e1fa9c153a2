/-
  Two lists of maps as arguments; facetlaw14.AbsentParts: the whole. Nothing here is trusted.
-/
import Derived.Test.YtjpfnfckpgilgaaHTPaB
namespace Go.Proofs.Ytjpfnfckpgilgaa
open Go Vx Go.RowKit

theorem slice_cap {P : Program} {W : World} {t e : TypeId} {b : Nat} {a : Addr} {n cap : Nat} (ht : P.underlying t = some (.slice e)) (hv : Value.okWide P W .any b t (.slice (some a) n cap)) : (cap : Int) ≤ 9223372036854775807 := by
  unfold Value.okWide at hv
  rw [ht] at hv
  simp only [Cell.okWide, ht, Cell.ok] at hv
  exact hv.2.1
def twoRen (p q : Vx.Place) : Ren := fun b => match b with
  | 0 => some (some p)
  | 1 => some (some q)
  | _ => none
theorem ops_rel2 {W : World} {a b : Addr} {xs ys : List O3} (h : OpsAt W a xs) (k : OpsAt W b ys) : MemRel W (allKeep W) (twoRen (opsPlace a xs.length) (opsPlace b ys.length)) [.rows false true 12 xs.length (opRow xs), .rows false true 12 ys.length (opRow ys)] W := by
  have hb := ops_blk h (twoRen (opsPlace a xs.length) (opsPlace b ys.length))
  have hc := ops_blk k (twoRen (opsPlace a xs.length) (opsPlace b ys.length))
  have key : ∀ {i : Nat} {p : Vx.Place}, twoRen (opsPlace a xs.length) (opsPlace b ys.length) i = some (some p) → (i = 0 ∧ p = opsPlace a xs.length) ∨ (i = 1 ∧ p = opsPlace b ys.length) := fun {i p} hp => by
    unfold twoRen at hp
    split at hp
    · simp only [Option.some.injEq] at hp; exact Or.inl ⟨rfl, hp.symm⟩
    · simp only [Option.some.injEq] at hp; exact Or.inr ⟨rfl, hp.symm⟩
    · cases hp
  refine ⟨rfl, rfl, rfl, Nat.le_refl _, Nat.le_refl _, fun j hj => hj, fun j _ => rfl, fun i hb' => ?_, fun i hb' => ?_, fun i p hp => ?_, fun i p hp ho => ?_, fun i p hp _ _ => ?_, fun i p hp _ hz => ?_, fun i c p q hp _ _ hz => ?_, fun i c p q hp _ ho => ?_⟩
  · cases i with
    | zero => simp at hb'
    | succ i => cases i with
      | zero => simp at hb'
      | succ i => rfl
  · unfold twoRen at hb'
    split at hb' <;> cases hb'
  · rcases key hp with ⟨rfl, rfl⟩ | ⟨rfl, rfl⟩
    · exact ⟨_, rfl, hb⟩
    · exact ⟨_, rfl, hc⟩
  · rcases key hp with ⟨rfl, rfl⟩ | ⟨rfl, rfl⟩ <;> cases ho
  · rcases key hp with ⟨rfl, rfl⟩ | ⟨rfl, rfl⟩
    · exact hb.lt
    · exact hc.lt
  · rcases key hp with ⟨rfl, rfl⟩ | ⟨rfl, rfl⟩ <;> exact absurd rfl hz
  · rcases key hp with ⟨rfl, rfl⟩ | ⟨rfl, rfl⟩ <;> exact absurd rfl hz
  · rcases key hp with ⟨rfl, rfl⟩ | ⟨rfl, rfl⟩ <;> cases ho
theorem ops_argk {r : Ren} {k : Nat} {a : Addr} {n cap : Nat} (hr : r k = some (some (opsPlace a n))) (hs : a.spot = none) (hc : n ≤ cap) : R r (.slice (some ⟨k, 0, some 0⟩) n 12) (.slice (some a) n cap) := by
  refine R_sl_mk hc (Or.inr ⟨opsPlace a n, hr, ?_, hc, fun i hi => ?_, fun _ => rfl, fun _ => rfl, fun h => by cases h⟩)
  · cases a; simp only [Vx.Place.addr, opsPlace, Option.getD_some, Nat.zero_mul, Nat.add_zero] at *; rw [hs]
  · simp only [Option.some.injEq] at hi; subst hi; simp [opsPlace]
theorem calls_two {W : World} {a b : Addr} {xs ys : List O3} {cap cap2 : Nat} {f : FuncId} {m' : Mem} {x : Value} (h : MemSem Try.prog f [.slice (some ⟨0, 0, some 0⟩) xs.length 12, .slice (some ⟨1, 0, some 0⟩) ys.length 12, x] [.rows false true 12 xs.length (opRow xs), .rows false true 12 ys.length (opRow ys)] (.bool true) m') (ha : OpsAt W a xs) (hb : OpsAt W b ys) (hc : xs.length ≤ cap) (hd : ys.length ≤ cap2) (hx : Vx.plain x = true) :
    Calls Try.prog f #[.slice (some a) xs.length cap, .slice (some b) ys.length cap2, x] W fun e W' => e = .returned (.bool true) ∧ Below W.heap.size W W' := by
  refine (h.2 W _ _ [.slice (some a) xs.length cap, .slice (some b) ys.length cap2, x] W ⟨ops_argk rfl ha.1 hc, ops_argk rfl hb.1 hd, (R_plain hx).2 rfl, trivial⟩ (ops_rel2 ha hb)).mono ?_
  rintro e w' ⟨v', r', rfl, h1, h2, h3⟩
  rw [(R_plain (v := .bool true) rfl).1 h1]
  exact ⟨rfl, ⟨h2.os, h2.tape, h2.output, h2.size, fun k hk => h2.kept k hk⟩⟩
theorem calls_at1' {W : World} {a : Addr} {xs : List O3} {cap : Nat} {f : FuncId} {m' : Mem} {x : Value} {more : List Value} (h : MemSem Try.prog f (x :: .slice (some ⟨0, 0, some 0⟩) xs.length 12 :: more) [.rows false true 12 xs.length (opRow xs)] (.bool true) m') (ha : OpsAt W a xs) (hc : xs.length ≤ cap) (hx : Vx.plain x = true) (hm : RL (R (oneRen (opsPlace a xs.length))) more more) :
    Calls Try.prog f (x :: .slice (some a) xs.length cap :: more).toArray W fun e W' => e = .returned (.bool true) ∧ Below W.heap.size W W' := by
  refine (h.2 W _ _ (x :: .slice (some a) xs.length cap :: more) W ⟨(R_plain hx).2 rfl, ops_arg ha.1 hc, hm⟩ (ops_rel ha)).mono ?_
  rintro e w' ⟨v', r', rfl, h1, h2, h3⟩
  rw [(R_plain (v := .bool true) rfl).1 h1]
  exact ⟨rfl, ⟨h2.os, h2.tape, h2.output, h2.size, fun k hk => h2.kept k hk⟩⟩
/-! No group handed in -/
def pnX (e : Int) : St := stOf 117 [(6, .bool false), (7, .bool false), (8, vI e), (10, vI 5)] []
theorem pnP (h : V3) : segR ((Cpx Try.prog).into 8 0) 60 4 (paB Try.prog) [6, 7, 8, 10] [] (enter Try.f8 [.slice none 0 0, .slice none 0 0, h.v] []) = some (pnX (leastN h.ixk 5)) := by kernel_rfl
theorem pnR (e : Int) : roundR ((Cpx Try.prog).into 8 0) 60 (stmt 4 (paB Try.prog)) [6] [6] [] [] (pnX e) = (match e != 0 with
    | true => some (.ret, stOf 117 [(6, .bool true)] [])
    | false => some (.ret, stOf 117 [(6, .bool true)] [])) := by kernel_rfl
theorem pnT : (retA Try.prog Try.f8 (.ret, stOf 117 [(6, .bool true)] [])).res = some (.bool true, []) := by kernel_rfl
theorem pnS (h : V3) : MemSem Try.prog 8 [.slice none 0 0, .slice none 0 0, h.v] [] (.bool true) [] := by
  have r := pnR (leastN h.ixk 5)
  rw [z5] at r
  have body0 : InBody ((Cpx Try.prog).into 8 0) (paB Try.prog) := Or.inl ⟨Try.f8, paB Try.prog, Try.func8, paB_eq, fun _ hx => hx⟩
  exact body_mem (P := Try.prog) (f := 8) (m := []) Try.func8 paB_eq (by kernel_rfl) (seg_rule (C := Cpx Try.prog) okpx (f := 8) (B := 0) (k := 4) body0 (pnP h) (stmt_out paHas.1 (end_rule (C := Cpx Try.prog) okpx (f := 8) (B := 0) (stmt_in Try.func8 paB_eq) r) (by simp))) pnT
def pmX (own2 : Bool) (m : Nat) (ys : List O3) (e : Int) : St := stOf 117 [(6, .bool false), (7, .bool false), (8, vI e), (10, vI 5)] [.rows own2 true 12 m (opRow ys)]
theorem pmP (own2 : Bool) (m : Nat) (ys : List O3) (h : V3) : segR ((Cpx Try.prog).into 8 1) 60 4 (paB Try.prog) [6, 7, 8, 10] [.fix 0] (enter Try.f8 [.slice none 0 0, .slice (some ⟨0, 0, some 0⟩) m 12, h.v] [.rows own2 true 12 m (opRow ys)]) = some (pmX own2 m ys (leastN h.ixk 5)) := by kernel_rfl
theorem pmR (own2 : Bool) (m : Nat) (ys : List O3) (e : Int) : roundR ((Cpx Try.prog).into 8 1) 60 (stmt 4 (paB Try.prog)) [6] [6] [.fix 0] [.fix 0] (pmX own2 m ys e) = (match e != 0 with
    | true => some (.ret, stOf 117 [(6, .bool true)] [.rows own2 true 12 m (opRow ys)])
    | false => some (.ret, stOf 117 [(6, .bool true)] [.rows own2 true 12 m (opRow ys)])) := by kernel_rfl
theorem pmT (own2 : Bool) (m : Nat) (ys : List O3) : (retA Try.prog Try.f8 (.ret, stOf 117 [(6, .bool true)] [.rows own2 true 12 m (opRow ys)])).res = some (.bool true, [.rows own2 true 12 m (opRow ys)]) := by kernel_rfl
theorem pmS (own2 : Bool) (m : Nat) (ys : List O3) (h : V3) : MemSem Try.prog 8 [.slice none 0 0, .slice (some ⟨0, 0, some 0⟩) m 12, h.v] [.rows own2 true 12 m (opRow ys)] (.bool true) [.rows own2 true 12 m (opRow ys)] := by
  have r := pmR own2 m ys (leastN h.ixk 5)
  rw [z5] at r
  have body0 : InBody ((Cpx Try.prog).into 8 1) (paB Try.prog) := Or.inl ⟨Try.f8, paB Try.prog, Try.func8, paB_eq, fun _ hx => hx⟩
  exact body_mem (P := Try.prog) (f := 8) (m := [.rows own2 true 12 m (opRow ys)]) Try.func8 paB_eq (by kernel_rfl) (seg_rule (C := Cpx Try.prog) okpx (f := 8) (B := 1) (k := 4) body0 (pmP own2 m ys h) (stmt_out paHas.1 (end_rule (C := Cpx Try.prog) okpx (f := 8) (B := 1) (stmt_in Try.func8 paB_eq) r) (by simp))) (pmT own2 m ys)
theorem parts_nn (W : World) (h : V3) : Calls Try.prog 8 #[.slice none 0 0, .slice none 0 0, h.v] W fun e W' => e = .returned (.bool true) ∧ Below W.heap.size W W' :=
  ((MemSem.plain (pnS h) (fun x hx => by
    simp only [List.mem_cons, List.not_mem_nil, or_false] at hx
    rcases hx with rfl | rfl | rfl <;> rfl) rfl).2 W).mono fun _ _ hq => ⟨hq.1, hq.2.1⟩
theorem parts_nl {W : World} {b : Addr} {ys : List O3} {cap : Nat} (hb : OpsAt W b ys) (hc : ys.length ≤ cap) (h : V3) : Calls Try.prog 8 #[.slice none 0 0, .slice (some b) ys.length cap, h.v] W fun e W' => e = .returned (.bool true) ∧ Below W.heap.size W W' :=
  calls_at1' (pmS false ys.length ys h) hb hc (x := .slice none 0 0) (more := [h.v]) rfl ⟨(R_plain (v := h.v) rfl).2 rfl, trivial⟩
theorem parts_ln {W : World} {a : Addr} {xs : List O3} {cap : Nat} (ha : OpsAt W a xs) (hc : xs.length ≤ cap) (h : V3) : Calls Try.prog 8 #[.slice (some a) xs.length cap, .slice none 0 0, h.v] W fun e W' => e = .returned (.bool true) ∧ Below W.heap.size W W' :=
  (pbSem false xs h).calls ha hc (more := [.slice none 0 0, h.v]) (more' := [.slice none 0 0, h.v]) ⟨(R_plain (v := .slice none 0 0) rfl).2 rfl, (R_plain (v := h.v) rfl).2 rfl, trivial⟩
theorem parts_ll {W : World} {a b : Addr} {xs ys : List O3} {cap cap2 : Nat} (ha : OpsAt W a xs) (hb : OpsAt W b ys) (hc : xs.length ≤ cap) (hd : ys.length ≤ cap2) (hm : (cap2 : Int) ≤ 9223372036854775807) (h : V3) : Calls Try.prog 8 #[.slice (some a) xs.length cap, .slice (some b) ys.length cap2, h.v] W fun e W' => e = .returned (.bool true) ∧ Below W.heap.size W W' :=
  calls_two (pcSem false false xs ys h (by omega)) ha hb hc hd rfl
end Go.Proofs.Ytjpfnfckpgilgaa
