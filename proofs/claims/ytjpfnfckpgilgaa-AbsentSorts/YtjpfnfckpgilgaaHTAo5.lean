/-
  A list of maps and a list of indices as arguments; facetlaw14.AbsentSorts: the whole. Nothing here is trusted.
-/
import Derived.Test.YtjpfnfckpgilgaaHTAo4
import Derived.Test.YtjpfnfckpgilgaaHOpenVx
namespace Go.Proofs.Ytjpfnfckpgilgaa
open Go Vx Go.RowKit
theorem slice_capV {P : Program} {W : World} {t e : TypeId} {b : Nat} {a : Addr} {n cap : Nat} (ht : P.underlying t = some (.slice e)) (hv : Value.okWide P W .any b t (.slice (some a) n cap)) : (cap : Int) ≤ 9223372036854775807 := by
  unfold Value.okWide at hv
  rw [ht] at hv
  simp only [Cell.okWide, ht, Cell.ok] at hv
  exact hv.2.1
def twoRenV (p q : Vx.Place) : Ren := fun b => match b with
  | 0 => some (some p)
  | 1 => some (some q)
  | _ => none
theorem opv_rel2 {W : World} {a b : Addr} {xs : List O3} {ys : List V3} (h : OpsAt W a xs) (k : VcsAt W b ys) : MemRel W (allKeep W) (twoRenV (opsPlace a xs.length) (vcsPlace b ys.length)) [.rows false true 12 xs.length (opRow xs), .rows false true 3 ys.length (vcRow ys)] W := by
  have hb := ops_blk h (twoRenV (opsPlace a xs.length) (vcsPlace b ys.length))
  have hc := vcs_blk k (twoRenV (opsPlace a xs.length) (vcsPlace b ys.length))
  have key : ∀ {i : Nat} {p : Vx.Place}, twoRenV (opsPlace a xs.length) (vcsPlace b ys.length) i = some (some p) → (i = 0 ∧ p = opsPlace a xs.length) ∨ (i = 1 ∧ p = vcsPlace b ys.length) := fun {i p} hp => by
    unfold twoRenV at hp
    split at hp
    · simp only [Option.some.injEq] at hp; exact Or.inl ⟨rfl, hp.symm⟩
    · simp only [Option.some.injEq] at hp; exact Or.inr ⟨rfl, hp.symm⟩
    · cases hp
  refine ⟨rfl, rfl, rfl, Nat.le_refl _, Nat.le_refl _, fun j hj => hj, fun j _ => rfl, fun i hb' => ?_, fun i hb' => ?_, fun i p hp => ?_, fun i p hp ho => ?_, fun i p hp _ _ => ?_, fun i p hp _ hz => ?_, fun i c p q hp _ _ hz => ?_, fun i c p q hp _ ho => ?_⟩
  · cases i with
    | zero => simp at hb'
    | succ i => cases i with
      | zero => simp at hb'
      | succ i => rfl
  · unfold twoRenV at hb'
    split at hb' <;> cases hb'
  · rcases key hp with ⟨rfl, rfl⟩ | ⟨rfl, rfl⟩
    · exact ⟨_, rfl, hb⟩
    · exact ⟨_, rfl, hc⟩
  · rcases key hp with ⟨rfl, rfl⟩ | ⟨rfl, rfl⟩ <;> cases ho
  · rcases key hp with ⟨rfl, rfl⟩ | ⟨rfl, rfl⟩
    · exact hb.lt
    · exact hc.lt
  · rcases key hp with ⟨rfl, rfl⟩ | ⟨rfl, rfl⟩ <;> exact absurd rfl hz
  · rcases key hp with ⟨rfl, rfl⟩ | ⟨rfl, rfl⟩ <;> exact absurd rfl hz
  · rcases key hp with ⟨rfl, rfl⟩ | ⟨rfl, rfl⟩ <;> cases ho
theorem ops_argkV {r : Ren} {k : Nat} {a : Addr} {n cap : Nat} (hr : r k = some (some (opsPlace a n))) (hs : a.spot = none) (hc : n ≤ cap) : R r (.slice (some ⟨k, 0, some 0⟩) n 12) (.slice (some a) n cap) := by
  refine R_sl_mk hc (Or.inr ⟨opsPlace a n, hr, ?_, hc, fun i hi => ?_, fun _ => rfl, fun _ => rfl, fun h => by cases h⟩)
  · cases a; simp only [Vx.Place.addr, opsPlace, Option.getD_some, Nat.zero_mul, Nat.add_zero] at *; rw [hs]
  · simp only [Option.some.injEq] at hi; subst hi; simp [opsPlace]
theorem vcs_argkV {r : Ren} {k : Nat} {a : Addr} {n cap : Nat} (hr : r k = some (some (vcsPlace a n))) (hs : a.spot = none) (hc : n ≤ cap) : R r (.slice (some ⟨k, 0, some 0⟩) n 3) (.slice (some a) n cap) := by
  refine R_sl_mk hc (Or.inr ⟨vcsPlace a n, hr, ?_, hc, fun i hi => ?_, fun _ => rfl, fun _ => rfl, fun h => by cases h⟩)
  · cases a; simp only [Vx.Place.addr, vcsPlace, Option.getD_some, Nat.zero_mul, Nat.add_zero] at *; rw [hs]
  · simp only [Option.some.injEq] at hi; subst hi; simp [vcsPlace]
theorem callsOV {W : World} {a b : Addr} {xs : List O3} {ys : List V3} {cap cap2 : Nat} {f : FuncId} {m' : Mem} (h : MemSem Try.prog f [.slice (some ⟨0, 0, some 0⟩) xs.length 12, .slice (some ⟨1, 0, some 0⟩) ys.length 3] [.rows false true 12 xs.length (opRow xs), .rows false true 3 ys.length (vcRow ys)] (.bool true) m') (ha : OpsAt W a xs) (hb : VcsAt W b ys) (hc : xs.length ≤ cap) (hd : ys.length ≤ cap2) :
    Calls Try.prog f #[.slice (some a) xs.length cap, .slice (some b) ys.length cap2] W fun e W' => e = .returned (.bool true) ∧ Below W.heap.size W W' := by
  refine (h.2 W _ _ [.slice (some a) xs.length cap, .slice (some b) ys.length cap2] W ⟨ops_argkV rfl ha.1 hc, vcs_argkV rfl hb.1 hd, trivial⟩ (opv_rel2 ha hb)).mono ?_
  rintro e w' ⟨v', r', rfl, h1, h2, h3⟩
  rw [(R_plain (v := .bool true) rfl).1 h1]
  exact ⟨rfl, ⟨h2.os, h2.tape, h2.output, h2.size, fun k hk => h2.kept k hk⟩⟩
theorem callsV1 {W : World} {b : Addr} {ys : List V3} {cap : Nat} {f : FuncId} {m' : Mem} (h : MemSem Try.prog f [.slice none 0 0, .slice (some ⟨0, 0, some 0⟩) ys.length 3] [.rows false true 3 ys.length (vcRow ys)] (.bool true) m') (hb : VcsAt W b ys) (hc : ys.length ≤ cap) :
    Calls Try.prog f #[.slice none 0 0, .slice (some b) ys.length cap] W fun e W' => e = .returned (.bool true) ∧ Below W.heap.size W W' := by
  refine (h.2 W _ _ [.slice none 0 0, .slice (some b) ys.length cap] W ⟨(R_plain (v := .slice none 0 0) rfl).2 rfl, vcs_arg hb.1 hc, trivial⟩ (vcs_rel hb)).mono ?_
  rintro e w' ⟨v', r', rfl, h1, h2, h3⟩
  rw [(R_plain (v := .bool true) rfl).1 h1]
  exact ⟨rfl, ⟨h2.os, h2.tape, h2.output, h2.size, fun k hk => h2.kept k hk⟩⟩
theorem sorts_nn (W : World) : Calls Try.prog 5 #[.slice none 0 0, .slice none 0 0] W fun e W' => e = .returned (.bool true) ∧ Below W.heap.size W W' :=
  ((MemSem.plain ao_nn (fun x hx => by
    simp only [List.mem_cons, List.not_mem_nil, or_false] at hx
    rcases hx with rfl | rfl <;> rfl) rfl).2 W).mono fun _ _ hq => ⟨hq.1, hq.2.1⟩
theorem sorts_nl {W : World} {b : Addr} {ys : List V3} {cap : Nat} (hb : VcsAt W b ys) (hc : ys.length ≤ cap) (hm : (cap : Int) ≤ 9223372036854775807) : Calls Try.prog 5 #[.slice none 0 0, .slice (some b) ys.length cap] W fun e W' => e = .returned (.bool true) ∧ Below W.heap.size W W' :=
  callsV1 (ao_nl false ys (by omega)) hb hc
theorem sorts_ln {W : World} {a : Addr} {xs : List O3} {cap : Nat} (ha : OpsAt W a xs) (hc : xs.length ≤ cap) : Calls Try.prog 5 #[.slice (some a) xs.length cap, .slice none 0 0] W fun e W' => e = .returned (.bool true) ∧ Below W.heap.size W W' :=
  (ao_gn false xs).calls ha hc (more := [.slice none 0 0]) (more' := [.slice none 0 0]) ⟨(R_plain (v := .slice none 0 0) rfl).2 rfl, trivial⟩
theorem sorts_ll {W : World} {a b : Addr} {xs : List O3} {ys : List V3} {cap cap2 : Nat} (ha : OpsAt W a xs) (hb : VcsAt W b ys) (hc : xs.length ≤ cap) (hd : ys.length ≤ cap2) (hm : (cap2 : Int) ≤ 9223372036854775807) : Calls Try.prog 5 #[.slice (some a) xs.length cap, .slice (some b) ys.length cap2] W fun e W' => e = .returned (.bool true) ∧ Below W.heap.size W W' :=
  callsOV (ao_sem false false xs ys (by omega)) ha hb hc hd
end Go.Proofs.Ytjpfnfckpgilgaa
