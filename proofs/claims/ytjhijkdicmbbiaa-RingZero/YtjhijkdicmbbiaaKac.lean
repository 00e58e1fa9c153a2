/-
  What the executor says of append and of bytes that become a string, the machine does. Nothing here is trusted.
-/
import Derived.Test.YtjhijkdicmbbiaaKab
import Derived.Laws.AppendOwn
import Derived.Laws.BytesArg
import Derived.Laws.MakeOwn

namespace Go.Proofs.Ytjhijkdicmbbiaa.Vx
open Go Go.RowKit

def RowsL (r : Ren) (l : List Value) (e n : Nat) (f : Nat → List Value) : Prop := ∀ i, i < n → (f i).length = e ∧ ∀ j v, (f i)[j]? = some v → ∃ v', l[i * e + j]? = some v' ∧ R0 r v v'
theorem RowsL.ext {r r' : Ren} (he : Ext r r') {l : List Value} {e n : Nat} {f : Nat → List Value} (h : RowsL r l e n f) : RowsL r' l e n f := fun i hi =>
  ⟨(h i hi).1, fun j v hj => by obtain ⟨v', h1, h2⟩ := (h i hi).2 j v hj; exact ⟨v', h1, h2.ext he⟩⟩
theorem RowsL.pre {r : Ren} {l l2 : List Value} {e n : Nat} {f : Nat → List Value} (h : RowsL r l e n f) : RowsL r (l ++ l2) e n f := fun i hi =>
  ⟨(h i hi).1, fun j v hj => by
    obtain ⟨v', h1, h2⟩ := (h i hi).2 j v hj
    exact ⟨v', by rw [List.getElem?_append_left (List.getElem?_eq_some_iff.1 h1).1]; exact h1, h2⟩⟩
theorem RowsL.append {r : Ren} {l l2 : List Value} {e n k : Nat} {f g : Nat → List Value} (h : RowsL r l e n f) (hl : l.length = n * e) (h2 : RowsL r l2 e k g) : RowsL r (l ++ l2) e (n + k) (catR n f g) := by
  intro i hi
  unfold catR
  by_cases hin : i < n
  · have hb : Nat.blt i n = true := by simpa [Nat.blt_eq] using hin
    simp only [hb]
    exact (RowsL.pre h) i hin
  · have hb : Nat.blt i n = false := by
      cases hq : Nat.blt i n with
      | false => rfl
      | true => exact absurd (Nat.blt_eq.mp hq) hin
    simp only [hb]
    obtain ⟨h3, h4⟩ := h2 (i - n) (by omega)
    refine ⟨h3, fun j v hj => ?_⟩
    obtain ⟨v', h5, h6⟩ := h4 j v hj
    refine ⟨v', ?_, h6⟩
    have e1 : i * e = n * e + (i - n) * e := by rw [← Nat.add_mul]; congr 1; omega
    rw [List.getElem?_append_right (by omega), hl, show i * e + j - n * e = (i - n) * e + j by omega]
    exact h5
theorem RowsL.cells {r : Ren} {l : List Value} {e n : Nat} {f : Nat → List Value} (h : RowsL r l e n f) {cs : Array Value} {off : Nat} (hc : ∀ j, j < n * e → cs[off + j]? = l[j]?) : ∀ i, i < n → (f i).length = e ∧ CellsAt r cs (off + i * e) (f i) := by
  intro i hi
  obtain ⟨h1, h2⟩ := h i hi
  refine ⟨h1, fun j v hj => ?_⟩
  obtain ⟨v', h3, h4⟩ := h2 j v hj
  have hj' : j < e := by rw [← h1]; exact (List.getElem?_eq_some_iff.1 hj).1
  have : (i + 1) * e ≤ n * e := Nat.mul_le_mul_right _ hi
  rw [Nat.add_mul, Nat.one_mul] at this
  refine ⟨v', ?_, h4⟩
  rw [Nat.add_assoc, hc _ (by omega)]
  exact h3
theorem RowsL.of_cells {r : Ren} {e n : Nat} {f : Nat → List Value} {cs : Array Value} {off : Nat} (he : 0 < e) (hn : 0 < n) (h : ∀ i, i < n → (f i).length = e ∧ CellsAt r cs (off + i * e) (f i)) :
    off + n * e ≤ cs.size ∧ RowsL r ((cs.toList.drop off).take (n * e)) e n f := by
  have hsz : off + n * e ≤ cs.size := by
    obtain ⟨h1, h2⟩ := h (n - 1) (by omega)
    obtain ⟨v', h3, _⟩ := h2 (e - 1) ((f (n - 1))[e - 1]'(by omega)) (List.getElem?_eq_getElem (by omega))
    have h4 := (Array.getElem?_eq_some_iff.1 h3).1
    have : n * e = (n - 1) * e + e := by rw [← Nat.succ_mul]; congr 1; omega
    omega
  refine ⟨hsz, fun i hi => ?_⟩
  obtain ⟨h1, h2⟩ := h i hi
  refine ⟨h1, fun j v hj => ?_⟩
  obtain ⟨v', h3, h4⟩ := h2 j v hj
  have hj' : j < e := by rw [← h1]; exact (List.getElem?_eq_some_iff.1 hj).1
  have : (i + 1) * e ≤ n * e := Nat.mul_le_mul_right _ hi
  rw [Nat.add_mul, Nat.one_mul] at this
  refine ⟨v', ?_, h4⟩
  rw [List.getElem?_take, if_pos (by omega), List.getElem?_drop, Array.getElem?_toList, ← Nat.add_assoc]
  exact h3
/-- Each cell belongs to a row. -/
theorem RowsL.all {r : Ren} {l : List Value} {e n : Nat} {f : Nat → List Value} (he : 0 < e) (h : RowsL r l e n f) (hl : l.length = n * e) (hs : ∀ i, i < n → allL scalar (f i) = true) : allL flat l = true := by
  refine allL_iff.2 fun x hx => ?_
  obtain ⟨q, hq⟩ := List.getElem?_of_mem hx
  have hlt := (List.getElem?_eq_some_iff.1 hq).1
  have hi : q / e < n := by rw [Nat.div_lt_iff_lt_mul he]; omega
  obtain ⟨h1, h2⟩ := h (q / e) hi
  have hj : q % e < (f (q / e)).length := by rw [h1]; exact Nat.mod_lt _ he
  obtain ⟨v', h3, h4⟩ := h2 (q % e) _ (List.getElem?_eq_getElem hj)
  have : q / e * e + q % e = q := by rw [Nat.mul_comm]; exact Nat.div_add_mod q e
  rw [this, hq] at h3
  simp only [Option.some.injEq] at h3
  subst h3
  exact R0_flat h4 (allL_iff.1 (hs _ hi) _ (List.getElem_mem hj))
section
variable {P : Program} {w0 : World} {keep : Keep} {r : Ren} {tm : List Value} {m m' : Mem} {a : Act} {w : World} {cs : CallsX} {pos : Pos} {v : Value} {e : Eff} {cls : Nat}


/-- The cells of what is appended, in the machine. -/
def Src (P : Program) (r : Ren) (w : World) (e k : Nat) (x' : Value) (pl : Bool) (g : Nat → List Value) : Prop :=
  (∀ w', (Builtin.lenOf x').run P w' = .ok k w') ∧ ∃ news : List Value, news.length = k * e ∧ RowsL r news e k g ∧ allL flat news = true ∧ (pl = true → ∀ i, i < k → allL nad0 (g i) = true) ∧
    ∀ w' : World, w'.heap = w.heap → (Builtin.firstCells e k x').run P w' = .ok news.toArray w'

theorem src_slice (hr : RelAt w0 keep r ⟨tm, m⟩ a w) {x' : Value} {q : Addr} {k c e : Nat} {pl : Bool} {g : Nat → List Value} (he : 0 < e) (hk : 0 < k) (hx : R r (.slice (some q) k c) x') (h : srcRows m e k q = some (pl, g)) : Src P r w e k x' pl g := by
  obtain ⟨q', c', rfl, hnc, hl⟩ := R_sl hx
  refine ⟨fun _ => rfl, ?_⟩
  have live : ∀ {b : Blk}, m[q.block]? = some b → b ≠ .gone → ∃ p, r q.block = some (some p) ∧ q' = p.addr q ∧ p.sl q k c c' ∧ BlkRel w r p b := by
    intro b hb hg
    rcases hl with hl | ⟨p, h1, h2, h3⟩
    · have := hr.2.2.dead _ hl
      rw [hb] at this
      simp only [Option.some.injEq] at this
      exact absurd this hg
    · exact ⟨p, h1, h2, h3, hr.2.2.at h1 hb⟩
  have fin : ∀ {p : Place} {cells : Array Value} {T : TypeId} {fz : Nat × Nat}, q' = p.addr q → w.heap[p.blk]? = some (.cells cells T fz) → (∀ i, i < k → (g i).length = e ∧ CellsAt r cells ((p.addr q).off + i * e) (g i)) → (∀ i, i < k → allL scalar (g i) = true) → (pl = true → ∀ i, i < k → allL nad0 (g i) = true) →
      ∃ news : List Value, news.length = k * e ∧ RowsL r news e k g ∧ allL flat news = true ∧ (pl = true → ∀ i, i < k → allL nad0 (g i) = true) ∧ ∀ w' : World, w'.heap = w.heap → (Builtin.firstCells e k (.slice (some q') k c')).run P w' = .ok news.toArray w' := by
    intro p cells T fz hq' hh hrows hsc hpl
    obtain ⟨h1, h2⟩ := RowsL.of_cells he hk hrows
    have hlen : ((cells.toList.drop (p.addr q).off).take (k * e)).length = k * e := by simp; omega
    refine ⟨_, hlen, h2, RowsL.all he h2 hlen hsc, hpl, fun w' hw => ?_⟩
    rw [hq', show p.addr q = ⟨p.blk, (p.addr q).off, none⟩ from rfl]
    simp only [Builtin.firstCells, loadCells]
    rw [run_loadFrom (by rw [hw]; exact hh) _ 0 _ (by omega)]
    simp
  have rowk : ∀ {p : Place} {cells : Array Value} {T : TypeId} {fz : Nat × Nat} {esz n : Nat} {row : Nat → List Value}, q' = p.addr q → p.sl q k c c' → p.esz = esz → p.n = n → (∀ i, i < n → allL nad0 (row i) = true) → w.heap[p.blk]? = some (.cells cells T fz) → (∀ i, i < n → (row i).length = esz ∧ CellsAt r cells (p.off + i * esz) (row i)) →
      (match q.spot with
        | some j => match Nat.beq q.off 0 && Nat.beq esz e with
          | true => some (true, match j with
            | 0 => row
            | j => fun i => row (j + i))
          | false => none
        | none => none) = some (pl, g) → ∃ news : List Value, news.length = k * e ∧ RowsL r news e k g ∧ allL flat news = true ∧ (pl = true → ∀ i, i < k → allL nad0 (g i) = true) ∧ ∀ w' : World, w'.heap = w.heap → (Builtin.firstCells e k (.slice (some q') k c')).run P w' = .ok news.toArray w' := by
    intro p cells T fz esz n row hq' hsl hk2 hk3 hpl hh hat h
    split at h
    · rename_i j hs
      split at h
      · rename_i hc
        simp only [Bool.and_eq_true] at hc
        simp only [Option.some.injEq, Prod.mk.injEq] at h
        obtain ⟨rfl, hg⟩ := h
        have hg' : g = fun i => row (j + i) := by
          rw [← hg]
          cases j with
          | zero => funext i; simp
          | succ j => rfl
        clear hg
        subst hg'
        have he' : esz = e := Nat.eq_of_beq_eq_true hc.2
        have hz : q.off = 0 := Nat.eq_of_beq_eq_true hc.1
        have hjk : j + k ≤ n := by rw [← hk3]; exact hsl.2.1 j hs
        subst he'
        refine fin hq' hh (fun i hi => ?_) (fun i hi => allL_iff.2 fun v hv => nad0_scalar (allL_iff.1 (hpl (j + i) (by omega)) v hv)) (fun _ i hi => hpl (j + i) (by omega))
        obtain ⟨h1, h2⟩ := hat (j + i) (by omega)
        refine ⟨h1, ?_⟩
        rw [show (p.addr q).off + i * esz = p.off + (j + i) * esz by simp [Place.addr, hs, hz, hk2, Nat.add_mul]; omega]
        exact h2
      · cases h
    · cases h
  unfold srcRows at h
  cases hb : m[q.block]? with
  | none => simp [hb] at h
  | some b =>
    rw [hb] at h
    cases b with
    | cells own esz l =>
      simp only at h
      split at h
      · rename_i hs
        split at h
        · rename_i hc
          simp only [Bool.and_eq_true] at hc
          simp only [Option.some.injEq, Prod.mk.injEq] at h
          obtain ⟨rfl, rfl⟩ := h
          obtain ⟨p, hp, hq', hsl, hk1, hk2, cells, T, fz, _, hh, _, hat⟩ := live hb (by simp)
          have hle := Nat.le_of_ble_eq_true hc.1
          refine fin hq' hh (fun i hi => ⟨chop_len hle hi, fun j v hj => ?_⟩) (fun i hi => allL_iff.2 fun v hv => allL_iff.1 hc.2 v (chop_mem hv)) (fun hpl i hi => allL_iff.2 fun v hv => allL_iff.1 hpl v (chop_mem hv))
          obtain ⟨v', h1, h2⟩ := hat _ v (chop_get hj)
          refine ⟨v', ?_, h2⟩
          rw [show (p.addr q).off + i * e + j = p.off + (q.off + i * e + j) by simp [Place.addr, hs]; omega]
          exact h1
        · cases h
      · cases h
    | rows own pl' esz n row =>
      cases pl' with
      | false => simp at h
      | true =>
        obtain ⟨p, hp, hq', hsl, hk1, hk2, hk3, hpl, cells, T, fz, _, hh, _, hat⟩ := live hb (by simp)
        exact rowk hq' hsl hk2 hk3 (hpl rfl) hh hat h
    | grow pl' esz n row =>
      cases pl' with
      | false => simp at h
      | true =>
        obtain ⟨p, hp, hq', hsl, hk1, hk2, hk3, hpl, cells, T, fz, hh, _, hat⟩ := live hb (by simp)
        exact rowk hq' hsl hk2 hk3 (hpl rfl) hh hat h
    | view pl' esz n row =>
      cases pl' with
      | false => simp at h
      | true =>
        obtain ⟨p, hp, hq', hsl, hk1, hk2, hk3, hpl, cells, T, fz, hh, _, hat⟩ := live hb (by simp)
        exact rowk hq' hsl hk2 hk3 (hpl rfl) hh hat h
    | _ => simp at h
theorem src_string {s : ByteArray} : Src P r w 1 s.size (.string s) true (fun i => [.int .u8 ((s.data.toList[i]?).getD 0).toNat]) := by
  refine ⟨fun _ => rfl, s.data.toList.map (fun b => .int .u8 b.toNat), ?_, ?_, ?_, ?_, ?_⟩
  · rw [List.length_map, Array.length_toList, Nat.mul_one]; rfl
  · intro i hi
    have hi' : i < s.data.toList.length := by rw [Array.length_toList]; exact hi
    refine ⟨rfl, fun j v hj => ?_⟩
    cases j with
    | zero =>
      simp only [List.getElem?_cons_zero, Option.some.injEq] at hj
      subst hj
      refine ⟨_, ?_, rfl⟩
      rw [Nat.mul_one, Nat.add_zero, List.getElem?_map, List.getElem?_eq_getElem hi']
      simp
    | succ j => simp at hj
  · refine allL_iff.2 fun x hx => ?_
    obtain ⟨b, _, rfl⟩ := List.mem_map.1 hx
    rfl
  · intro _ i _; rfl
  · intro w' _
    simp only [Builtin.firstCells, Sem.run_pure]
    congr 1
    have : s.extract 0 s.size = s := by simp
    rw [this]
    apply Array.ext'
    simp

theorem run_app_grow {t u ty el : TypeId} {i : TypeInfo} {z : Value} {d : TypeDesc} (ht : P.underlying t = some (.slice el)) (hu : P.underlying u = some d) (hd : d = .string ∨ ∃ e, d = .slice e) (hi : P.info? el = some i) (hz : i.zero = some z) {base : Option Addr} {n c k : Nat} {x' : Value} {olds news : Array Value}
    (hlen : ∀ w', (Builtin.lenOf x').run P w' = .ok k w') (hfo : (Builtin.firstCells i.size n (.slice base n c)).run P w.drew = .ok olds w.drew) (hf : (Builtin.firstCells i.size k x').run P w.drew = .ok news w.drew) (hg : c < n + k) (h63 : ((n + k : Nat) : Int) ≤ 9223372036854775807) (hfit : Builtin.nextslicecap (n + k) c * i.bytes ≤ 281474976710656) :
    (Builtin.append_ #[t, u] ty #[.slice base n c, x']).run P w = .ok (.slice (some ⟨w.heap.size, 0, none⟩) (n + k) (grownCap w (n + k) c el)) (w.drew.alloc (.cells (olds ++ news ++ Builtin.zeroCells z.cells (grownCap w (n + k) c el - (n + k))) el)) := by
  have hn : ¬ (n + k ≤ c) := by omega
  have h63' : ¬ (9223372036854775807 < ((n : Int) + (k : Int))) := by omega
  have h48' : ¬ (281474976710656 < Builtin.nextslicecap (n + k) c * i.bytes) := by omega
  rcases hd with rfl | ⟨e2, rfl⟩ <;> simp [Builtin.append_, run_underlying ht, run_underlying hu, sizeOf, typeInfo, zeroValue, hi, hz, hlen, hn, h63', h48', Question.forced, hf, hfo, newRow, grownCap]
theorem run_app_room {t u ty el : TypeId} {i : TypeInfo} {d : TypeDesc} (ht : P.underlying t = some (.slice el)) (hu : P.underlying u = some d) (hd : d = .string ∨ ∃ e, d = .slice e) (hi : P.info? el = some i) {b off n c k : Nat} {x' : Value} {news : Array Value} {w' : World}
    (hlen : ∀ w', (Builtin.lenOf x').run P w' = .ok k w') (hf : (Builtin.firstCells i.size k x').run P w = .ok news w) (hg : n + k ≤ c) (hst : (storeCells ⟨b, off + n * i.size, none⟩ news.toList 0).run P w = .ok () w') :
    (Builtin.append_ #[t, u] ty #[.slice (some ⟨b, off, none⟩) n c, x']).run P w = .ok (.slice (some ⟨b, off, none⟩) (n + k) c) w' := by
  rcases hd with rfl | ⟨e2, rfl⟩ <;> simp [Builtin.append_, run_underlying ht, run_underlying hu, sizeOf, typeInfo, hi, hlen, hg, hf, Addr.add_lit, hst]
theorem run_app_none {t u ty el : TypeId} {i : TypeInfo} {d : TypeDesc} (ht : P.underlying t = some (.slice el)) (hu : P.underlying u = some d) (hd : d = .string ∨ ∃ e, d = .slice e) (hi : P.info? el = some i) {base : Option Addr} {n c : Nat} {x' : Value} (hnc : n ≤ c)
    (hlen : ∀ w', (Builtin.lenOf x').run P w' = .ok 0 w') (hf : (Builtin.firstCells i.size 0 x').run P w = .ok #[] w) :
    (Builtin.append_ #[t, u] ty #[.slice base n c, x']).run P w = .ok (.slice base n c) w := by
  rcases hd with rfl | ⟨e2, rfl⟩ <;> cases base <;> simp [Builtin.append_, run_underlying ht, run_underlying hu, sizeOf, typeInfo, hi, hlen, hnc, hf, storeCells]
/-- The slice that is appended to, in the machine; and what becomes of its block. -/
theorem old_spec (hr : RelAt w0 keep r ⟨tm, m⟩ a w) {s' : Value} {q : Addr} {n c e : Nat} {pl : Bool} {f : Nat → List Value} (he : 0 < e) (hx : R r (.slice (some q) n c) s') (h : oldRows m e n q = some (true, pl, f)) :
    ∃ p cells T c' r1, r q.block = some (some p) ∧ p.own = true ∧ p.esz = e ∧ s' = .slice (some ⟨p.blk, p.off, none⟩) n c' ∧ n ≤ c' ∧ c' * e ≤ p.room ∧ w.heap[p.blk]? = some (.cells cells T (0, 0)) ∧ cells.size = p.off + p.room ∧
      (∀ i, i < n → (f i).length = e ∧ CellsAt r cells (p.off + i * e) (f i)) ∧ (pl = true → ∀ i, i < n → allL nad0 (f i) = true) ∧
      Ext r r1 ∧ MemRel w0 keep r1 (m.set q.block (passed m[q.block]?)) w ∧ (∀ c s, r1 c = some (some s) → s.own = true → s.blk ≠ p.blk) ∧ (∀ c s, r1 c = some (some s) → s.own = false → s.room ≠ 0 → s.blk = p.blk → s.off = p.off ∧ s.esz = e ∧ s.n ≤ n) := by
  obtain ⟨q', c', rfl, hnc, hl⟩ := R_sl hx
  have live : ∀ {b : Blk}, m[q.block]? = some b → b ≠ .gone → ∃ p, r q.block = some (some p) ∧ q' = p.addr q ∧ p.sl q n c c' ∧ BlkRel w r p b := by
    intro b hb hg
    rcases hl with hl | ⟨p, h1, h2, h3⟩
    · have := hr.2.2.dead _ hl
      rw [hb] at this
      simp only [Option.some.injEq] at this
      exact absurd this hg
    · exact ⟨p, h1, h2, h3, hr.2.2.at h1 hb⟩
  unfold oldRows at h
  have rowk : ∀ {p : Place} {b : Blk} {e' n' : Nat} {pl' : Bool} {row : Nat → List Value} {cells : Array Value} {T : TypeId}, m[q.block]? = some b → (b = .rows true pl' e' n' row ∨ b = .grow pl' e' n' row) → r q.block = some (some p) → q' = p.addr q → p.sl q n c c' → p.own = true → p.esz = e' → p.n = n' → (pl' = true → ∀ i, i < n' → allL nad0 (row i) = true) → w.heap[p.blk]? = some (.cells cells T (0, 0)) → cells.size = p.off + p.room → (∀ i, i < n' → (row i).length = e' ∧ CellsAt r cells (p.off + i * e') (row i)) → q.off = 0 →
      (match q.spot with
        | some 0 => match Nat.beq e' e with
          | true => some (Nat.beq n n', pl', row)
          | false => none
        | _ => none) = some (true, pl, f) → ∃ p cells T c'' r1, r q.block = some (some p) ∧ p.own = true ∧ p.esz = e ∧ Value.slice (some q') n c' = .slice (some ⟨p.blk, p.off, none⟩) n c'' ∧ n ≤ c'' ∧ c'' * e ≤ p.room ∧ w.heap[p.blk]? = some (.cells cells T (0, 0)) ∧ cells.size = p.off + p.room ∧
      (∀ i, i < n → (f i).length = e ∧ CellsAt r cells (p.off + i * e) (f i)) ∧ (pl = true → ∀ i, i < n → allL nad0 (f i) = true) ∧
      Ext r r1 ∧ MemRel w0 keep r1 (m.set q.block (passed m[q.block]?)) w ∧ (∀ c s, r1 c = some (some s) → s.own = true → s.blk ≠ p.blk) ∧ (∀ c s, r1 c = some (some s) → s.own = false → s.room ≠ 0 → s.blk = p.blk → s.off = p.off ∧ s.esz = e ∧ s.n ≤ n) := by
    intro p b e' n' pl' row cells T hb hkind hp hq' hsl hk1 hk2 hk3 hpl hh hsz hat hz h
    split at h
    rotate_left
    · cases h
    rename_i hs
    split at h
    rotate_left
    · cases h
    rename_i hc
    simp only [Option.some.injEq, Prod.mk.injEq] at h
    obtain ⟨hn', rfl, rfl⟩ := h
    have he' : e' = e := Nat.eq_of_beq_eq_true hc
    subst he'
    have hle : n = n' := Nat.eq_of_beq_eq_true hn'
    subst hle
    have hadr : p.addr q = ⟨p.blk, p.off, none⟩ := by simp [Place.addr, hs, hz]
    have hroom := hsl.2.2.2.2 hk1 (by rw [hk2]; omega)
    rw [hadr, hk2] at hroom
    have hpass : passed m[q.block]? = .view pl' e' n row := by
      rw [hb]; rcases hkind with rfl | rfl <;> rfl
    have hview := hr.2.2.viewed hp hk1 hb hkind
    refine ⟨p, cells, T, c', r.asV q.block p, hp, hk1, hk2, by rw [hq', hadr], hnc, by simp only at hroom; omega, hh, hsz, hat, hpl, Ren.asV_ext hp, by rw [hpass]; exact hview, ?_, ?_⟩
    · intro d s hd hs'
      unfold Ren.asV at hd
      split at hd
      · simp only [Option.some.injEq] at hd
        rw [← hd] at hs'
        cases hs'
      · rename_i hne
        exact fun e => hne (hr.2.2.inj d q.block s p hd hp hs' hk1 e)
    · intro d s hd hs1 hs2 hs3
      unfold Ren.asV at hd
      split at hd
      · simp only [Option.some.injEq] at hd
        rw [← hd]
        exact ⟨rfl, hk2, by rw [← hk3]; exact Nat.le_refl _⟩
      · rename_i hne
        obtain ⟨_, g1, g2, g3⟩ := hr.2.2.sep d q.block s p hd hp hs1 hs2 hk1 hs3.symm
        exact ⟨g1, g2.trans hk2, by rw [← hk3]; exact g3⟩
  split at h
  · rename_i e' l h0 hb
    have hz : q.off = 0 := Nat.eq_of_beq_eq_true h0
    split at h
    · rename_i hs
      split at h
      · rename_i hc
        simp only [Option.some.injEq, Prod.mk.injEq] at h
        obtain ⟨hn', rfl, rfl⟩ := h
        obtain ⟨p, hp, hq', hsl, hk1, hk2, cells, T, fz, _, hh, hown, hat⟩ := live hb (by simp)
        obtain ⟨rfl, hsz⟩ := hown rfl
        have he' : e' = e := Nat.eq_of_beq_eq_true hc
        subst he'
        have hle : n * e' = l.length := Nat.eq_of_beq_eq_true hn'
        have hadr : p.addr q = ⟨p.blk, p.off, none⟩ := by simp [Place.addr, hs, hz]
        have hroom := hsl.2.2.2.2 hk1 (by rw [hk2]; omega)
        rw [hadr, hk2] at hroom
        have hpass : passed m[q.block]? = .gone := by rw [hb]; rfl
        refine ⟨p, cells, T, c', r.kill q.block, hp, hk1, hk2, by rw [hq', hadr], hnc, by simp only at hroom; omega, hh, hsz, fun i hi => ⟨chop_len (by omega) hi, fun j v hj => ?_⟩, fun hpl i hi => allL_iff.2 fun v hv => allL_iff.1 hpl v (chop_mem hv), Ren.kill_ext hp, by rw [hpass]; exact hr.2.2.killed hp, ?_, ?_⟩
        · obtain ⟨v', h1, h2⟩ := hat _ v (chop_get hj)
          refine ⟨v', ?_, h2⟩
          rw [show p.off + i * e' + j = p.off + (0 + i * e' + j) by omega]
          exact h1
        · intro d s hd hs'
          unfold Ren.kill at hd
          split at hd
          · simp at hd
          · rename_i hne
            exact fun e => hne (hr.2.2.inj d q.block s p hd hp hs' hk1 e)
        · intro d s hd hs1 hs2 hs3
          unfold Ren.kill at hd
          split at hd
          · simp at hd
          · have := (hr.2.2.sep d q.block s p hd hp hs1 hs2 hk1 hs3.symm).1
            rw [hb] at this
            exact this.elim
      · cases h
    · cases h
  · rename_i pl' e' n' row h0 hb
    obtain ⟨p, hp, hq', hsl, hk1, hk2, hk3, hpl, cells, T, fz, _, hh, hown, hat⟩ := live hb (by simp)
    obtain ⟨rfl, hsz⟩ := hown rfl
    exact rowk hb (Or.inl rfl) hp hq' hsl hk1 hk2 hk3 hpl hh hsz hat (Nat.eq_of_beq_eq_true h0) h
  · rename_i pl' e' n' row h0 hb
    obtain ⟨p, hp, hq', hsl, hk1, hk2, hk3, hpl, cells, T, fz, hh, ⟨rfl, hsz⟩, hat⟩ := live hb (by simp)
    exact rowk hb (Or.inr rfl) hp hq' hsl hk1 hk2 hk3 hpl hh hsz hat (Nat.eq_of_beq_eq_true h0) h
  · cases h

theorem zeroCells_size (z : Array Value) (n : Nat) : (Builtin.zeroCells z n).size = n * z.size := by simp [Builtin.zeroCells]
theorem catR_plain {n k : Nat} {f g : Nat → List Value} (h1 : ∀ i, i < n → allL nad0 (f i) = true) (h2 : ∀ i, i < k → allL nad0 (g i) = true) : ∀ i, i < n + k → allL nad0 (catR n f g i) = true := by
  intro i hi
  unfold catR
  cases hb : Nat.blt i n with
  | true => exact h1 i (Nat.blt_eq.mp hb)
  | false =>
    refine h2 (i - n) ?_
    have : ¬ i < n := fun hlt => by rw [show Nat.blt i n = true by simpa [Nat.blt_eq] using hlt] at hb; cases hb
    omega
theorem R_put_sl {p : Place} {b n e c : Nat} (h0 : p.esz = e) (hn : p.n = n) (hnc : n ≤ c) (hr : c * e ≤ p.room) : R (r.put b p) (.slice (some ⟨b, 0, some 0⟩) n e) (.slice (some ⟨p.blk, p.off, none⟩) n c) :=
  R_sl_mk hnc (Or.inr ⟨p, by simp [Ren.put], by simp [Place.addr], hnc, fun i hi => by simp at hi; omega, fun _ => h0, fun _ => h0, fun _ _ => by simp only [Place.addr, Option.getD_some, Nat.zero_mul, Nat.add_zero, h0]; omega⟩)

/-- append that grows. -/
theorem app_grow (gr : Bool) {o : Oper} {t u ty el : TypeId} {i : TypeInfo} {z : Value} {d : TypeDesc} (ht : P.underlying t = some (.slice el)) (hu : P.underlying u = some d) (hd : d = .string ∨ ∃ e, d = .slice e) (hi : P.info? el = some i) (hz : i.zero = some z) (hzs : z.cells.size = i.size) {r1 : Ren} {m1 : Mem} (hm1 : MemRel w0 keep r1 m1 w) (hx1 : Ext r r1)
    {base : Option Addr} {n c k : Nat} {x' s' : Value} {olds news : List Value} {pl pl' : Bool} {f g row : Nat → List Value} (hs' : s' = .slice base n c)
    (hexec : (execOp a.eval o).run P w = ((Builtin.append_ #[t, u] ty #[s', x']).run P w).andThen fun v w => .ok (.value v) w)
    (hlen : ∀ w', (Builtin.lenOf x').run P w' = .ok k w') (hfo : (Builtin.firstCells i.size n (.slice base n c)).run P w.drew = .ok olds.toArray w.drew) (hf : (Builtin.firstCells i.size k x').run P w.drew = .ok news.toArray w.drew) (hol : olds.length = n * i.size) (hnl : news.length = k * i.size) (hg : c < n + k) (hb : (n + k) * i.bytes ≤ 2 ^ 47) (hsm : n + k ≤ 2 ^ 62)
    (ho : RowsL r1 olds i.size n f) (hw : RowsL r1 news i.size k g) (hrow : row = catR n f g) (hp1 : pl' = true → ∀ i, i < n → allL nad0 (f i) = true) (hp2 : pl = true → ∀ i, i < k → allL nad0 (g i) = true) :
    Ran P w0 keep r a w o (.slice (some ⟨m1.length, 0, some 0⟩) (n + k) i.size) (m1 ++ [if gr then .grow (pl' && pl) i.size (n + k) row else .rows true (pl' && pl) i.size (n + k) row]) := by
  subst hs'
  have hfit : Builtin.nextslicecap (n + k) c * i.bytes ≤ 281474976710656 := growslice_fits hg (by omega)
  have hrun := run_app_grow (ty := ty) ht hu hd hi hz hlen hfo hf hg (by omega) hfit
  have hge : n + k ≤ grownCap w (n + k) c el := by simp only [grownCap, Question.cut]; omega
  have hm2 : MemRel w0 keep r1 m1 w.drew := hm1.same rfl rfl rfl (Nat.le_succ _) rfl
  have hcat := RowsL.append ho hol hw
  have hsz : (olds.toArray ++ news.toArray ++ Builtin.zeroCells z.cells (grownCap w (n + k) c el - (n + k))).size = grownCap w (n + k) c el * i.size := by
    simp only [Array.size_append, List.size_toArray, zeroCells_size, hzs, hol, hnl, ← Nat.add_mul]
    congr 1; omega
  have hext : Ext r1 (r1.put m1.length ⟨w.heap.size, 0, i.size, n + k, grownCap w (n + k) c el * i.size, true⟩) := Ren.put_ext (hm1.none m1.length (Or.inl (by simp))) _
  refine ⟨r1.put m1.length ⟨w.heap.size, 0, i.size, n + k, grownCap w (n + k) c el * i.size, true⟩, _, _, Or.inl (by rw [hexec, hrun]; rfl), R_put_sl rfl rfl hge (Nat.le_refl _), ?_, hx1.trans hext⟩
  have hpl2 : (pl' && pl) = true → ∀ i, i < n + k → allL nad0 (row i) = true := fun hpl => by
    rw [Bool.and_eq_true] at hpl
    rw [hrow]
    exact catR_plain (hp1 hpl.1) (hp2 hpl.2)
  have hrows : ∀ q, q < n + k → (row q).length = i.size ∧ CellsAt (r1.put m1.length ⟨w.heap.size, 0, i.size, n + k, grownCap w (n + k) c el * i.size, true⟩) (olds.toArray ++ news.toArray ++ Builtin.zeroCells z.cells (grownCap w (n + k) c el - (n + k))) (0 + q * i.size) (row q) := by
    rw [hrow]
    refine RowsL.cells (hcat.ext hext) fun j hj => ?_
    simp only [Nat.zero_add]
    rw [← Array.getElem?_toList]
    simp only [Array.toList_append]
    rw [List.getElem?_append_left (by simp [hol, hnl]; rw [← Nat.add_mul]; exact hj)]
  cases gr with
  | false => exact hm2.snoc (k := .rows true (pl' && pl) i.size (n + k) row) rfl rfl (by simp) ⟨rfl, rfl, rfl, hpl2, _, el, (0, 0), (fun h => by cases h), get_push_self _, fun _ => ⟨rfl, by simpa using hsz⟩, hrows⟩
  | true => exact hm2.snoc (k := .grow (pl' && pl) i.size (n + k) row) rfl rfl (by simp) ⟨rfl, rfl, rfl, hpl2, _, el, (0, 0), get_push_self _, ⟨rfl, by simpa using hsz⟩, hrows⟩

theorem exec_append {o : Oper} {c : Call} {s x : Operand} {t u : TypeId} (ho : o.op = .call c) (hc : c.callee = .builtin .append) (ha : c.args = #[s, x]) (hat : c.argTypes = #[t, u]) :
    (execOp a.eval o).run P w = ((Builtin.append_ #[t, u] o.type #[a.eval s, a.eval x]).run P w).andThen fun v w => .ok (.value v) w := by
  simp only [execOp, ho, resolve, hc, ha, hat]
  simp [invoke, builtin]

theorem act_append {o : Oper} {c : Call} (ho : o.op = .call c) (hc : c.callee = .builtin .append) (hr : RelAt w0 keep r ⟨tm, m⟩ a w) (h : (effOf0 P cs tm o).res = some e) (g : (runE cls pos m e).res = some (v, m')) : Ran P w0 keep r a w o v m' := by
  unfold effOf0 at h
  simp only [ho, hc] at h
  split at h
  rotate_left
  · simp [Ans.res] at h
  rename_i sv xv t u hv hty
  simp only [Ans.res, Option.some.injEq] at h
  subst h
  have hargs : ∃ s x, c.args = #[s, x] ∧ ev tm s = sv ∧ ev tm x = xv := by
    revert hv
    cases hl : c.args.toList with
    | nil => simp
    | cons s l => cases l with
      | nil => simp
      | cons x l => cases l with
        | nil =>
          intro hv
          simp only [List.map_cons, List.map_nil, List.cons.injEq, and_true] at hv
          exact ⟨s, x, by apply Array.ext'; simpa using hl, hv.1, hv.2⟩
        | cons y l => simp
  obtain ⟨s, x, ha, rfl, rfl⟩ := hargs
  have hat : c.argTypes = #[t, u] := by apply Array.ext'; simpa using hty
  have hexec := exec_append (P := P) (a := a) (w := w) ho hc ha hat
  have hs := eval_R hr s
  have hx := eval_R hr x
  simp only at hs hx
  simp only [runE] at g
  split at g
  rotate_left
  · simp [Ans.res] at g
  unfold appendA at g
  split at g
  rotate_left
  · simp [Ans.res] at g
  rename_i el ht
  split at g
  rotate_left
  · simp [Ans.res] at g
  rename_i i hi
  split at g
  rotate_left
  · simp [Ans.res] at g
  rename_i z hz
  split at g
  rotate_left
  · simp [Ans.res] at g
  rename_i hb
  simp only [Bool.and_eq_true] at hb
  have he : 0 < i.size := Nat.blt_eq.mp hb.1
  have hzs : z.cells.size = i.size := Nat.eq_of_beq_eq_true hb.2.1
  have hby := Nat.le_of_ble_eq_true hb.2.2
  split at g
  rotate_left
  · simp [Ans.res] at g
  rename_i k pl rows hnew
  -- what is appended
  have hsrc : (∃ d, P.underlying u = some d ∧ (d = .string ∨ ∃ e, d = .slice e)) ∧ ((k = 0 → (∀ w', (Builtin.lenOf (a.eval x)).run P w' = .ok 0 w') ∧ (Builtin.firstCells i.size 0 (a.eval x)).run P w = .ok #[] w) ∧ (0 < k → Src P r w i.size k (a.eval x) pl rows)) := by
    unfold newRows at hnew
    split at hnew
    · rename_i hq
      rw [hq] at hx
      have hx' : a.eval x = .slice none 0 0 := hx
      split at hnew
      · rename_i e2 hu
        simp only [Option.some.injEq, Prod.mk.injEq] at hnew
        obtain ⟨rfl, rfl, rfl⟩ := hnew
        refine ⟨⟨_, hu, Or.inr ⟨e2, rfl⟩⟩, fun _ => ⟨fun w' => by rw [hx']; rfl, by rw [hx']; rfl⟩, fun hk => by omega⟩
      · cases hnew
    · rename_i hq
      rw [hq] at hx
      obtain ⟨q', c'', hq'⟩ := R_emp.1 hx
      split at hnew
      · rename_i e2 hu
        simp only [Option.some.injEq, Prod.mk.injEq] at hnew
        obtain ⟨rfl, rfl, rfl⟩ := hnew
        refine ⟨⟨_, hu, Or.inr ⟨e2, rfl⟩⟩, fun _ => ?_, fun hk => by omega⟩
        rw [hq']
        exact ⟨fun w' => rfl, by simp [Builtin.firstCells, loadCells, loadCellsFrom]⟩
      · cases hnew
    · rename_i q k' c' hq
      rw [hq] at hx
      split at hnew
      · rename_i e2 hu
        split at hnew
        · rename_i pl' g' hsr
          simp only [Option.some.injEq, Prod.mk.injEq] at hnew
          obtain ⟨rfl, rfl, rfl⟩ := hnew
          refine ⟨⟨_, hu, Or.inr ⟨e2, rfl⟩⟩, fun hk => ?_, fun hk => src_slice hr he hk hx hsr⟩
          subst hk
          obtain ⟨q', c'', hq', _, _⟩ := R_sl hx
          rw [hq']
          exact ⟨fun w' => rfl, by simp [Builtin.firstCells, loadCells, loadCellsFrom]⟩
        · cases hnew
      · cases hnew
    · rename_i sb hq
      rw [hq] at hx
      have hx' := R_str hx
      split at hnew
      · rename_i hu h1
        simp only [Option.some.injEq, Prod.mk.injEq] at hnew
        obtain ⟨rfl, rfl, rfl⟩ := hnew
        have h1' : i.size = 1 := Nat.eq_of_beq_eq_true h1
        refine ⟨⟨_, hu, Or.inl rfl⟩, fun hk => ?_, fun hk => ?_⟩
        · rw [hx']
          exact ⟨fun w' => by simp only [Builtin.lenOf, Sem.run_pure]; rw [hk], by simp [Builtin.firstCells]⟩
        · rw [hx', h1']; exact src_string
      · cases hnew
    · cases hnew
  obtain ⟨⟨d, hu, hd⟩, hk0, hk1⟩ := hsrc
  rcases Ans.br_some g with ⟨hk, g⟩ | ⟨hk, g⟩
  · -- nothing is appended
    have hk' : k = 0 := Nat.eq_of_beq_eq_true hk
    obtain ⟨hlen, hfc⟩ := hk0 hk'
    split at g
    · rename_i hq
      rw [hq] at hs
      have hs' : a.eval s = .slice none 0 0 := hs
      simp only [Ans.res, Option.some.injEq, Prod.mk.injEq] at g
      obtain ⟨rfl, rfl⟩ := g
      refine Ran.val hr (v' := .slice none 0 0) ?_ rfl
      rw [hexec, hs', run_app_none ht hu hd hi (Nat.le_refl 0) hlen hfc]
      rfl
    · rename_i q n e2 hq
      rw [hq] at hs
      simp only [Ans.res, Option.some.injEq, Prod.mk.injEq] at g
      obtain ⟨rfl, rfl⟩ := g
      obtain ⟨q', c', hq', hnc, _⟩ := R_sl hs
      refine Ran.val hr (v' := .slice (some q') n c') ?_ (by rw [← hq']; exact hs)
      rw [hexec, hq', run_app_none ht hu hd hi hnc hlen hfc]
      rfl
    · simp [Ans.res] at g
  · have hkp : 0 < k := by
      cases k with
      | zero => simp [Nat.beq] at hk
      | succ k => omega
    obtain ⟨hlen, news, hnl, hnr, hnf, hnp, hnrun⟩ := hk1 hkp
    have hsmall : ∀ {n : Nat}, n * i.bytes ≤ 2 ^ 47 → 0 < i.bytes → n ≤ 2 ^ 62 := fun {n} h h0 => by
      have : n * 1 ≤ n * i.bytes := Nat.mul_le_mul_left n h0
      omega
    split at g
    · rename_i hq
      rw [hq] at hs
      have hs' : a.eval s = .slice none 0 0 := hs
      rcases Ans.br_some g with ⟨hbs, g⟩ | ⟨hbs, g⟩
      · simp only [Ans.res, Option.some.injEq, Prod.mk.injEq] at g
        obtain ⟨rfl, rfl⟩ := g
        rw [Bool.and_eq_true] at hbs
        have hbs1 : k * i.bytes ≤ 2 ^ 47 := by simpa using hbs.1
        have hbs2 : k ≤ 2 ^ 62 := by simpa using hbs.2
        have := app_grow false (pl' := true) (n := 0) (c := 0) (base := none) (f := fun _ => []) (row := rows) (olds := []) ht hu hd hi hz hzs hr.2.2 (Ext.refl r) hs' hexec hlen (by simp [Builtin.firstCells]) (hnrun w.drew rfl) (by simp) hnl (by omega) (by rw [Nat.zero_add]; exact hbs1) (by omega) (fun i hi => by omega) hnr (by funext q; simp [catR, show Nat.blt q 0 = false by simp [Nat.blt, Nat.ble]]) (fun _ i hi => by omega) hnp
        simp only [Nat.zero_add, Bool.true_and, Bool.false_eq_true, if_false] at this
        exact this
      · simp [Ans.res] at g
    · rename_i q n e2 hq
      rw [hq] at hs
      split at g
      · rename_i tt pl' f hold
        rcases Ans.br_some g with ⟨hbs, g⟩ | ⟨hbs, g⟩
        · simp only [Ans.res, Option.some.injEq, Prod.mk.injEq] at g
          obtain ⟨rfl, rfl⟩ := g
          rw [Bool.and_eq_true, Bool.and_eq_true] at hbs
          have hbs1 : (n + k) * i.bytes ≤ 2 ^ 47 := by simpa using hbs.2.1
          have hbs2 : n + k ≤ 2 ^ 62 := by simpa using hbs.2.2
          rw [hbs.1] at hold
          obtain ⟨p, cells, T, c', r1, hp, hown, hpe, hs', hnc, hroom, hh, hsz, hat, hpl, hx1, hm1, hfree, hshare⟩ := old_spec hr he hs hold
          have hlen' : (m.set q.block (passed m[q.block]?)).length = m.length := by simp
          have hrn : r1 m.length = none := hm1.none m.length (Or.inl (by simp))
          have holds : p.off + n * i.size ≤ cells.size ∧ RowsL r ((cells.toList.drop p.off).take (n * i.size)) i.size n f := by
            by_cases hn : 0 < n
            · exact RowsL.of_cells he hn hat
            · have : n = 0 := by omega
              subst this
              exact ⟨by omega, fun i hi => by omega⟩
          have hol : ((cells.toList.drop p.off).take (n * i.size)).length = n * i.size := by simp; omega
          by_cases hfit : n + k ≤ c'
          · -- in its place
            have hcap : (n + k) * i.size ≤ p.room := Nat.le_trans (Nat.mul_le_mul_right _ hfit) hroom
            rw [Nat.add_mul] at hcap
            obtain ⟨w', g1, g2, g3⟩ := run_storeCells (P := P) (off := p.off + n * i.size) news 0 cells w hh (by omega) hnf
            have hext := hx1.trans (Ren.put_ext hrn ⟨p.blk, p.off, i.size, n + k, p.room, true⟩)
            refine ⟨r1.put m.length ⟨p.blk, p.off, i.size, n + k, p.room, true⟩, w', .slice (some ⟨p.blk, p.off, none⟩) (n + k) c', Or.inl ?_, R_put_sl rfl rfl hfit hroom, ?_, hext⟩
            · rw [hexec, hs', run_app_room (w' := w') ht hu hd hi hlen (hnrun w rfl) hfit (by simpa using g1)]
              rfl
            · have hkn : ¬ keep p.blk := hr.2.2.own q.block p hp hown
              have := hm1.adopt (w' := w') (q := ⟨p.blk, p.off, i.size, n + k, p.room, true⟩) (k := .grow (pl' && pl) i.size (n + k) (catR n f rows)) hfree hkn rfl g2 (by simp) (fun d s hd1 hs1 hs2 hs3 => by
                obtain ⟨e1, e2, e3⟩ := hshare d s hd1 hs1 hs2 hs3
                refine ⟨⟨trivial, e1, e2, by simp only; omega⟩, fun k0 hk0 => ?_⟩
                have hvk := hk0.isView hs1 hs2
                cases k0 with
                | view plv ev nv rowv =>
                  obtain ⟨v1, v2, v3, v4, cs0, T0, fz0, v5, v6, v7⟩ := hk0
                  rw [hs3, hh] at v5
                  simp only [Option.some.injEq, Obj.cells.injEq] at v5
                  obtain ⟨rfl, rfl, rfl⟩ := v5
                  refine ⟨v1, v2, v3, v4, _, T, (0, 0), by rw [hs3]; exact g3, v6, fun q2 hq2 => ⟨(v7 q2 hq2).1, ?_⟩⟩
                  refine (v7 q2 hq2).2.beside (by omega) (Or.inr ?_)
                  rw [(v7 q2 hq2).1, e1, ← v2, e2]
                  have : (q2 + 1) * i.size ≤ n * i.size := Nat.mul_le_mul_right _ (by omega)
                  rw [Nat.add_mul, Nat.one_mul] at this
                  omega
                | _ => simp [noViewB] at hvk) ⟨rfl, rfl, rfl, fun hq2 => by
                  rw [Bool.and_eq_true] at hq2
                  exact catR_plain (hpl hq2.1) (hnp hq2.2), _, T, (0, 0), g3, ⟨rfl, by rw [List.size_toArray, setMany_length, Array.length_toList]; exact hsz⟩, by
                  rw [hlen']
                  refine RowsL.cells ((RowsL.append holds.2 hol hnr).ext hext) fun j hj => ?_
                  rw [Nat.add_mul] at hj
                  simp only [Nat.add_zero]
                  rw [List.getElem?_toArray, setMany_get news (p.off + n * i.size) cells.toList (p.off + j) (by have hcl : cells.toList.length = cells.size := Array.length_toList; omega)]
                  by_cases hjn : j < n * i.size
                  · rw [if_neg (by omega), List.getElem?_append_left (by omega), List.getElem?_take, if_pos hjn, List.getElem?_drop]
                  · rw [if_pos (by omega), List.getElem?_append_right (by omega), hol, show p.off + j - (p.off + n * i.size) = j - n * i.size by omega]⟩
              rw [hlen'] at this
              exact this
          · have := app_grow true (pl' := pl') (row := catR n f rows) (olds := (cells.toList.drop p.off).take (n * i.size)) ht hu hd hi hz hzs hm1 hx1 hs' hexec hlen (by
              simp only [Builtin.firstCells, loadCells]
              rw [run_loadFrom (w := w.drew) hh _ 0 _ (by omega)]
              simp) (hnrun w.drew rfl) hol hnl (by omega) hbs1 hbs2 (holds.2.ext hx1) (hnr.ext hx1) rfl hpl hnp
            rw [hlen'] at this
            simpa using this
        · simp [Ans.res] at g
      · simp [Ans.res] at g
    · simp [Ans.res] at g

theorem u8At_spec {v : Value} {b : UInt8} (h : u8At [v] = some b) : ∃ x, v = .int .u8 x ∧ b = UInt8.ofNat x.toNat := by
  unfold u8At at h
  split at h
  · rename_i x heq
    simp only [List.cons.injEq, and_true] at heq
    simp only [Option.some.injEq] at h
    exact ⟨x, heq, h.symm⟩
  · cases h
theorem bytesL_spec : ∀ {l : List Value} {bs : List UInt8}, bytesL l = some bs → ∃ xs : List Int, l = xs.map (Value.int .u8) ∧ bs = xs.map fun x => UInt8.ofNat x.toNat
  | [], bs, h => by simp [bytesL] at h; subst h; exact ⟨[], rfl, rfl⟩
  | v :: l, bs, h => by
    simp only [bytesL] at h
    split at h
    · rename_i b rest h1 h2
      simp only [Option.some.injEq] at h
      subst h
      obtain ⟨x, rfl, rfl⟩ := u8At_spec h1
      obtain ⟨xs, rfl, rfl⟩ := bytesL_spec h2
      exact ⟨x :: xs, rfl, rfl⟩
    · cases h
theorem bytesR_of {n : Nat} {row : Nat → List Value} (h : allU8 n row = true) : ∃ xs : List Int, xs.length = n ∧ (∀ i, i < n → row i = [.int .u8 (xs.getD i 0)]) ∧ bytesR n row = xs.map fun x => UInt8.ofNat x.toNat := by
  have hi : ∀ i, i < n → ∃ x, row i = [.int .u8 x] ∧ u8At (row i) = some (UInt8.ofNat x.toNat) := by
    intro i hi
    have := List.all_eq_true.1 h i (List.mem_range.2 hi)
    unfold u8Is at this
    split at this
    · rename_i b hb
      unfold u8At at hb
      split at hb
      · rename_i x hx
        exact ⟨x, hx, by rw [hx]; rfl⟩
      · cases hb
    · cases this
  refine ⟨(List.range n).map fun i => match row i with
    | [.int .u8 x] => x
    | _ => 0, by simp, fun i hlt => ?_, ?_⟩
  · obtain ⟨x, hx, _⟩ := hi i hlt
    rw [List.getD_eq_getElem?_getD, List.getElem?_map, List.getElem?_range hlt]
    simp only [Option.map_some, Option.getD_some, hx]
  · unfold bytesR
    rw [List.map_map]
    refine List.map_congr_left fun i hm => ?_
    obtain ⟨x, hx, _⟩ := hi i (List.mem_range.1 hm)
    simp only [Function.comp, hx]
    rfl
theorem act_convert {o : Oper} {t d : TypeId} {x : Operand} (ho : o.op = .convert t d x) (hr : RelAt w0 keep r ⟨tm, m⟩ a w) (h : (effOf0 P cs tm o).res = some e) (g : (runE cls pos m e).res = some (v, m')) : Ran P w0 keep r a w o v m' := by
  unfold effOf0 at h
  simp only [ho] at h
  have hx := eval_R hr x
  simp only at hx
  split at h
  · rename_i q n c hq
    rw [hq] at hx
    obtain ⟨q', c', hq', hnc, hl⟩ := R_sl hx
    split at h
    rotate_left
    · simp [Ans.res] at h
    rename_i el ht hd
    split at h
    rotate_left
    · simp [Ans.res] at h
    rename_i hel
    simp only [Ans.res, Option.some.injEq] at h
    subst h
    obtain ⟨k, h1, h2, rfl⟩ := readE g
    have live : k ≠ .gone → ∃ p, r q.block = some (some p) ∧ q' = p.addr q ∧ p.sl q n c c' ∧ BlkRel w r p k := by
      intro hg
      rcases hl with hl | ⟨p, h3, h4, h5⟩
      · have := hr.2.2.dead _ hl
        rw [h1] at this
        simp only [Option.some.injEq] at this
        exact absurd this hg
      · exact ⟨p, h3, h4, h5, hr.2.2.at h3 h1⟩
    have fin : ∀ {p : Place} {cells : Array Value} {T : TypeId} {fz : Nat × Nat} {xs : List Int}, q' = p.addr q → w.heap[p.blk]? = some (.cells cells T fz) → xs.length = n → (∀ i, i < n → cells[(p.addr q).off + i]? = some (.int .u8 (xs.getD i 0))) → v = .string ⟨(xs.map fun x => UInt8.ofNat x.toNat).toArray⟩ → Ran P w0 keep r a w o v m' := by
      intro p cells T fz xs hp hh hlen hc hv
      subst hv
      refine Ran.val hr (v' := .string ⟨(xs.map fun (x : Int) => UInt8.ofNat x.toNat).toArray⟩) ?_ rfl
      have := run_convert_bytes_arg (P := P) w t el ht hel p.blk (p.addr q).off n c' xs hlen (fun i hi => by rw [cell_of hh]; exact hc i hi) d hd
      simp only [execOp, ho, hq', hp]
      exact run_value this
    have rowk : ∀ {p : Place} {cells : Array Value} {T : TypeId} {fz : Nat × Nat} {esz nn : Nat} {row : Nat → List Value}, q' = p.addr q → p.sl q n c c' → p.esz = esz → p.n = nn → w.heap[p.blk]? = some (.cells cells T fz) → (∀ i, i < nn → (row i).length = esz ∧ CellsAt r cells (p.off + i * esz) (row i)) →
        (match q.spot with
          | some j => match Nat.beq q.off 0 && Nat.beq esz 1 with
            | true => Ans.br (allU8 n fun i => row (j + i)) (.out (Value.string ⟨(bytesR n fun i => row (j + i)).toArray⟩)) .fail
            | false => .fail
          | none => .fail).res = some v → Ran P w0 keep r a w o v m' := by
      intro p cells T fz esz nn row hp' hsl hk2 hk3 hh hat h2
      split at h2
      · rename_i j hs
        split at h2
        · rename_i hb
          rw [Bool.and_eq_true] at hb
          have hz : q.off = 0 := Nat.eq_of_beq_eq_true hb.1
          have he1 : esz = 1 := Nat.eq_of_beq_eq_true hb.2
          rcases Ans.br_some h2 with ⟨hu, h2⟩ | ⟨_, h2⟩
          · simp only [Ans.res, Option.some.injEq] at h2
            obtain ⟨xs, hxl, hrow, hbr⟩ := bytesR_of hu
            refine fin hp' hh hxl (fun i hi => ?_) (by rw [← hbr]; exact h2.symm)
            have hjn : j + n ≤ nn := by rw [← hk3]; exact hsl.2.1 j hs
            obtain ⟨h3, h4⟩ := hat (j + i) (by omega)
            have h5 := hrow i hi
            rw [h5] at h4
            obtain ⟨v', g1, g2⟩ := h4 0 _ rfl
            rw [show (p.addr q).off + i = p.off + (j + i) * esz + 0 by simp [Place.addr, hs, hz, hk2, he1]; omega, g1]
            have : v' = .int .u8 (xs.getD i 0) := g2
            rw [this]
          · simp [Ans.res] at h2
        · simp [Ans.res] at h2
      · simp [Ans.res] at h2
    unfold bytesB at h2
    split at h2
    · rename_i ow esz l
      split at h2
      · rename_i hs
        split at h2
        · rename_i bs hle hbs
          simp only [Ans.res, Option.some.injEq] at h2
          have hle' := Nat.le_of_ble_eq_true hle
          obtain ⟨xs, hxs, rfl⟩ := bytesL_spec hbs
          obtain ⟨p, hp, hp', hsl, hk1, hk2, cells, T, fz, _, hh, _, hat⟩ := live (by simp)
          have hxl : xs.length = n := by
            have := congrArg List.length hxs
            simp only [List.length_take, List.length_drop, List.length_map] at this
            omega
          refine fin hp' hh hxl (fun i hi => ?_) h2.symm
          have hget : l[q.off + i]? = some (.int .u8 (xs.getD i 0)) := by
            have := congrArg (fun z => z[i]?) hxs
            simp only [List.getElem?_take, if_pos hi, List.getElem?_drop, List.getElem?_map] at this
            rw [this, List.getElem?_eq_getElem (by omega), List.getD_eq_getElem?_getD, List.getElem?_eq_getElem (by omega)]
            rfl
          obtain ⟨v', g1, g2⟩ := hat _ _ hget
          rw [show (p.addr q).off + i = p.off + (q.off + i) by simp [Place.addr, hs]; omega, g1]
          have : v' = .int .u8 (xs.getD i 0) := g2
          rw [this]
        · simp [Ans.res] at h2
      · simp [Ans.res] at h2
    · rename_i ow pl esz nn row
      obtain ⟨p, hp, hp', hsl, hk1, hk2, hk3, hpl, cells, T, fz, _, hh, _, hat⟩ := live (by simp)
      exact rowk hp' hsl hk2 hk3 hh hat h2
    · rename_i pl esz nn row
      obtain ⟨p, hp, hp', hsl, hk1, hk2, hk3, hpl, cells, T, fz, hh, _, hat⟩ := live (by simp)
      exact rowk hp' hsl hk2 hk3 hh hat h2
    · rename_i pl esz nn row
      obtain ⟨p, hp, hp', hsl, hk1, hk2, hk3, hpl, cells, T, fz, hh, _, hat⟩ := live (by simp)
      exact rowk hp' hsl hk2 hk3 hh hat h2
    · simp [Ans.res] at h2
  · split at h
    · rename_i u hu
      simp only [Ans.res, Option.some.injEq] at h
      subst h
      obtain ⟨rfl, rfl⟩ := valE g
      exact opVal_run (by intro cs b; rw [ho]; simp) hu hr
    · simp [Ans.res] at h
end
end Go.Proofs.Ytjhijkdicmbbiaa.Vx


namespace Go.Proofs.Ytjhijkdicmbbiaa.Vx
open Go Go.RowKit

/-- Keys of a type are so many integers: they are compared one by one, and nothing of them panics. -/
def KeyOk (P : Program) (kt : TypeId) (n : Nat) : Prop :=
  (∀ xs ys : List Int, xs.length = n → ys.length = n → ∀ w, (Op.equal kt (encK xs) (encK ys)).run P w = .ok (decide (ys = xs)) w) ∧ (∀ xs : List Int, xs.length = n → ∀ b w, (Instr.checkKey b 10000 kt (encK xs)).run P w = .ok () w) ∧ ∃ d, P.underlying kt = some d

theorem ints64_spec : ∀ {n : Nat} {vs : List Value} {l : List Int}, ints64 n vs = some l → vs = l.map (Value.int .i64) ∧ l.length = n
  | 0, [], l, h => by simp [ints64] at h; subst h; exact ⟨rfl, rfl⟩
  | 0, _ :: _, l, h => by simp [ints64] at h
  | n + 1, [], l, h => by simp [ints64] at h
  | n + 1, v :: vs, l, h => by
    unfold ints64 at h
    split at h
    · rename_i h0 _; cases h0
    · rename_i n' x vs' h0 h1
      cases h0
      cases h1
      split at h
      · rename_i r hr
        simp only [Option.some.injEq] at h
        subst h
        obtain ⟨rfl, h2⟩ := ints64_spec hr
        exact ⟨rfl, by simp [h2]⟩
      · cases h
    · cases h

section
variable {P : Program} {w0 : World} {keep : Keep} {r : Ren} {tm : List Value} {m m' : Mem} {a : Act} {w : World} {cs : CallsX} {pos : Pos} {v : Value} {e : Eff} {cls : Nat}

theorem act_makeSlice {o : Oper} {t : TypeId} {x y : Operand} (ho : o.op = .makeSlice t x y) (hr : RelAt w0 keep r ⟨tm, m⟩ a w) (h : (effOf0 P cs tm o).res = some e) (g : (runE cls pos m e).res = some (v, m')) : Ran P w0 keep r a w o v m' := by
  unfold effOf0 at h
  simp only [ho] at h
  have hx := eval_R hr x
  have hy := eval_R hr y
  simp only at hx hy
  split at h
  rotate_left
  · simp [Ans.res] at h
  rename_i el l c ht hl hc
  rw [hl] at hx
  rw [hc] at hy
  have hx' := R_int hx
  have hy' := R_int hy
  split at h
  rotate_left
  · simp [Ans.res] at h
  rename_i j hj
  split at h
  rotate_left
  · simp [Ans.res] at h
  rename_i z hz
  split at h
  rotate_left
  · simp [Ans.res] at h
  rename_i hb
  rw [Bool.and_eq_true, Bool.and_eq_true] at hb
  have he : 0 < j.size := Nat.blt_eq.mp hb.1
  have hzs : z.cells.size = j.size := Nat.eq_of_beq_eq_true hb.2.1
  rcases Ans.br_some h with ⟨hq, h⟩ | ⟨_, h⟩
  rotate_left
  · simp [Ans.res] at h
  simp only [Bool.and_eq_true, decide_eq_true_eq] at hq
  obtain ⟨q1, q2, q3, q4⟩ := hq
  simp only [Ans.res, Option.some.injEq] at h
  subst h
  obtain ⟨b, hbm, rfl, rfl⟩ := makeE g
  obtain ⟨cn, rfl⟩ : ∃ cn : Nat, c = cn := ⟨c.toNat, by omega⟩
  obtain ⟨ln, rfl⟩ : ∃ ln : Nat, l = ln := ⟨l.toNat, by omega⟩
  have hlc : ln ≤ cn := by omega
  have hbz : (cn : Int) * (j.bytes : Int) = ((cn * j.bytes : Nat) : Int) := by simp
  rw [hbz] at q3
  have hrun : (execOp a.eval o).run P w = .ok (.value (.slice (some ⟨w.heap.size, 0, none⟩) ln cn)) { w with heap := w.heap.push (.cells (madeCells z.cells (cn * j.size)) el (0, 0)) } := by
    simp only [execOp, ho, hx', hy']
    refine run_value ?_
    have := run_make (P := P) w t el j z ht hj hz .i64 .i64 (ln : Int) (cn : Int) q1 q2 (by rw [Int.mul_comm, hbz]; omega) (by omega)
    simpa using this
  have hcells : (madeCells z.cells (cn * j.size)).size = cn * j.size := by simp [madeCells]
  have hext := Ren.put_ext (hr.2.2.none b (Or.inr hbm)) ⟨w.heap.size, 0, j.size, ln, cn * j.size, true⟩
  refine Ran.push hr hbm (p := ⟨w.heap.size, 0, j.size, ln, cn * j.size, true⟩) rfl rfl (by simp) hrun ⟨rfl, rfl, by simp, fun _ i _ => allL_nad0 hb.2.2, madeCells z.cells (cn * j.size), el, (0, 0), (fun h => by cases h), get_push_self _, fun _ => ⟨rfl, by rw [hcells]; simp⟩, ?_⟩ ?_
  · intro i hi
    have hzl : z.cells.toList.length = j.size := by rw [Array.length_toList]; exact hzs
    have hi' : i < ln := by simpa using hi
    refine ⟨hzl, fun k u hk => ?_⟩
    have hk' : k < j.size := by rw [← hzl]; exact (List.getElem?_eq_some_iff.1 hk).1
    have hlt : i * j.size + k < cn * j.size := by
      have : (i + 1) * j.size ≤ cn * j.size := Nat.mul_le_mul_right _ (by omega)
      rw [Nat.add_mul, Nat.one_mul] at this
      omega
    refine ⟨u, ?_, ?_⟩
    · have hmod : (i * j.size + k) % j.size = k := by rw [Nat.mul_comm, Nat.mul_add_mod]; exact Nat.mod_eq_of_lt hk'
      have hgk : z.cells[k]? = some u := by rw [← Array.getElem?_toList]; exact hk
      have hkz : k < z.cells.size := by omega
      simp only [Nat.zero_add, madeCells]
      rw [Array.getElem?_map, Array.getElem?_range, if_pos hlt, Option.map_some, hzs, hmod, getElem!_pos z.cells k hkz]
      rw [Array.getElem?_eq_getElem hkz] at hgk
      exact hgk
    · exact (R0_plain (allL_iff.1 hb.2.2 u (List.mem_of_getElem? hk))).2 rfl
  · have := R_put_sl (r := r) (p := ⟨w.heap.size, 0, j.size, ln, cn * j.size, true⟩) (b := b) (n := ln) (e := j.size) (c := cn) rfl rfl hlc (Nat.le_refl _)
    simpa using this

theorem sameBits_refl (x : List Int) : Instr.sameBits 10000 (encK x) (encK x) = true := by
  show (Instr.sameBits (9999 + 1) (.agg _) (.agg _)) = true
  simp only [Instr.sameBits, beq_self_eq_true, Bool.true_and]
  rw [List.all_eq_true]
  intro q hq
  have : ∀ (l : List Int) (q : Value × Value), q ∈ (l.map (Value.int .i64)).zip (l.map (Value.int .i64)) → ∃ n, q = (.int .i64 n, .int .i64 n) := by
    intro l
    induction l with
    | nil => intro q hq; simp at hq
    | cons x l ih =>
      intro q hq
      simp only [List.map_cons, List.zip_cons_cons, List.mem_cons] at hq
      rcases hq with rfl | hq
      · exact ⟨x, rfl⟩
      · exact ih q hq
  obtain ⟨n, rfl⟩ := this x q hq
  simp [Instr.sameBits]
theorem keyStays_run {x : List Int} : (Instr.keyThatStays (encK x) (encK x)).run P w = .ok (encK x) w := by
  unfold Instr.keyThatStays
  rw [if_pos (sameBits_refl x)]
  rfl
/-- Where a key stands. -/
def findP (k : List Int) : List (List Int × Int) → Nat → Option (Nat × Int)
  | [], _ => none
  | e :: l, i => match decide (e.1 = k) with
    | true => some (i, e.2)
    | false => findP k l (i + 1)
theorem findP_has (k : List Int) : ∀ (l : List (List Int × Int)) (i : Nat), findP k l i = none ↔ mHas k l = false
  | [], i => by simp [findP, mHas]
  | e :: l, i => by
    simp only [findP, mHas]
    cases decide (e.1 = k) with
    | true => simp
    | false => exact findP_has k l (i + 1)
theorem findP_get (k : List Int) : ∀ (l : List (List Int × Int)) (i : Nat), (match findP k l i with | some q => q.2 | none => 0) = mGet k l
  | [], i => rfl
  | e :: l, i => by
    simp only [findP, mGet]
    cases decide (e.1 = k) with
    | true => rfl
    | false => exact findP_get k l (i + 1)
theorem find_run {kt n : Nat} (hk : KeyOk P kt n) {u : Bool} {k : List Int} (hkl : k.length = n) : ∀ (es : List (List Int × Int)) (es' : List MapEntry) (i : Nat), MapIs u n es es' → (Instr.findAsking kt (encK k) es' i).run P w = .ok ((findP k es i).map fun q => (q.1, valU u q.2)) w
  | [], [], i, _ => rfl
  | e :: es, e' :: es', i, h => by
    obtain ⟨⟨h1, h2, h3⟩, h4⟩ := h
    simp only [Instr.findAsking, Sem.run_bind, h2, hk.1 k e.1 hkl h1, Result.andThen_ok, findP]
    cases decide (e.1 = k) with
    | true => simp only [if_true, h3]; rfl
    | false => simp only [Bool.false_eq_true, if_false]; exact find_run hk hkl es es' (i + 1) h4
  | [], _ :: _, _, h => h.elim
  | _ :: _, [], _, h => h.elim
theorem findNow_none {d : TypeDesc} {k : List Int} : ∀ {es : List (List Int × Int)} {es' : List MapEntry} {u : Bool} {n i : Nat}, MapIs u n es es' → Instr.findNow d (encK k) es' i = none ∨ (es' = [] ∧ es = [])
  | [], [], _, _, _, _ => Or.inr ⟨rfl, rfl⟩
  | e :: es, e' :: es', u, n, i, h => by
    left
    simp only [Instr.findNow]
    have : Instr.sameNow d (encK k) e'.key = none := by
      rw [h.1.2.1]
      unfold encK
      cases d <;> rfl
    rw [this]
  | [], _ :: _, _, _, _, h => h.elim
  | _ :: _, [], _, _, _, h => h.elim
theorem findKey_run {kt n : Nat} (hk : KeyOk P kt n) {d : TypeDesc} (hd : P.underlying kt = some d) {u : Bool} {k : List Int} (hkl : k.length = n) {es : List (List Int × Int)} {es' : List MapEntry} (h : MapIs u n es es') : (Instr.findKey kt (encK k) es').run P w = .ok ((findP k es 0).map fun q => (q.1, valU u q.2)) w := by
  simp only [Instr.findKey, Sem.run_bind, underlying_run hd, Result.andThen_ok]
  rcases findNow_none (d := d) (k := k) (i := 0) h with h1 | ⟨rfl, rfl⟩
  · rw [h1]
    exact find_run hk hkl es es' 0 h
  · rfl
theorem elemU_spec {et : TypeId} {u : Bool} (h : elemU P et = some u) : ∃ i, P.info? et = some i ∧ i.zero = some (valU u 0) := by
  unfold elemU at h
  split at h
  · rename_i i hi
    refine ⟨i, hi, ?_⟩
    split at h
    · rename_i c hz
      split at h
      · rename_i hc
        simp only [Option.some.injEq] at h
        subst h
        rw [hz]
        have : c = #[] := by apply Array.ext'; simpa using hc
        rw [this]; rfl
      · cases h
    · rename_i x hz
      split at h
      · simp only [Option.some.injEq] at h
        subst h
        rw [hz]; rfl
      · cases h
    · cases h
  · cases h
theorem ofU_spec {u : Bool} {y : Value} {x : Int} (h : ofU u y = some x) : y = valU u x := by
  unfold ofU at h
  split at h
  · rename_i c
    split at h
    · rename_i hc
      have : c = #[] := by apply Array.ext'; simpa using hc
      rw [this]; rfl
    · cases h
  · simp only [Option.some.injEq] at h
    subst h; rfl
  · cases h
theorem ints_key {n : Nat} {c : Array Value} {k : List Int} (h : ints64 n c.toList = some k) : Value.agg c = encK k ∧ k.length = n := by
  obtain ⟨h1, h2⟩ := ints64_spec h
  refine ⟨?_, h2⟩
  unfold encK
  rw [← h1]
theorem plain_encK (k : List Int) : plain (encK k) = true := by
  show allL plain0 (k.map (Value.int .i64)) = true
  refine allL_iff.2 fun x hx => ?_
  obtain ⟨n, _, rfl⟩ := List.mem_map.1 hx
  rfl
theorem plain_valU (u : Bool) (x : Int) : plain1 (valU u x) = true := by cases u <;> rfl
theorem R_valU {u : Bool} {x : Int} : R r (valU u x) (valU u x) := by
  refine (R_plain ?_).2 rfl
  cases u <;> rfl
theorem R_map {v' : Value} {b : Nat} (h : R r (.map (some b)) v') : ∃ q, v' = .map (some q) ∧ (r b = some none ∨ ∃ p, r b = some (some p) ∧ q = p.blk) := by
  have h' : R0 r (.map (some b)) v' := h
  unfold R0 at h'
  simp only at h'
  revert h'
  cases hq : r b with
  | none => exact fun h => h.elim
  | some x => cases x with
    | none => rintro ⟨q, rfl⟩; exact ⟨q, rfl, Or.inl rfl⟩
    | some p => rintro rfl; exact ⟨_, rfl, Or.inr ⟨p, rfl, rfl⟩⟩
theorem map_live (hr : RelAt w0 keep r ⟨tm, m⟩ a w) {b q : Nat} {k : Blk} (hk : m[b]? = some k) (hl : r b = some none ∨ ∃ p, r b = some (some p) ∧ q = p.blk) (hg : k ≠ .gone) : ∃ p, r b = some (some p) ∧ q = p.blk ∧ BlkRel w r p k := by
  rcases hl with hl | ⟨p, h1, h2⟩
  · have := hr.2.2.dead _ hl
    rw [hk] at this
    simp only [Option.some.injEq] at this
    exact absurd this hg
  · exact ⟨p, h1, h2, hr.2.2.at h1 hk⟩

theorem act_makeMap {o : Oper} {t : TypeId} {res : Option Operand} (ho : o.op = .makeMap t res) (hr : RelAt w0 keep r ⟨tm, m⟩ a w) (h : (effOf0 P cs tm o).res = some e) (g : (runE cls pos m e).res = some (v, m')) : Ran P w0 keep r a w o v m' := by
  unfold effOf0 at h
  simp only [ho] at h
  split at h
  rotate_left
  · simp [Ans.res] at h
  rename_i kt et ht
  split at h
  rotate_left
  · simp [Ans.res] at h
  rename_i n u hn hu hres
  simp only [Ans.res, Option.some.injEq] at h
  subst h
  obtain ⟨b, hb, rfl, rfl⟩ := makeE g
  refine Ran.push hr hb (p := ⟨w.heap.size, 0, 0, 0, 0, true⟩) rfl rfl (by simp) (ob := .map #[] 0) (v' := .map (some w.heap.size)) ?_ ⟨rfl, rfl, #[], 0, get_push_self _, trivial⟩ ?_
  · simp only [execOp, ho]
    refine run_value ?_
    cases res with
    | none => rfl
    | some y =>
      unfold resvOk at hres
      simp only at hres
      have hy := eval_R hr y
      simp only at hy
      split at hres
      · rename_i kd x hq
        rw [hq] at hy
        simp only [Option.map_some, Instr.makeMap, Sem.run_bind, underlying_run ht, Result.andThen_ok, R_int hy, asInt, Sem.run_pure, newObj]
        rfl
      · cases hres
  · show R0 _ (.map (some b)) _
    unfold R0
    simp [Ren.put]

theorem act_lookup {o : Oper} {t : TypeId} {x ix : Operand} {ok : Bool} (hkeys : ∀ kt n, cs.keys kt = some n → KeyOk P kt n) (ho : o.op = .lookup t x ix ok) (hr : RelAt w0 keep r ⟨tm, m⟩ a w) (h : (effOf0 P cs tm o).res = some e) (g : (runE cls pos m e).res = some (v, m')) : Ran P w0 keep r a w o v m' := by
  unfold effOf0 at h
  simp only [ho] at h
  have hx := eval_R hr x
  have hi := eval_R hr ix
  simp only at hx hi
  split at h
  rotate_left
  · simp [Ans.res] at h
  rename_i kt et b c ht hq hq2
  rw [hq] at hx
  rw [hq2] at hi
  split at h
  rotate_left
  · simp [Ans.res] at h
  rename_i n u hn hu
  split at h
  rotate_left
  · simp [Ans.res] at h
  rename_i key hkey
  simp only [Ans.res, Option.some.injEq] at h
  subst h
  obtain ⟨k, h1, h2, rfl⟩ := readE g
  obtain ⟨hce, hkl⟩ := ints_key hkey
  rw [hce] at hi
  have hi' : a.eval ix = encK key := (R_plain (plain_encK key)).1 hi
  obtain ⟨q, hqv, hl⟩ := R_map hx
  have hk := hkeys kt n hn
  obtain ⟨i, hinfo, hzero⟩ := elemU_spec hu
  unfold lookB at h2
  split at h2
  rotate_left
  · simp [Ans.res] at h2
  rename_i u' n' es
  split at h2
  rotate_left
  · simp [Ans.res] at h2
  rename_i hb
  simp only [Bool.and_eq_true, decide_eq_true_eq] at hb
  obtain ⟨rfl, hnn⟩ := hb
  have hnn' : n' = n := Nat.eq_of_beq_eq_true hnn
  subst hnn'
  obtain ⟨p, hp, rfl, hown, hoff, es', ck, hheap, his⟩ := map_live hr h1 hl (by simp)
  obtain ⟨d, hd⟩ := hk.2.2
  have hget : (getObj p.blk).run P w = .ok (.map es' ck) w := by simp only [getObj, Sem.run, hheap]
  have hfind := findKey_run (w := w) hk hd hkl his
  have hcore : (Instr.lookup t (.map (some p.blk)) (encK key) ok).run P w = .ok (if ok then .tuple #[valU u' (mGet key es), .bool (mHas key es)] else valU u' (mGet key es)) w := by
    simp only [Instr.lookup, Sem.run_bind, underlying_run ht, Result.andThen_ok, hget, Sem.run_pure, hk.2.1 key hkl, hfind]
    cases hf : findP key es 0 with
    | none =>
      have hh := (findP_has key es 0).1 hf
      have hg := findP_get key es 0
      rw [hf] at hg
      simp only at hg
      simp only [Option.map_none, Sem.run_bind, zeroValue_run hinfo hzero, Result.andThen_ok, Sem.run_pure, hh, ← hg]
    | some y =>
      have hh : mHas key es = true := by
        cases hm : mHas key es with
        | true => rfl
        | false => rw [(findP_has key es 0).2 hm] at hf; cases hf
      have hg := findP_get key es 0
      rw [hf] at hg
      simp only at hg
      simp only [Option.map_some, hh, ← hg]
      rfl
  cases ok with
  | true =>
    simp only [Ans.res, Option.some.injEq] at h2
    subst h2
    refine Ran.val hr (v' := .tuple #[valU u' (mGet key es), .bool (mHas key es)]) ?_ ((R_plain ?_).2 rfl)
    · simp only [execOp, ho, hqv, hi']
      refine run_value ?_
      rw [hcore]; rfl
    · show allL plain1 [valU u' (mGet key es), .bool (mHas key es)] = true
      simp only [allL, plain_valU]
      rfl
  | false =>
    simp only [Ans.res, Option.some.injEq] at h2
    subst h2
    refine Ran.val hr (v' := valU u' (mGet key es)) ?_ R_valU
    simp only [execOp, ho, hqv, hi']
    refine run_value ?_
    rw [hcore]; rfl

theorem MapIs.length {u : Bool} {n : Nat} : ∀ {es : List (List Int × Int)} {es' : List MapEntry}, MapIs u n es es' → es.length = es'.length
  | [], [], _ => rfl
  | _ :: _, _ :: _, h => by simp [MapIs.length h.2]
  | [], _ :: _, h => h.elim
  | _ :: _, [], h => h.elim
theorem MapIs.put_new {u : Bool} {n : Nat} {k : List Int} {x : Int} (hk : k.length = n) {ck : Nat} : ∀ {es : List (List Int × Int)} {es' : List MapEntry}, MapIs u n es es' → mHas k es = false → MapIs u n (mPut k x es) (es' ++ [⟨encK k, valU u x, ck⟩])
  | [], [], _, _ => ⟨⟨hk, rfl, rfl⟩, trivial⟩
  | e :: es, e' :: es', h, hh => by
    simp only [mHas] at hh
    simp only [mPut]
    cases hd : decide (e.1 = k) with
    | true => rw [hd] at hh; cases hh
    | false => rw [hd] at hh; exact ⟨h.1, MapIs.put_new hk h.2 hh⟩
  | [], _ :: _, h, _ => h.elim
  | _ :: _, [], h, _ => h.elim
theorem MapIs.put_old {u : Bool} {n : Nat} {k : List Int} {x : Int} (hk : k.length = n) : ∀ {es : List (List Int × Int)} {es' : List MapEntry} {i j : Nat} {y : Int}, MapIs u n es es' → findP k es i = some (j, y) →
    i ≤ j ∧ (es'[j - i]?).map (·.key) = some (encK k) ∧ MapIs u n (mPut k x es) (es'.modify (j - i) fun e => { e with key := encK k, val := valU u x })
  | [], [], i, j, y, _, h => by simp [findP] at h
  | e :: es, e' :: es', i, j, y, h, hf => by
    simp only [findP] at hf
    simp only [mPut]
    cases hd : decide (e.1 = k) with
    | true =>
      rw [hd] at hf
      simp only [Option.some.injEq, Prod.mk.injEq] at hf
      obtain ⟨rfl, _⟩ := hf
      have hek : e.1 = k := by simpa using hd
      refine ⟨Nat.le_refl _, ?_, ?_⟩
      · rw [Nat.sub_self]; simp [h.1.2.1, hek]
      · rw [Nat.sub_self]
        simp only [List.modify_zero_cons]
        exact ⟨⟨hk, rfl, rfl⟩, h.2⟩
    | false =>
      rw [hd] at hf
      obtain ⟨h1, h2, h3⟩ := MapIs.put_old hk h.2 hf
      have hs : j - i = (j - (i + 1)) + 1 := by omega
      refine ⟨by omega, ?_, ?_⟩
      · rw [hs, List.getElem?_cons_succ]; exact h2
      · rw [hs]
        simp only [List.modify_succ_cons]
        exact ⟨h.1, h3⟩
  | [], _ :: _, _, _, _, h, _ => h.elim
  | _ :: _, [], _, _, _, h, _ => h.elim

theorem act_mapUpdate {o : Oper} {t : TypeId} {x ix y : Operand} (hkeys : ∀ kt n, cs.keys kt = some n → KeyOk P kt n) (ho : o.op = .mapUpdate t x ix y) (hr : RelAt w0 keep r ⟨tm, m⟩ a w) (h : (effOf0 P cs tm o).res = some e) (g : (runE cls pos m e).res = some (v, m')) : Ran P w0 keep r a w o v m' := by
  unfold effOf0 at h
  simp only [ho] at h
  have hx := eval_R hr x
  have hi := eval_R hr ix
  have hy := eval_R hr y
  simp only at hx hi hy
  split at h
  rotate_left
  · simp [Ans.res] at h
  rename_i kt et b c ht hq hq2
  rw [hq] at hx
  rw [hq2] at hi
  split at h
  rotate_left
  · simp [Ans.res] at h
  rename_i n u hn hu
  split at h
  rotate_left
  · simp [Ans.res] at h
  rename_i key val hkey hval
  simp only [Ans.res, Option.some.injEq] at h
  subst h
  obtain ⟨k, k', h1, h2, rfl⟩ := updE g
  obtain ⟨hce, hkl⟩ := ints_key hkey
  rw [hce] at hi
  have hi' : a.eval ix = encK key := (R_plain (plain_encK key)).1 hi
  have hy' : a.eval y = valU u val := by
    rw [ofU_spec hval] at hy
    refine (R_plain ?_).1 hy
    cases u <;> rfl
  obtain ⟨q, hqv, hl⟩ := R_map hx
  have hk := hkeys kt n hn
  unfold updB at h2
  split at h2
  rotate_left
  · simp [Ans.res] at h2
  rename_i u' n' es
  split at h2
  rotate_left
  · simp [Ans.res] at h2
  rename_i hb
  simp only [Bool.and_eq_true, decide_eq_true_eq] at hb
  obtain ⟨rfl, hnn⟩ := hb
  have hnn' : n' = n := Nat.eq_of_beq_eq_true hnn
  subst hnn'
  simp only [Ans.res, Option.some.injEq, Prod.mk.injEq] at h2
  obtain ⟨rfl, rfl⟩ := h2
  obtain ⟨p, hp, rfl, hown, hoff, es', ck, hheap, his⟩ := map_live hr h1 hl (by simp)
  obtain ⟨d, hd⟩ := hk.2.2
  have hget : (getObj p.blk).run P w = .ok (.map es' ck) w := by simp only [getObj, Sem.run, hheap]
  have hset : ∀ o', (setObj p.blk o').run P w = .ok () { w with heap := w.heap.setIfInBounds p.blk o' } := fun o' => by simp only [setObj, Sem.run, hheap]
  have hlt := (Array.getElem?_eq_some_iff.1 hheap).1
  have hfind := findKey_run (w := w) hk hd hkl his
  have fin : ∀ (es2 : Array MapEntry) (ck2 : Nat), (Instr.mapUpdate t (.map (some p.blk)) (encK key) (valU u' val)).run P w = .ok () { w with heap := w.heap.setIfInBounds p.blk (.map es2 ck2) } → MapIs u' n' (mPut key val es) es2.toList → Ran P w0 keep r a w o undef (m.set b (.mp u' n' (mPut key val es))) := by
    intro es2 ck2 hrun his2
    refine ⟨r, { w with heap := w.heap.setIfInBounds p.blk (.map es2 ck2) }, undef, Or.inr ⟨?_, rfl⟩, R_undef r, ?_, Ext.refl r⟩
    · simp only [execOp, ho, hqv, hi', hy']
      exact run_unit hrun
    · refine hr.2.2.turn hp hown (by rw [h1]; exact id) ⟨fun k hk => ?_, by simp, rfl, rfl, rfl, rfl⟩ ⟨hown, hoff, es2, ck2, ?_, his2⟩
      · simp only [Array.getElem?_setIfInBounds]; rw [if_neg (fun e => hk e.symm)]
      · simp [hlt]
  cases hf : findP key es 0 with
  | none =>
    refine fin (es'.push ⟨encK key, valU u' val, ck⟩) (ck + 1) ?_ ?_
    · simp only [Instr.mapUpdate, Sem.run_bind, underlying_run ht, Result.andThen_ok, hget, hk.2.1 key hkl, hfind, hf, Option.map_none, hset]
    · rw [Array.toList_push]
      exact MapIs.put_new hkl his ((findP_has key es 0).1 hf)
  | some jy =>
    obtain ⟨j, y0⟩ := jy
    obtain ⟨_, g2, g3⟩ := MapIs.put_old (x := val) hkl his hf
    simp only [Nat.sub_zero] at g2 g3
    refine fin (es'.modify j fun e => { e with key := encK key, val := valU u' val }) ck ?_ ?_
    · have g2' : (es'[j]?).map (·.key) = some (encK key) := by rw [← Array.getElem?_toList]; exact g2
      simp only [Instr.mapUpdate, Sem.run_bind, underlying_run ht, Result.andThen_ok, hget, hk.2.1 key hkl, hfind, hf, Option.map_some, g2', Option.getD_some, keyStays_run, hset]
    · rw [Array.toList_modify]; exact g3
end
end Go.Proofs.Ytjhijkdicmbbiaa.Vx
