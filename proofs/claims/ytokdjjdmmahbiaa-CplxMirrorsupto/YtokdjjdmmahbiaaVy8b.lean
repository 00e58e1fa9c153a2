/-
  What the executor says of make and of maps, the machine does. Nothing here is trusted.
-/
import Derived.Test.YtokdjjdmmahbiaaVy8a
import Derived.Laws.MakeOwn
namespace Go.Proofs.Ytokdjjdmmahbiaa.Vx
open Go Go.RowKit

/-- Keys of a type are so many integers: they are compared one by one, and nothing of them panics. -/
def KeyOk (P : Program) (kt : TypeId) (n : Nat) : Prop :=
  (∀ xs ys : List Int, xs.length = n → ys.length = n → ∀ w, (Op.equal kt (encK xs) (encK ys)).run P w = .ok (decide (ys = xs)) w) ∧ (∀ xs : List Int, xs.length = n → ∀ b w, (Instr.checkKey b 10000 kt (encK xs)).run P w = .ok () w) ∧ ∃ d, P.underlying kt = some d

theorem ints64_spec : ∀ {n : Nat} {vs : List Value} {l : List Int}, ints64 n vs = some l → vs = l.map (Value.int .i64) ∧ l.length = n
  | 0, [], l, h => by simp [ints64] at h; subst h; exact ⟨rfl, rfl⟩
  | 0, _ :: _, l, h => by simp [ints64] at h
  | n + 1, [], l, h => by simp [ints64] at h
  | n + 1, v :: vs, l, h => by
    unfold ints64 at h
    split at h
    · rename_i h0 _; cases h0
    · rename_i n' x vs' h0 h1
      cases h0
      cases h1
      split at h
      · rename_i r hr
        simp only [Option.some.injEq] at h
        subst h
        obtain ⟨rfl, h2⟩ := ints64_spec hr
        exact ⟨rfl, by simp [h2]⟩
      · cases h
    · cases h

section
variable {P : Program} {w0 : World} {keep : Keep} {r : Ren} {tm : List Value} {m m' : Mem} {a : Act} {w : World} {cs : CallsX} {pos : Pos} {v : Value} {e : Eff} {cls : Nat}

theorem act_makeSlice {o : Oper} {t : TypeId} {x y : Operand} (ho : o.op = .makeSlice t x y) (hr : RelAt w0 keep r ⟨tm, m⟩ a w) (h : (effOf0 P cs tm o).res = some e) (g : (runE cls pos m e).res = some (v, m')) : Ran P w0 keep r a w o v m' := by
  unfold effOf0 at h
  simp only [ho] at h
  have hx := eval_R hr x
  have hy := eval_R hr y
  simp only at hx hy
  split at h
  rotate_left
  · simp [Ans.res] at h
  rename_i el l c ht hl hc
  rw [hl] at hx
  rw [hc] at hy
  have hx' := R_int hx
  have hy' := R_int hy
  split at h
  rotate_left
  · simp [Ans.res] at h
  rename_i j hj
  split at h
  rotate_left
  · simp [Ans.res] at h
  rename_i z hz
  split at h
  rotate_left
  · simp [Ans.res] at h
  rename_i hb
  rw [Bool.and_eq_true, Bool.and_eq_true] at hb
  have he : 0 < j.size := Nat.blt_eq.mp hb.1
  have hzs : z.cells.size = j.size := Nat.eq_of_beq_eq_true hb.2.1
  rcases Ans.br_some h with ⟨hq, h⟩ | ⟨_, h⟩
  rotate_left
  · simp [Ans.res] at h
  simp only [Bool.and_eq_true, decide_eq_true_eq] at hq
  obtain ⟨q1, q2, q3, q4⟩ := hq
  simp only [Ans.res, Option.some.injEq] at h
  subst h
  obtain ⟨b, hbm, rfl, rfl⟩ := makeE g
  obtain ⟨cn, rfl⟩ : ∃ cn : Nat, c = cn := ⟨c.toNat, by omega⟩
  obtain ⟨ln, rfl⟩ : ∃ ln : Nat, l = ln := ⟨l.toNat, by omega⟩
  have hlc : ln ≤ cn := by omega
  have hbz : (cn : Int) * (j.bytes : Int) = ((cn * j.bytes : Nat) : Int) := by simp
  rw [hbz] at q3
  have hrun : (execOp a.eval o).run P w = .ok (.value (.slice (some ⟨w.heap.size, 0, none⟩) ln cn)) { w with heap := w.heap.push (.cells (madeCells z.cells (cn * j.size)) el (0, 0)) } := by
    simp only [execOp, ho, hx', hy']
    refine run_value ?_
    have := run_make (P := P) w t el j z ht hj hz .i64 .i64 (ln : Int) (cn : Int) q1 q2 (by rw [Int.mul_comm, hbz]; omega) (by omega)
    simpa using this
  have hcells : (madeCells z.cells (cn * j.size)).size = cn * j.size := by simp [madeCells]
  have hext := Ren.put_ext (hr.2.2.none b (Or.inr hbm)) ⟨w.heap.size, 0, j.size, ln, cn * j.size, true⟩
  refine Ran.push hr hbm (p := ⟨w.heap.size, 0, j.size, ln, cn * j.size, true⟩) rfl rfl (by simp) hrun ⟨rfl, rfl, by simp, fun _ i _ => allL_nad0 hb.2.2, madeCells z.cells (cn * j.size), el, (0, 0), (fun h => by cases h), get_push_self _, fun _ => ⟨rfl, by rw [hcells]; simp⟩, ?_⟩ ?_
  · intro i hi
    have hzl : z.cells.toList.length = j.size := by rw [Array.length_toList]; exact hzs
    have hi' : i < ln := by simpa using hi
    refine ⟨hzl, fun k u hk => ?_⟩
    have hk' : k < j.size := by rw [← hzl]; exact (List.getElem?_eq_some_iff.1 hk).1
    have hlt : i * j.size + k < cn * j.size := by
      have : (i + 1) * j.size ≤ cn * j.size := Nat.mul_le_mul_right _ (by omega)
      rw [Nat.add_mul, Nat.one_mul] at this
      omega
    refine ⟨u, ?_, ?_⟩
    · have hmod : (i * j.size + k) % j.size = k := by rw [Nat.mul_comm, Nat.mul_add_mod]; exact Nat.mod_eq_of_lt hk'
      have hgk : z.cells[k]? = some u := by rw [← Array.getElem?_toList]; exact hk
      have hkz : k < z.cells.size := by omega
      simp only [Nat.zero_add, madeCells]
      rw [Array.getElem?_map, Array.getElem?_range, if_pos hlt, Option.map_some, hzs, hmod, getElem!_pos z.cells k hkz]
      rw [Array.getElem?_eq_getElem hkz] at hgk
      exact hgk
    · exact (R0_plain (allL_iff.1 hb.2.2 u (List.mem_of_getElem? hk))).2 rfl
  · have := R_put_sl (r := r) (p := ⟨w.heap.size, 0, j.size, ln, cn * j.size, true⟩) (b := b) (n := ln) (e := j.size) (c := cn) rfl rfl hlc (Nat.le_refl _)
    simpa using this

/-! ## Maps -/
theorem sameBits_refl (x : List Int) : Instr.sameBits 10000 (encK x) (encK x) = true := by
  show (Instr.sameBits (9999 + 1) (.agg _) (.agg _)) = true
  simp only [Instr.sameBits, beq_self_eq_true, Bool.true_and]
  rw [List.all_eq_true]
  intro q hq
  have : ∀ (l : List Int) (q : Value × Value), q ∈ (l.map (Value.int .i64)).zip (l.map (Value.int .i64)) → ∃ n, q = (.int .i64 n, .int .i64 n) := by
    intro l
    induction l with
    | nil => intro q hq; simp at hq
    | cons x l ih =>
      intro q hq
      simp only [List.map_cons, List.zip_cons_cons, List.mem_cons] at hq
      rcases hq with rfl | hq
      · exact ⟨x, rfl⟩
      · exact ih q hq
  obtain ⟨n, rfl⟩ := this x q hq
  simp [Instr.sameBits]
theorem keyStays_run {x : List Int} : (Instr.keyThatStays (encK x) (encK x)).run P w = .ok (encK x) w := by
  unfold Instr.keyThatStays
  rw [if_pos (sameBits_refl x)]
  rfl
/-- Where a key stands. -/
def findP (k : List Int) : List (List Int × Int) → Nat → Option (Nat × Int)
  | [], _ => none
  | e :: l, i => match decide (e.1 = k) with
    | true => some (i, e.2)
    | false => findP k l (i + 1)
theorem findP_has (k : List Int) : ∀ (l : List (List Int × Int)) (i : Nat), findP k l i = none ↔ mHas k l = false
  | [], i => by simp [findP, mHas]
  | e :: l, i => by
    simp only [findP, mHas]
    cases decide (e.1 = k) with
    | true => simp
    | false => exact findP_has k l (i + 1)
theorem findP_get (k : List Int) : ∀ (l : List (List Int × Int)) (i : Nat), (match findP k l i with | some q => q.2 | none => 0) = mGet k l
  | [], i => rfl
  | e :: l, i => by
    simp only [findP, mGet]
    cases decide (e.1 = k) with
    | true => rfl
    | false => exact findP_get k l (i + 1)
theorem find_run {kt n : Nat} (hk : KeyOk P kt n) {u : Bool} {k : List Int} (hkl : k.length = n) : ∀ (es : List (List Int × Int)) (es' : List MapEntry) (i : Nat), MapIs u n es es' → (Instr.findAsking kt (encK k) es' i).run P w = .ok ((findP k es i).map fun q => (q.1, valU u q.2)) w
  | [], [], i, _ => rfl
  | e :: es, e' :: es', i, h => by
    obtain ⟨⟨h1, h2, h3⟩, h4⟩ := h
    simp only [Instr.findAsking, Sem.run_bind, h2, hk.1 k e.1 hkl h1, Result.andThen_ok, findP]
    cases decide (e.1 = k) with
    | true => simp only [if_true, h3]; rfl
    | false => simp only [Bool.false_eq_true, if_false]; exact find_run hk hkl es es' (i + 1) h4
  | [], _ :: _, _, h => h.elim
  | _ :: _, [], _, h => h.elim
theorem findNow_none {d : TypeDesc} {k : List Int} : ∀ {es : List (List Int × Int)} {es' : List MapEntry} {u : Bool} {n i : Nat}, MapIs u n es es' → Instr.findNow d (encK k) es' i = none ∨ (es' = [] ∧ es = [])
  | [], [], _, _, _, _ => Or.inr ⟨rfl, rfl⟩
  | e :: es, e' :: es', u, n, i, h => by
    left
    simp only [Instr.findNow]
    have : Instr.sameNow d (encK k) e'.key = none := by
      rw [h.1.2.1]
      unfold encK
      cases d <;> rfl
    rw [this]
  | [], _ :: _, _, _, _, h => h.elim
  | _ :: _, [], _, _, _, h => h.elim
theorem findKey_run {kt n : Nat} (hk : KeyOk P kt n) {d : TypeDesc} (hd : P.underlying kt = some d) {u : Bool} {k : List Int} (hkl : k.length = n) {es : List (List Int × Int)} {es' : List MapEntry} (h : MapIs u n es es') : (Instr.findKey kt (encK k) es').run P w = .ok ((findP k es 0).map fun q => (q.1, valU u q.2)) w := by
  simp only [Instr.findKey, Sem.run_bind, underlying_run hd, Result.andThen_ok]
  rcases findNow_none (d := d) (k := k) (i := 0) h with h1 | ⟨rfl, rfl⟩
  · rw [h1]
    exact find_run hk hkl es es' 0 h
  · rfl
theorem elemU_spec {et : TypeId} {u : Bool} (h : elemU P et = some u) : ∃ i, P.info? et = some i ∧ i.zero = some (valU u 0) := by
  unfold elemU at h
  split at h
  · rename_i i hi
    refine ⟨i, hi, ?_⟩
    split at h
    · rename_i c hz
      split at h
      · rename_i hc
        simp only [Option.some.injEq] at h
        subst h
        rw [hz]
        have : c = #[] := by apply Array.ext'; simpa using hc
        rw [this]; rfl
      · cases h
    · rename_i x hz
      split at h
      · simp only [Option.some.injEq] at h
        subst h
        rw [hz]; rfl
      · cases h
    · cases h
  · cases h
theorem ofU_spec {u : Bool} {y : Value} {x : Int} (h : ofU u y = some x) : y = valU u x := by
  unfold ofU at h
  split at h
  · rename_i c
    split at h
    · rename_i hc
      have : c = #[] := by apply Array.ext'; simpa using hc
      rw [this]; rfl
    · cases h
  · simp only [Option.some.injEq] at h
    subst h; rfl
  · cases h
theorem ints_key {n : Nat} {c : Array Value} {k : List Int} (h : ints64 n c.toList = some k) : Value.agg c = encK k ∧ k.length = n := by
  obtain ⟨h1, h2⟩ := ints64_spec h
  refine ⟨?_, h2⟩
  unfold encK
  rw [← h1]
theorem plain_encK (k : List Int) : plain (encK k) = true := by
  show allL plain0 (k.map (Value.int .i64)) = true
  refine allL_iff.2 fun x hx => ?_
  obtain ⟨n, _, rfl⟩ := List.mem_map.1 hx
  rfl
theorem plain_valU (u : Bool) (x : Int) : plain1 (valU u x) = true := by cases u <;> rfl
theorem R_valU {u : Bool} {x : Int} : R r (valU u x) (valU u x) := by
  refine (R_plain ?_).2 rfl
  cases u <;> rfl
theorem R_map {v' : Value} {b : Nat} (h : R r (.map (some b)) v') : ∃ q, v' = .map (some q) ∧ (r b = some none ∨ ∃ p, r b = some (some p) ∧ q = p.blk) := by
  have h' : R0 r (.map (some b)) v' := h
  unfold R0 at h'
  simp only at h'
  revert h'
  cases hq : r b with
  | none => exact fun h => h.elim
  | some x => cases x with
    | none => rintro ⟨q, rfl⟩; exact ⟨q, rfl, Or.inl rfl⟩
    | some p => rintro rfl; exact ⟨_, rfl, Or.inr ⟨p, rfl, rfl⟩⟩
theorem map_live (hr : RelAt w0 keep r ⟨tm, m⟩ a w) {b q : Nat} {k : Blk} (hk : m[b]? = some k) (hl : r b = some none ∨ ∃ p, r b = some (some p) ∧ q = p.blk) (hg : k ≠ .gone) : ∃ p, r b = some (some p) ∧ q = p.blk ∧ BlkRel w r p k := by
  rcases hl with hl | ⟨p, h1, h2⟩
  · have := hr.2.2.dead _ hl
    rw [hk] at this
    simp only [Option.some.injEq] at this
    exact absurd this hg
  · exact ⟨p, h1, h2, hr.2.2.at h1 hk⟩

theorem act_makeMap {o : Oper} {t : TypeId} {res : Option Operand} (ho : o.op = .makeMap t res) (hr : RelAt w0 keep r ⟨tm, m⟩ a w) (h : (effOf0 P cs tm o).res = some e) (g : (runE cls pos m e).res = some (v, m')) : Ran P w0 keep r a w o v m' := by
  unfold effOf0 at h
  simp only [ho] at h
  split at h
  rotate_left
  · simp [Ans.res] at h
  rename_i kt et ht
  split at h
  rotate_left
  · simp [Ans.res] at h
  rename_i n u hn hu hres
  simp only [Ans.res, Option.some.injEq] at h
  subst h
  obtain ⟨b, hb, rfl, rfl⟩ := makeE g
  refine Ran.push hr hb (p := ⟨w.heap.size, 0, 0, 0, 0, true⟩) rfl rfl (by simp) (ob := .map #[] 0) (v' := .map (some w.heap.size)) ?_ ⟨rfl, rfl, #[], 0, get_push_self _, trivial⟩ ?_
  · simp only [execOp, ho]
    refine run_value ?_
    cases res with
    | none => rfl
    | some y =>
      unfold resvOk at hres
      simp only at hres
      have hy := eval_R hr y
      simp only at hy
      split at hres
      · rename_i kd x hq
        rw [hq] at hy
        simp only [Option.map_some, Instr.makeMap, Sem.run_bind, underlying_run ht, Result.andThen_ok, R_int hy, asInt, Sem.run_pure, newObj]
        rfl
      · cases hres
  · show R0 _ (.map (some b)) _
    unfold R0
    simp [Ren.put]

theorem act_lookup {o : Oper} {t : TypeId} {x ix : Operand} {ok : Bool} (hkeys : ∀ kt n, cs.keys kt = some n → KeyOk P kt n) (ho : o.op = .lookup t x ix ok) (hr : RelAt w0 keep r ⟨tm, m⟩ a w) (h : (effOf0 P cs tm o).res = some e) (g : (runE cls pos m e).res = some (v, m')) : Ran P w0 keep r a w o v m' := by
  unfold effOf0 at h
  simp only [ho] at h
  have hx := eval_R hr x
  have hi := eval_R hr ix
  simp only at hx hi
  split at h
  rotate_left
  · simp [Ans.res] at h
  rename_i kt et b c ht hq hq2
  rw [hq] at hx
  rw [hq2] at hi
  split at h
  rotate_left
  · simp [Ans.res] at h
  rename_i n u hn hu
  split at h
  rotate_left
  · simp [Ans.res] at h
  rename_i key hkey
  simp only [Ans.res, Option.some.injEq] at h
  subst h
  obtain ⟨k, h1, h2, rfl⟩ := readE g
  obtain ⟨hce, hkl⟩ := ints_key hkey
  rw [hce] at hi
  have hi' : a.eval ix = encK key := (R_plain (plain_encK key)).1 hi
  obtain ⟨q, hqv, hl⟩ := R_map hx
  have hk := hkeys kt n hn
  obtain ⟨i, hinfo, hzero⟩ := elemU_spec hu
  unfold lookB at h2
  split at h2
  rotate_left
  · simp [Ans.res] at h2
  rename_i u' n' es
  split at h2
  rotate_left
  · simp [Ans.res] at h2
  rename_i hb
  simp only [Bool.and_eq_true, decide_eq_true_eq] at hb
  obtain ⟨rfl, hnn⟩ := hb
  have hnn' : n' = n := Nat.eq_of_beq_eq_true hnn
  subst hnn'
  obtain ⟨p, hp, rfl, hown, hoff, es', ck, hheap, his⟩ := map_live hr h1 hl (by simp)
  obtain ⟨d, hd⟩ := hk.2.2
  have hget : (getObj p.blk).run P w = .ok (.map es' ck) w := by simp only [getObj, Sem.run, hheap]
  have hfind := findKey_run (w := w) hk hd hkl his
  have hcore : (Instr.lookup t (.map (some p.blk)) (encK key) ok).run P w = .ok (if ok then .tuple #[valU u' (mGet key es), .bool (mHas key es)] else valU u' (mGet key es)) w := by
    simp only [Instr.lookup, Sem.run_bind, underlying_run ht, Result.andThen_ok, hget, Sem.run_pure, hk.2.1 key hkl, hfind]
    cases hf : findP key es 0 with
    | none =>
      have hh := (findP_has key es 0).1 hf
      have hg := findP_get key es 0
      rw [hf] at hg
      simp only at hg
      simp only [Option.map_none, Sem.run_bind, zeroValue_run hinfo hzero, Result.andThen_ok, Sem.run_pure, hh, ← hg]
    | some y =>
      have hh : mHas key es = true := by
        cases hm : mHas key es with
        | true => rfl
        | false => rw [(findP_has key es 0).2 hm] at hf; cases hf
      have hg := findP_get key es 0
      rw [hf] at hg
      simp only at hg
      simp only [Option.map_some, hh, ← hg]
      rfl
  cases ok with
  | true =>
    simp only [Ans.res, Option.some.injEq] at h2
    subst h2
    refine Ran.val hr (v' := .tuple #[valU u' (mGet key es), .bool (mHas key es)]) ?_ ((R_plain ?_).2 rfl)
    · simp only [execOp, ho, hqv, hi']
      refine run_value ?_
      rw [hcore]; rfl
    · show allL plain1 [valU u' (mGet key es), .bool (mHas key es)] = true
      simp only [allL, plain_valU]
      rfl
  | false =>
    simp only [Ans.res, Option.some.injEq] at h2
    subst h2
    refine Ran.val hr (v' := valU u' (mGet key es)) ?_ R_valU
    simp only [execOp, ho, hqv, hi']
    refine run_value ?_
    rw [hcore]; rfl

theorem MapIs.length {u : Bool} {n : Nat} : ∀ {es : List (List Int × Int)} {es' : List MapEntry}, MapIs u n es es' → es.length = es'.length
  | [], [], _ => rfl
  | _ :: _, _ :: _, h => by simp [MapIs.length h.2]
  | [], _ :: _, h => h.elim
  | _ :: _, [], h => h.elim
theorem MapIs.put_new {u : Bool} {n : Nat} {k : List Int} {x : Int} (hk : k.length = n) {ck : Nat} : ∀ {es : List (List Int × Int)} {es' : List MapEntry}, MapIs u n es es' → mHas k es = false → MapIs u n (mPut k x es) (es' ++ [⟨encK k, valU u x, ck⟩])
  | [], [], _, _ => ⟨⟨hk, rfl, rfl⟩, trivial⟩
  | e :: es, e' :: es', h, hh => by
    simp only [mHas] at hh
    simp only [mPut]
    cases hd : decide (e.1 = k) with
    | true => rw [hd] at hh; cases hh
    | false => rw [hd] at hh; exact ⟨h.1, MapIs.put_new hk h.2 hh⟩
  | [], _ :: _, h, _ => h.elim
  | _ :: _, [], h, _ => h.elim
theorem MapIs.put_old {u : Bool} {n : Nat} {k : List Int} {x : Int} (hk : k.length = n) : ∀ {es : List (List Int × Int)} {es' : List MapEntry} {i j : Nat} {y : Int}, MapIs u n es es' → findP k es i = some (j, y) →
    i ≤ j ∧ (es'[j - i]?).map (·.key) = some (encK k) ∧ MapIs u n (mPut k x es) (es'.modify (j - i) fun e => { e with key := encK k, val := valU u x })
  | [], [], i, j, y, _, h => by simp [findP] at h
  | e :: es, e' :: es', i, j, y, h, hf => by
    simp only [findP] at hf
    simp only [mPut]
    cases hd : decide (e.1 = k) with
    | true =>
      rw [hd] at hf
      simp only [Option.some.injEq, Prod.mk.injEq] at hf
      obtain ⟨rfl, _⟩ := hf
      have hek : e.1 = k := by simpa using hd
      refine ⟨Nat.le_refl _, ?_, ?_⟩
      · rw [Nat.sub_self]; simp [h.1.2.1, hek]
      · rw [Nat.sub_self]
        simp only [List.modify_zero_cons]
        exact ⟨⟨hk, rfl, rfl⟩, h.2⟩
    | false =>
      rw [hd] at hf
      obtain ⟨h1, h2, h3⟩ := MapIs.put_old hk h.2 hf
      have hs : j - i = (j - (i + 1)) + 1 := by omega
      refine ⟨by omega, ?_, ?_⟩
      · rw [hs, List.getElem?_cons_succ]; exact h2
      · rw [hs]
        simp only [List.modify_succ_cons]
        exact ⟨h.1, h3⟩
  | [], _ :: _, _, _, _, h, _ => h.elim
  | _ :: _, [], _, _, _, h, _ => h.elim

theorem act_mapUpdate {o : Oper} {t : TypeId} {x ix y : Operand} (hkeys : ∀ kt n, cs.keys kt = some n → KeyOk P kt n) (ho : o.op = .mapUpdate t x ix y) (hr : RelAt w0 keep r ⟨tm, m⟩ a w) (h : (effOf0 P cs tm o).res = some e) (g : (runE cls pos m e).res = some (v, m')) : Ran P w0 keep r a w o v m' := by
  unfold effOf0 at h
  simp only [ho] at h
  have hx := eval_R hr x
  have hi := eval_R hr ix
  have hy := eval_R hr y
  simp only at hx hi hy
  split at h
  rotate_left
  · simp [Ans.res] at h
  rename_i kt et b c ht hq hq2
  rw [hq] at hx
  rw [hq2] at hi
  split at h
  rotate_left
  · simp [Ans.res] at h
  rename_i n u hn hu
  split at h
  rotate_left
  · simp [Ans.res] at h
  rename_i key val hkey hval
  simp only [Ans.res, Option.some.injEq] at h
  subst h
  obtain ⟨k, k', h1, h2, rfl⟩ := updE g
  obtain ⟨hce, hkl⟩ := ints_key hkey
  rw [hce] at hi
  have hi' : a.eval ix = encK key := (R_plain (plain_encK key)).1 hi
  have hy' : a.eval y = valU u val := by
    rw [ofU_spec hval] at hy
    refine (R_plain ?_).1 hy
    cases u <;> rfl
  obtain ⟨q, hqv, hl⟩ := R_map hx
  have hk := hkeys kt n hn
  unfold updB at h2
  split at h2
  rotate_left
  · simp [Ans.res] at h2
  rename_i u' n' es
  split at h2
  rotate_left
  · simp [Ans.res] at h2
  rename_i hb
  simp only [Bool.and_eq_true, decide_eq_true_eq] at hb
  obtain ⟨rfl, hnn⟩ := hb
  have hnn' : n' = n := Nat.eq_of_beq_eq_true hnn
  subst hnn'
  simp only [Ans.res, Option.some.injEq, Prod.mk.injEq] at h2
  obtain ⟨rfl, rfl⟩ := h2
  obtain ⟨p, hp, rfl, hown, hoff, es', ck, hheap, his⟩ := map_live hr h1 hl (by simp)
  obtain ⟨d, hd⟩ := hk.2.2
  have hget : (getObj p.blk).run P w = .ok (.map es' ck) w := by simp only [getObj, Sem.run, hheap]
  have hset : ∀ o', (setObj p.blk o').run P w = .ok () { w with heap := w.heap.setIfInBounds p.blk o' } := fun o' => by simp only [setObj, Sem.run, hheap]
  have hlt := (Array.getElem?_eq_some_iff.1 hheap).1
  have hfind := findKey_run (w := w) hk hd hkl his
  have fin : ∀ (es2 : Array MapEntry) (ck2 : Nat), (Instr.mapUpdate t (.map (some p.blk)) (encK key) (valU u' val)).run P w = .ok () { w with heap := w.heap.setIfInBounds p.blk (.map es2 ck2) } → MapIs u' n' (mPut key val es) es2.toList → Ran P w0 keep r a w o undef (m.set b (.mp u' n' (mPut key val es))) := by
    intro es2 ck2 hrun his2
    refine ⟨r, { w with heap := w.heap.setIfInBounds p.blk (.map es2 ck2) }, undef, Or.inr ⟨?_, rfl⟩, R_undef r, ?_, Ext.refl r⟩
    · simp only [execOp, ho, hqv, hi', hy']
      exact run_unit hrun
    · refine hr.2.2.turn hp hown (by rw [h1]; exact id) ⟨fun k hk => ?_, by simp, rfl, rfl, rfl, rfl⟩ ⟨hown, hoff, es2, ck2, ?_, his2⟩
      · simp only [Array.getElem?_setIfInBounds]; rw [if_neg (fun e => hk e.symm)]
      · simp [hlt]
  cases hf : findP key es 0 with
  | none =>
    refine fin (es'.push ⟨encK key, valU u' val, ck⟩) (ck + 1) ?_ ?_
    · simp only [Instr.mapUpdate, Sem.run_bind, underlying_run ht, Result.andThen_ok, hget, hk.2.1 key hkl, hfind, hf, Option.map_none, hset]
    · rw [Array.toList_push]
      exact MapIs.put_new hkl his ((findP_has key es 0).1 hf)
  | some jy =>
    obtain ⟨j, y0⟩ := jy
    obtain ⟨_, g2, g3⟩ := MapIs.put_old (x := val) hkl his hf
    simp only [Nat.sub_zero] at g2 g3
    refine fin (es'.modify j fun e => { e with key := encK key, val := valU u' val }) ck ?_ ?_
    · have g2' : (es'[j]?).map (·.key) = some (encK key) := by rw [← Array.getElem?_toList]; exact g2
      simp only [Instr.mapUpdate, Sem.run_bind, underlying_run ht, Result.andThen_ok, hget, hk.2.1 key hkl, hfind, hf, Option.map_some, g2', Option.getD_some, keyStays_run, hset]
    · rw [Array.toList_modify]; exact g3
end
end Go.Proofs.Ytokdjjdmmahbiaa.Vx
