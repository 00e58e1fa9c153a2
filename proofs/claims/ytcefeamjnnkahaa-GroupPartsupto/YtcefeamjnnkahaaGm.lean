/-
  The numbers of the sort's functions in this program, for the library's contract of the sort. Nothing here is trusted.
-/
import Derived.Shelf.SlSortCmp.WholeK
import Derived.Test.YtcefeamjnnkahaaProg
import Derived.Test.YtcefeamjnnkahaaGl

namespace Go.Proofs.Ytcefeamjnnkahaa
open Go Go.Proofs Go.Shelf
def sortOp_ren : Go.Shelf.Ren := ⟨fun | 6 => 32 | 15 => 50 | 14 => 49 | 28 => 77 | 29 => 78 | 20 => 69 | 21 => 70 | 22 => 71 | 23 => 72 | 24 => 73 | 25 => 74 | 26 => 75 | 27 => 76 | 46 => 89 | 47 => 90 | 48 => 91 | 49 => 92 | 50 => 93 | 57 => 100 | n => n, fun | 22 => 22 | 24 => 37 | 25 => 74 | 3 => 3 | 39 => 95 | 0 => 0 | 53 => 123 | 55 => 125 | 4 => 4 | 46 => 117 | 45 => 116 | 50 => 84 | 5 => 5 | 9 => 9 | 66 => 132 | 70 => 136 | 76 => 141 | 77 => 42 | n => n, fun | n => n⟩
theorem sortOp : Go.Proofs.SlLaysF0.n6 Try.prog sortOp_ren := {
  mixed := by kernel_rfl
  f6 := ⟨Try.f32.name, by decide, Try.func32.trans (congrArg some (by kernel_rfl))⟩
  f14 := ⟨Try.f49.name, by decide, Try.func49.trans (congrArg some (by kernel_rfl))⟩
  f15 := Try.func50.trans (congrArg some (by kernel_rfl))
  f20 := ⟨Try.f69.name, by decide, Try.func69.trans (congrArg some (by kernel_rfl))⟩
  f21 := ⟨Try.f70.name, by decide, Try.func70.trans (congrArg some (by kernel_rfl))⟩
  f22 := ⟨Try.f71.name, by decide, Try.func71.trans (congrArg some (by kernel_rfl))⟩
  f23 := ⟨Try.f72.name, by decide, Try.func72.trans (congrArg some (by kernel_rfl))⟩
  f24 := ⟨Try.f73.name, by decide, Try.func73.trans (congrArg some (by kernel_rfl))⟩
  f25 := ⟨Try.f74.name, by decide, Try.func74.trans (congrArg some (by kernel_rfl))⟩
  f26 := ⟨Try.f75.name, by decide, Try.func75.trans (congrArg some (by kernel_rfl))⟩
  f27 := ⟨Try.f76.name, by decide, Try.func76.trans (congrArg some (by kernel_rfl))⟩
  f28 := Try.func77.trans (congrArg some (by kernel_rfl))
  f29 := Try.func78.trans (congrArg some (by kernel_rfl))
  f46 := ⟨Try.f89.name, by decide, Try.func89.trans (congrArg some (by kernel_rfl))⟩
  f47 := Try.func90.trans (congrArg some (by kernel_rfl))
  f48 := Try.func91.trans (congrArg some (by kernel_rfl))
  f49 := ⟨Try.f92.name, by decide, Try.func92.trans (congrArg some (by kernel_rfl))⟩
  f50 := ⟨Try.f93.name, by decide, Try.func93.trans (congrArg some (by kernel_rfl))⟩
  f57 := ⟨Try.f100.name, by decide, Try.func100.trans (congrArg some (by kernel_rfl))⟩
  t0 := Try.underlying0
  a0 := Try.isAgg0
  z0 := Try.sizeOf0
  v0 := Try.zeroValue0
  t3 := Try.underlying3
  a3 := Try.isAgg3
  z3 := Try.sizeOf3
  v3 := Try.zeroValue3
  t4 := Try.underlying4
  a4 := Try.isAgg4
  z4 := Try.sizeOf4
  v4 := Try.zeroValue4
  t5 := Try.underlying5
  a5 := Try.isAgg5
  z5 := Try.sizeOf5
  v5 := Try.zeroValue5
  t9 := Try.underlying9
  a9 := Try.isAgg9
  z9 := Try.sizeOf9
  v9 := Try.zeroValue9
  t22 := Try.underlying22
  a22 := Try.isAgg22
  z22 := Try.sizeOf22
  v22 := Try.zeroValue22
  t25 := Try.underlying74
  a25 := Try.isAgg74
  z25 := Try.sizeOf74
  v25 := Try.zeroValue74
  t39 := Try.underlying95
  a39 := Try.isAgg95
  z39 := Try.sizeOf95
  v39 := Try.zeroValue95
  t45 := Try.underlying116
  a45 := Try.isAgg116
  z45 := Try.sizeOf116
  v45 := Try.zeroValue116
  t46 := Try.underlying117
  a46 := Try.isAgg117
  z46 := Try.sizeOf117
  v46 := Try.zeroValue117
  t50 := Try.underlying84
  a50 := Try.isAgg84
  z50 := Try.sizeOf84
  v50 := Try.zeroValue84
  t53 := Try.underlying123
  a53 := Try.isAgg123
  z53 := Try.sizeOf123
  v53 := Try.zeroValue123
  t55 := Try.underlying125
  a55 := Try.isAgg125
  z55 := Try.sizeOf125
  v55 := Try.zeroValue125
  t66 := Try.underlying132
  a66 := Try.isAgg132
  z66 := Try.sizeOf132
  v66 := Try.zeroValue132
  t70 := Try.underlying136
  a70 := Try.isAgg136
  z70 := Try.sizeOf136
  v70 := Try.zeroValue136
  t76 := Try.underlying141
  a76 := Try.isAgg141
  z76 := Try.sizeOf141
  v76 := Try.zeroValue141
  t77 := Try.underlying42
  a77 := Try.isAgg42
  z77 := Try.sizeOf42
  v77 := Try.zeroValue42 }
end Go.Proofs.Ytcefeamjnnkahaa


namespace Go.Proofs.Ytcefeamjnnkahaa
open Go Vx Go.Shelf Go.RowKit
instance : Inhabited O3 := ⟨O3.zero⟩
def cmpO (a b : O3) : Int := lexI a.l b.l
theorem below_grow {W w' : World} (hb : Below W.heap.size W w') (hd : W.drawn ≤ w'.drawn) : ∃ q os', w' = Go.Sort.grow (W.drewN q) os' := by
  refine ⟨w'.drawn - W.drawn, w'.heap.extract W.heap.size w'.heap.size, ?_⟩
  obtain ⟨h1, h2, h3, h4, h5⟩ := hb
  cases w' with | mk heap tape drawn os output =>
  cases W with | mk heap0 tape0 drawn0 os0 output0 =>
  simp only at h1 h2 h3 h4 h5 hd
  subst h1 h2 h3
  simp only [Go.Sort.grow, World.drewN, World.mk.injEq, true_and, and_true]
  refine ⟨?_, by omega⟩
  apply Array.ext_getElem?
  intro i
  by_cases hi : i < heap0.size
  · rw [Array.getElem?_append_left hi, h5 i hi]
  · rw [Array.getElem?_append_right (by omega), Array.getElem?_extract]
    by_cases hj : i < heap.size
    · rw [if_pos (by omega), show heap0.size + (i - heap0.size) = i by omega]
    · rw [if_neg (by omega), Array.getElem?_eq_none (by omega)]
theorem cmpSem (a b : O3) : PlainSem Try.prog 33 [a.v, b.v] (vI (cmpO a b)) := okCg.tbl 33 [a.v, b.v] (vI (cmpO a b)) (by intro x hx; simp only [List.mem_cons, List.not_mem_nil, or_false] at hx; rcases hx with rfl | rfl <;> rfl) rfl rfl
theorem lt_t {x y : O3} : Go.Proofs.ltOf cmpO x y = true ↔ lexI x.l y.l < 0 := decide_eq_true_iff
theorem lt_f {x y : O3} : Go.Proofs.ltOf cmpO x y = false ↔ ¬ lexI x.l y.l < 0 := decide_eq_false_iff_not
theorem cmp_swo : Go.Sort.SWO (Go.Proofs.ltOf cmpO) where
  irrefl x := by
    have := (lexI_zero (l := x.l) (m := x.l) rfl).2 rfl
    rw [lt_f, this]
    omega
  trans x y z h1 h2 := by
    rw [lt_t] at *
    have h3 := lexI_trans (l := x.l) (m := y.l) (n := z.l) rfl rfl (by omega) (by omega)
    by_cases h0 : lexI x.l z.l = 0
    · have e := (lexI_zero (l := x.l) (m := z.l) rfl).1 h0
      rw [e, lexI_neg y.l z.l] at h1
      omega
    · omega
  ntrans x y z h1 h2 := by
    rw [lt_f] at *
    have e1 := lexI_neg x.l y.l
    have e2 := lexI_neg y.l z.l
    have e3 := lexI_neg x.l z.l
    have h3 := lexI_trans (l := z.l) (m := y.l) (n := x.l) rfl rfl (by omega) (by omega)
    omega
/-- A list in order. -/
def insO (o : O3) : List O3 → List O3
  | [] => [o]
  | x :: l => match decide (lexI x.l o.l < 0) with
    | true => x :: insO o l
    | false => o :: x :: l
def sortO : List O3 → List O3
  | [] => []
  | o :: l => insO o (sortO l)
def SortedO (l : List O3) : Prop := l.Pairwise fun a b => lexI a.l b.l ≤ 0
theorem insO_perm (o : O3) : ∀ (l : List O3), (insO o l).Perm (o :: l)
  | [] => List.Perm.refl _
  | x :: l => by
    simp only [insO]
    split
    · exact ((insO_perm o l).cons x).trans (List.Perm.swap o x l)
    · exact List.Perm.refl _
theorem sortO_perm : ∀ (l : List O3), (sortO l).Perm l
  | [] => List.Perm.refl _
  | o :: l => (insO_perm o (sortO l)).trans ((sortO_perm l).cons o)
theorem insO_sorted (o : O3) : ∀ (l : List O3), SortedO l → SortedO (insO o l)
  | [], _ => by simp [insO, SortedO]
  | x :: l, h => by
    unfold SortedO at h
    rw [List.pairwise_cons] at h
    simp only [insO]
    split
    · rename_i hd
      have hd' : lexI x.l o.l < 0 := by simpa using hd
      unfold SortedO
      rw [List.pairwise_cons]
      refine ⟨fun y hy => ?_, insO_sorted o l h.2⟩
      rcases List.mem_cons.1 ((insO_perm o l).mem_iff.1 hy) with rfl | hy
      · omega
      · exact h.1 y hy
    · rename_i hd
      have hd' : ¬ lexI x.l o.l < 0 := by simpa using hd
      have ho : lexI o.l x.l ≤ 0 := by rw [lexI_neg x.l o.l]; omega
      unfold SortedO
      rw [List.pairwise_cons]
      refine ⟨fun y hy => ?_, List.pairwise_cons.2 h⟩
      rcases List.mem_cons.1 hy with rfl | hy
      · exact ho
      · exact lexI_trans (l := o.l) (m := x.l) (n := y.l) rfl rfl ho (h.1 y hy)
theorem sortO_sorted : ∀ (l : List O3), SortedO (sortO l)
  | [] => List.Pairwise.nil
  | o :: l => insO_sorted o _ (sortO_sorted l)
/-- Lists in order with the same members are one. -/
theorem sorted_one : ∀ {l m : List O3}, SortedO l → SortedO m → l.Perm m → l = m
  | [], m, _, _, hp => by rw [List.nil_perm.1 hp]
  | x :: l, m, hl, hm, hp => by
    cases m with
    | nil => exact absurd hp.symm (by simp)
    | cons y m =>
      unfold SortedO at hl hm
      rw [List.pairwise_cons] at hl hm
      have hxy : x = y := by
        have hx : x ∈ y :: m := hp.mem_iff.1 (by simp)
        have hy : y ∈ x :: l := hp.mem_iff.2 (by simp)
        rcases List.mem_cons.1 hx with rfl | hx
        · rfl
        · rcases List.mem_cons.1 hy with rfl | hy
          · rfl
          · have h1 := hm.1 x hx
            have h2 := hl.1 y hy
            have h3 := lexI_neg x.l y.l
            exact O3.l_inj ((lexI_zero (l := x.l) (m := y.l) rfl).1 (by omega))
      subst hxy
      rw [sorted_one hl.2 hm.2 ((List.perm_cons x).1 hp)]
/-- What the library says of the sort, as a list. -/
theorem sorted_list {d d' : Array O3} (hp : Go.Sort.PermIn 0 d.size d d') (hs : Go.Sort.SortedIn (Go.Proofs.ltOf cmpO) 0 d.size d') : d'.toList = sortO d.toList := by
  obtain ⟨h1, -, h3⟩ := hp
  rw [Array.extract_size, show d'.extract 0 d.size = d' by rw [← h1, Array.extract_size]] at h3
  refine sorted_one ?_ (sortO_sorted _) (h3.trans (sortO_perm _).symm)
  unfold SortedO
  rw [List.pairwise_iff_getElem]
  intro i j hi hj hij
  have hi' : i < d'.size := by simpa using hi
  have hj' : j < d'.size := by simpa using hj
  have h := hs i j (Nat.zero_le _) hij (by omega)
  rw [getElem!_pos d' j hj', getElem!_pos d' i hi', lt_f] at h
  have h4 := lexI_neg d'[j].l d'[i].l
  simp only [Array.getElem_toList]
  omega
end Go.Proofs.Ytcefeamjnnkahaa


namespace Go.Proofs.Ytcefeamjnnkahaa
open Go Vx Go.Shelf Go.RowKit Go.Sort
theorem O3.cells_len (o : O3) : o.cells.length = 12 := rfl
theorem O3.cells_plain (o : O3) : allL plain0 o.cells = true := rfl
theorem O3.cells_cell (o : O3) (k : Nat) (hk : k < 12) : o.cells[k]? = some o.cells[k]! ∧ plain0 o.cells[k]! = true := by
  match k, hk with
  | 0, _ => exact ⟨rfl, rfl⟩
  | 1, _ => exact ⟨rfl, rfl⟩
  | 2, _ => exact ⟨rfl, rfl⟩
  | 3, _ => exact ⟨rfl, rfl⟩
  | 4, _ => exact ⟨rfl, rfl⟩
  | 5, _ => exact ⟨rfl, rfl⟩
  | 6, _ => exact ⟨rfl, rfl⟩
  | 7, _ => exact ⟨rfl, rfl⟩
  | 8, _ => exact ⟨rfl, rfl⟩
  | 9, _ => exact ⟨rfl, rfl⟩
  | 10, _ => exact ⟨rfl, rfl⟩
  | 11, _ => exact ⟨rfl, rfl⟩
  | k + 12, h => omega
theorem opRow_arr {xs : List O3} {i : Nat} (hi : i < xs.length) : opRow xs i = (xs.toArray[i]!).cells := by
  unfold opRow
  rw [getElem!_pos xs.toArray i (by simpa using hi)]
  simp [hi]
/-- A list of maps, held as the library's sort wants it. -/
theorem holds_ops {w : World} {r : Vx.Ren} {p : Vx.Place} {xs : List O3} (h : BlkRel w r p (.rows true true 12 xs.length (opRow xs))) : HoldsK O3.cells 12 w p.blk p.off xs.toArray := by
  obtain ⟨_, _, _, _, cs, T, fz, _, h3, h4, h5⟩ := h
  obtain ⟨rfl, -⟩ := h4 rfl
  intro t ht
  rw [size_flatK] at ht
  have ht' : t < xs.length * 12 := by simpa using ht
  rw [get_flatK _ _ _ t ht]
  have hi : t / 12 < xs.length := by omega
  obtain ⟨h6, h7⟩ := O3.cells_cell (xs.toArray[t / 12]!) (t % 12) (by omega)
  obtain ⟨v', h8, h9⟩ := (h5 (t / 12) hi).2 (t % 12) _ (by rw [opRow_arr hi]; exact h6)
  rw [R0_plain h7] at h9
  subst h9
  refine ⟨?_, ?_⟩
  · rw [show p.off + t = p.off + t / 12 * 12 + t % 12 by omega, cell_of h3]
    exact h8
  · simp [World.frozen?, h3]
/-- The row laid anew: only this block changes. -/
theorem put_only (w : World) (blk off : Nat) (d : Array O3) : Only blk w (putRowK O3.cells 12 w blk off d) := by
  refine ⟨fun k hk => ?_, ?_, rfl, rfl, rfl, rfl⟩
  · simp only [putRowK, Go.Sort.putRow, Go.Sort.mapBlock, Array.getElem?_modify, if_neg (Ne.symm hk)]
  · simp only [putRowK, Go.Sort.putRow, Go.Sort.mapBlock, Array.size_modify]
theorem put_rel {w : World} {r : Vx.Ren} {p : Vx.Place} {xs ys : List O3} (hl : ys.length = xs.length) (h : BlkRel w r p (.rows true true 12 xs.length (opRow xs))) : BlkRel (putRowK O3.cells 12 w p.blk p.off ys.toArray) r p (.rows true true 12 xs.length (opRow ys)) := by
  have hh := holdsK_putRowK O3.cells 12 w p.blk p.off xs.toArray ys.toArray (holds_ops h) (by simpa using hl)
  obtain ⟨h1, h2, h0, _, cs, T, fz, h6, h3, h4, h5⟩ := h
  have hw : (putRowK O3.cells 12 w p.blk p.off ys.toArray).heap[p.blk]? = some (.cells (Go.Sort.putCells id p.off (flatK O3.cells 12 ys.toArray) cs) T fz) := by
    simp only [putRowK, Go.Sort.putRow, Go.Sort.mapBlock, Array.getElem?_modify, h3]
    rfl
  refine ⟨h1, h2, h0, fun _ i hi => O3.cells_plain _, _, T, fz, h6, hw, fun ho => ⟨(h4 ho).1, by simpa [Go.Sort.putCells] using (h4 ho).2⟩, fun i hi => ⟨rfl, fun k v hv => ?_⟩⟩
  have hk : k < 12 := (List.getElem?_eq_some_iff.1 hv).1
  have hi' : i < ys.length := by omega
  rw [opRow_arr hi'] at hv
  obtain ⟨h7, h8⟩ := O3.cells_cell (ys.toArray[i]!) k hk
  rw [h7] at hv
  have ht : i * 12 + k < ys.toArray.size * 12 := by simp; omega
  have := (hh (i * 12 + k) (by rw [size_flatK]; exact ht)).1
  rw [get_flatK _ _ _ _ ht, show (i * 12 + k) / 12 = i by omega, show (i * 12 + k) % 12 = k by omega] at this
  simp only [World.cell?, hw, id] at this
  simp only [Option.some.injEq] at hv
  subst hv
  exact ⟨_, by rw [Nat.add_assoc]; exact this, (R0_plain h8).2 rfl⟩
end Go.Proofs.Ytcefeamjnnkahaa


namespace Go.Proofs.Ytcefeamjnnkahaa
open Go Vx Go.Shelf Go.RowKit Go.Sort
theorem cmpLays (blk off size : Nat) (w : World) : CmpLays Try.prog 33 #[] O3.cells 12 cmpO blk off size w := fun _ _ _ _ x y =>
  ((cmpSem x y).2 _).mono fun _ _ ⟨he, hb, hd⟩ => ⟨he, below_grow hb hd⟩
theorem sortO_len (xs : List O3) : (sortO xs).length = xs.length := (sortO_perm xs).length_eq
theorem below_ahead (w : World) (n : Nat) : Below w.heap.size w (Go.Sort.ahead w n) := ⟨rfl, rfl, rfl, Nat.le_refl _, fun _ _ => rfl⟩
theorem below_grown (w : World) (os : Array Obj) : Below w.heap.size w (Go.Sort.grow w os) := ⟨rfl, rfl, rfl, by simp [Go.Sort.grow], fun k hk => by simp only [Go.Sort.grow]; rw [Array.getElem?_append_left hk]⟩
theorem sortSem (xs : List O3) (hl : xs.length ≤ 1000) : MemSem Try.prog 32 [.slice (some ⟨0, 0, some 0⟩) xs.length 12, .func (.func 33) #[] #[]] [.rows true true 12 xs.length (opRow xs)] (.tuple #[]) [.rows true true 12 xs.length (opRow (sortO xs))] := by
  refine ⟨okFunc_spec (by kernel_rfl), fun w0 keep r args' w ha hm => ?_⟩
  match args', ha with
  | [a', f'], ha =>
    obtain ⟨h1, h2, -⟩ := ha
    have hf : f' = .func (.func 33) #[] #[] := (R_plain (v := .func (.func 33) #[] #[]) rfl).1 h2
    subst hf
    have h1' : R0 r (.slice (some ⟨0, 0, some 0⟩) xs.length 12) a' := h1
    unfold R0 at h1'
    simp only at h1'
    cases hr : r 0 with
    | none => rw [hr] at h1'; exact h1'.elim
    | some q =>
      rw [hr] at h1'
      cases q with
      | none => have := hm.dead 0 hr; simp at this
      | some p =>
        obtain ⟨c, rfl, hsl⟩ := h1'
        obtain ⟨k, hk1, hk2⟩ := hm.blk 0 p hr
        simp only [List.getElem?_cons_zero, Option.some.injEq] at hk1
        subst hk1
        have hown : p.own = true := hk2.1
        have hcon := AnyQ.slices_SortFunc sortOp 12 Try.isAgg37 Try.sizeOf37 O3.cells O3.cells_len (fun x v hv => by
          have := allL_iff.1 (O3.cells_plain x) v hv
          cases v <;> first | rfl | cases this) cmpO cmp_swo 33 #[] p.blk p.off c xs.toArray w (enters_of Try.func33 (by kernel_rfl) rfl) (cmpLays _ _ _ _) (holds_ops hk2) hk2.lt (by simp; omega)
        change Calls Try.prog 32 _ _ _ at hcon
        have hadr : p.addr ⟨0, 0, some 0⟩ = ⟨p.blk, p.off, none⟩ := by simp [Vx.Place.addr]
        rw [hadr]
        have hsz : xs.toArray.size = xs.length := by simp
        rw [hsz] at hcon
        refine hcon.mono ?_
        rintro e w' ⟨rfl, d', n, os, hp, hs, rfl⟩
        have hd : d'.toList = sortO xs := by
          have := sorted_list (d := xs.toArray) (d' := d') (by rw [hsz]; exact hp) (by rw [hsz]; exact hs)
          simpa using this
        have hd2 : d' = (sortO xs).toArray := by rw [← hd]
        subst hd2
        refine ⟨.tuple #[], r, rfl, ⟨#[], rfl, trivial⟩, ?_, Ext.refl r⟩
        unfold sortWorldK
        have m1 := hm.later (below_ahead w n) (by simp [Go.Sort.ahead])
        have b1 : BlkRel (Go.Sort.ahead w n) r p (.rows true true 12 xs.length (opRow xs)) := hk2.mono rfl (Ext.refl r)
        have m2 := m1.turn hr hown (by simp [isGrow]) (put_only _ _ _ _) (put_rel (ys := sortO xs) (sortO_len xs) b1)
        exact m2.later (below_grown _ os) (Nat.le_refl _)
  | [], ha => exact ha.elim
  | [_], ha => exact ha.2.elim
  | _ :: _ :: _ :: _, ha => exact ha.2.2.elim
end Go.Proofs.Ytcefeamjnnkahaa
