/-
  RingZero, from its entry. Nothing here is trusted.
-/
import Derived.Test.YtjhijkdicmbbiaaHTRl5
namespace Go.Proofs.Ytjhijkdicmbbiaa
open Go Vx Go.RowKit
theorem bd0 : bd 999 fun _ => 0 := fun _ => by show -999 ≤ (0 : Int) ∧ (0 : Int) ≤ 999; omega
theorem rzRetNN : (retA Try.prog Try.f11 (.ret, stOf 162 [(6, .bool true)] [])).res = some (.bool true, []) := by kernel_rfl
theorem rzNN (m : Int) (h0 : 0 ≤ m) (h1 : m < 256) : MemSem Try.prog 11 [.int .u8 m, .slice none 0 0, .slice none 0 0] [] (.bool true) [] := by
  have body0 : InBody ((Cyz0 Try.prog).into 11 0) (rzB Try.prog) := Or.inl ⟨Try.f11, rzB Try.prog, Try.func11, rz_eq, fun _ hx => hx⟩
  have h := rzANN m
  simp only [(And.intro rules (And.intro nots (And.intro okSs_row (And.intro sOf_row (And.intro (decide_eq_true h0) (decide_eq_true h1))))))] at h
  exact body_mem (m := []) (args := [.int .u8 m, .slice none 0 0, .slice none 0 0]) (f := 11) Try.func11 rz_eq (by kernel_rfl) (seg_rule (C := Cyz0 Try.prog) okCyz0 (f := 11) (B := 0) (k := 3) body0 h (rzLaw0 (sml m.toNat) (sml_fine _) (fun _ => 0) (fun _ => 0) bd0 bd0)) (rzRetNN)
theorem rzRetNL (n2 : Nat) (o2 : Bool) (c2 : Nat → Int): (retA Try.prog Try.f11 (.ret, stOf 162 [(6, .bool true)] [Sr o2 n2 c2])).res = some (.bool true, [Sr o2 n2 c2]) := by kernel_rfl
theorem rzNL (m : Int) (h0 : 0 ≤ m) (h1 : m < 256) (n2 : Nat) (hn2 : n2 ≤ 9223372036854775807) (o2 : Bool) (c2 : Nat → Int) : MemSem Try.prog 11 [.int .u8 m, .slice none 0 0, SI 0 n2] [Sr o2 n2 c2] (.bool true) [Sr o2 n2 c2] := by
  have body0 : InBody ((Cyz0 Try.prog).into 11 1) (rzB Try.prog) := Or.inl ⟨Try.f11, rzB Try.prog, Try.func11, rz_eq, fun _ hx => hx⟩
  have h := rzANL m n2 o2 c2
  simp only [(And.intro rules (And.intro nots (And.intro okSs_row (And.intro sOf_row (And.intro (decide_eq_true h0) (And.intro (decide_eq_true h1) (decide_eq_true hn2)))))))] at h
  exact body_mem (m := [Sr o2 n2 c2]) (args := [.int .u8 m, .slice none 0 0, SI 0 n2]) (f := 11) Try.func11 rz_eq (by kernel_rfl) (seg_rule (C := Cyz0 Try.prog) okCyz0 (f := 11) (B := 1) (k := 3) body0 h (rzLaw1 n2 o2 c2 (sml m.toNat) (sml_fine _) (fun _ => 0) (smC ((sml m.toNat).toNat / 3) c2 n2) bd0 (smC_bd _ c2 n2))) (rzRetNL n2 o2 c2)
theorem rzRetLN (n1 : Nat) (o1 : Bool) (c1 : Nat → Int): (retA Try.prog Try.f11 (.ret, stOf 162 [(6, .bool true)] [Sr o1 n1 c1])).res = some (.bool true, [Sr o1 n1 c1]) := by kernel_rfl
theorem rzLN (m : Int) (h0 : 0 ≤ m) (h1 : m < 256) (n1 : Nat) (hn1 : n1 ≤ 9223372036854775807) (o1 : Bool) (c1 : Nat → Int) : MemSem Try.prog 11 [.int .u8 m, SI 0 n1, .slice none 0 0] [Sr o1 n1 c1] (.bool true) [Sr o1 n1 c1] := by
  have body0 : InBody ((Cyz0 Try.prog).into 11 1) (rzB Try.prog) := Or.inl ⟨Try.f11, rzB Try.prog, Try.func11, rz_eq, fun _ hx => hx⟩
  have h := rzALN m n1 o1 c1
  simp only [(And.intro rules (And.intro nots (And.intro okSs_row (And.intro sOf_row (And.intro (decide_eq_true h0) (And.intro (decide_eq_true h1) (decide_eq_true hn1)))))))] at h
  exact body_mem (m := [Sr o1 n1 c1]) (args := [.int .u8 m, SI 0 n1, .slice none 0 0]) (f := 11) Try.func11 rz_eq (by kernel_rfl) (seg_rule (C := Cyz0 Try.prog) okCyz0 (f := 11) (B := 1) (k := 3) body0 h (rzLaw1 n1 o1 c1 (sml m.toNat) (sml_fine _) (smC ((sml m.toNat).toNat / 3) c1 n1) (fun _ => 0) (smC_bd _ c1 n1) bd0)) (rzRetLN n1 o1 c1)
theorem rzRetLL (n1 : Nat) (o1 : Bool) (c1 : Nat → Int) (n2 : Nat) (o2 : Bool) (c2 : Nat → Int): (retA Try.prog Try.f11 (.ret, stOf 162 [(6, .bool true)] [Sr o1 n1 c1, Sr o2 n2 c2])).res = some (.bool true, [Sr o1 n1 c1, Sr o2 n2 c2]) := by kernel_rfl
theorem rzLL (m : Int) (h0 : 0 ≤ m) (h1 : m < 256) (n1 : Nat) (hn1 : n1 ≤ 9223372036854775807) (o1 : Bool) (c1 : Nat → Int) (n2 : Nat) (hn2 : n2 ≤ 9223372036854775807) (o2 : Bool) (c2 : Nat → Int) : MemSem Try.prog 11 [.int .u8 m, SI 0 n1, SI 1 n2] [Sr o1 n1 c1, Sr o2 n2 c2] (.bool true) [Sr o1 n1 c1, Sr o2 n2 c2] := by
  have body0 : InBody ((Cyz0 Try.prog).into 11 2) (rzB Try.prog) := Or.inl ⟨Try.f11, rzB Try.prog, Try.func11, rz_eq, fun _ hx => hx⟩
  have h := rzALL m n1 o1 c1 n2 o2 c2
  simp only [(And.intro rules (And.intro nots (And.intro okSs_row (And.intro sOf_row (And.intro (decide_eq_true h0) (And.intro (decide_eq_true h1) (And.intro (decide_eq_true hn1) (decide_eq_true hn2))))))))] at h
  exact body_mem (m := [Sr o1 n1 c1, Sr o2 n2 c2]) (args := [.int .u8 m, SI 0 n1, SI 1 n2]) (f := 11) Try.func11 rz_eq (by kernel_rfl) (seg_rule (C := Cyz0 Try.prog) okCyz0 (f := 11) (B := 2) (k := 3) body0 h (rzLaw2 n1 o1 c1 n2 o2 c2 (sml m.toNat) (sml_fine _) (smC ((sml m.toNat).toNat / 3) c1 n1) (smC ((sml m.toNat).toNat / 3) c2 n2) (smC_bd _ c1 n1) (smC_bd _ c2 n2))) (rzRetLL n1 o1 c1 n2 o2 c2)
end Go.Proofs.Ytjhijkdicmbbiaa
