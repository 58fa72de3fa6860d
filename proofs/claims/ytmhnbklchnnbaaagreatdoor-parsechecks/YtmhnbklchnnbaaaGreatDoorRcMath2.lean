import Derived.Test.YtmhnbklchnnbaaaGreatDoorQ19
namespace Go.Proofs.YtmhnbklchnnbaaaGreatDoor
set_option linter.unusedVariables false
set_option linter.unusedSimpArgs false
theorem vR_1 (t : Tree) : vR 1 t = validT 5 t := rfl
theorem vR_2 (t : Tree) : vR 2 t = validT 21 t := rfl
theorem vR_3 (t : Tree) : vR 3 t = validT 7 t := rfl
theorem vR_4 (t : Tree) : vR 4 t = validT 6 t := rfl
theorem vR_5 (t : Tree) : vR 5 t = validT 2 t := rfl
theorem vR_6 (t : Tree) : vR 6 t = (t.kind == 2 && validT 1 t) := rfl
theorem vR_7 (t : Tree) : vR 7 t = (t.kind == 4 && validT 1 t) := rfl
theorem vR_8 (t : Tree) : vR 8 t = (t.kind == 1 && validT 0 t) := rfl
theorem vR_9 (t : Tree) : vR 9 t = validT 15 t := rfl
theorem vR_10 (t : Tree) : vR 10 t = validT 14 t := rfl
theorem vR_11 (t : Tree) : vR 11 t = validT 12 t := rfl
theorem vR_12 (t : Tree) : vR 12 t = (t.kind == 19 && validT 13 t) := rfl
theorem vR_13 (t : Tree) : vR 13 t = validT 16 t := rfl
theorem vR_14 (t : Tree) : vR 14 t = (t.kind == 14 && validT 7 t) := rfl
theorem vR_15 (t : Tree) : vR 15 t = (t.kind == 24 && validT 11 t) := rfl
theorem vR_16 (t : Tree) : vR 16 t = ((t.kind == 12 || t.kind == 13) && validT 7 t) := rfl
theorem vR_17 (t : Tree) : vR 17 t = (t.kind == 11 && validT 7 t) := rfl
theorem vR_18 (t : Tree) : vR 18 t = (t.kind == 13 && validT 7 t) := rfl
theorem vR_19 (t : Tree) : vR 19 t = validT 17 t := rfl
theorem vR_20 (t : Tree) : vR 20 t = validT 4 t := rfl
theorem vR_21 (t : Tree) : vR 21 t = validT 3 t := rfl
theorem min1 (j : Nat) (hj : 0 < j) : (min (j : Int) 1).toNat = 1 := by omega
def tyB (x : List Nat) : Bool := isIntL x || x == [98, 111, 111, 108] || x == [98, 121, 116, 101, 115]
theorem m1_7 {a : Int} {x : List Nat} {n : Nat} : vR 1 ⟨7, a, x, n, []⟩ = ((n : Int) == 0 && (tyB x || nameB x)) := by
  rw [vR_1, valid_core 5]
  simp only [coreT]
  simp [vR_1, vR_2, vR_3, vR_4, vR_5, vR_6, vR_7, vR_8, vR_9, vR_10, vR_11, vR_12, vR_13, vR_14, vR_15, vR_16, vR_17, vR_18, vR_19, vR_20, vR_21, takesI, coreT, kidsI, textI, numI, bareB, namedB, tyB, validT.validL, asksI, pickI, eitherI, isTypeI, isStmtI, isExprI, stepI, targetI] <;> (try grind)
theorem m1_8 {a : Int} {x : List Nat} {n : Nat} {t0 : Tree} : vR 1 ⟨8, a, x, n, [t0]⟩ = (x == [] && vR 1 t0) := by
  rw [vR_1, valid_core 5]
  simp only [coreT]
  simp [vR_1, vR_2, vR_3, vR_4, vR_5, vR_6, vR_7, vR_8, vR_9, vR_10, vR_11, vR_12, vR_13, vR_14, vR_15, vR_16, vR_17, vR_18, vR_19, vR_20, vR_21, takesI, coreT, kidsI, textI, numI, bareB, namedB, tyB, validT.validL, asksI, pickI, eitherI, isTypeI, isStmtI, isExprI, stepI, targetI] <;> (try grind)
theorem m1_9 {a : Int} {x : List Nat} {n : Nat} {t0 : Tree} : vR 1 ⟨9, a, x, n, [t0]⟩ = (bareB x n && vR 1 t0) := by
  rw [vR_1, valid_core 5]
  simp only [coreT]
  simp [vR_1, vR_2, vR_3, vR_4, vR_5, vR_6, vR_7, vR_8, vR_9, vR_10, vR_11, vR_12, vR_13, vR_14, vR_15, vR_16, vR_17, vR_18, vR_19, vR_20, vR_21, takesI, coreT, kidsI, textI, numI, bareB, namedB, tyB, validT.validL, asksI, pickI, eitherI, isTypeI, isStmtI, isExprI, stepI, targetI] <;> (try grind)
theorem m4 {a : Int} {x : List Nat} {n : Nat} {ks : List Tree} (hl : ks.length ≤ 9223372036854775807) : vR 4 ⟨10, a, x, n, ks⟩ = (bareB x n && ks.all (vR 3)) := by
  rw [vR_4, valid_core 6]
  simp only [coreT]
  rw [show vR 3 = validT 7 from rfl]
  rw [vL_all 6 10 _ 7 ks 0 (fun j => by simp [asksI])]
  have hl2 : (ks.length : Int) ≤ 9223372036854775807 := by omega
  simp [vR_1, vR_2, vR_3, vR_4, vR_5, vR_6, vR_7, vR_8, vR_9, vR_10, vR_11, vR_12, vR_13, vR_14, vR_15, vR_16, vR_17, vR_18, vR_19, vR_20, vR_21, takesI, coreT, kidsI, textI, numI, bareB, namedB, tyB, validT.validL, asksI, pickI, eitherI, isTypeI, isStmtI, isExprI, stepI, targetI, hl2] <;> (try grind)
theorem m5 {a : Int} {x : List Nat} {n : Nat} {t0 : Tree} : vR 5 ⟨3, a, x, n, [t0]⟩ = (namedB x n false && vR 1 t0) := by
  rw [vR_5, valid_core 2]
  simp only [coreT]
  simp [vR_1, vR_2, vR_3, vR_4, vR_5, vR_6, vR_7, vR_8, vR_9, vR_10, vR_11, vR_12, vR_13, vR_14, vR_15, vR_16, vR_17, vR_18, vR_19, vR_20, vR_21, takesI, coreT, kidsI, textI, numI, bareB, namedB, tyB, validT.validL, asksI, pickI, eitherI, isTypeI, isStmtI, isExprI, stepI, targetI] <;> (try grind)
theorem m6 {a : Int} {x : List Nat} {n : Nat} {ks : List Tree} (hl : ks.length ≤ 9223372036854775807) : vR 6 ⟨2, a, x, n, ks⟩ = (namedB x n false && ks.all (vR 5)) := by
  rw [vR_6, valid_core 1]
  simp only [coreT]
  rw [show vR 5 = validT 2 from rfl]
  rw [vL_all 1 2 _ 2 ks 0 (fun j => by simp [asksI])]
  have hl2 : (ks.length : Int) ≤ 9223372036854775807 := by omega
  simp [vR_1, vR_2, vR_3, vR_4, vR_5, vR_6, vR_7, vR_8, vR_9, vR_10, vR_11, vR_12, vR_13, vR_14, vR_15, vR_16, vR_17, vR_18, vR_19, vR_20, vR_21, takesI, coreT, kidsI, textI, numI, bareB, namedB, tyB, validT.validL, asksI, pickI, eitherI, isTypeI, isStmtI, isExprI, stepI, targetI, hl2] <;> (try grind)
theorem m7 {a : Int} {x : List Nat} {n : Nat} {t0 t1 t2 : Tree} : vR 7 ⟨4, a, x, n, [t0, t1, t2]⟩ = (namedB x n false && (vR 21 t0 && (vR 20 t1 && vR 4 t2))) := by
  rw [vR_7, valid_core 1]
  simp only [coreT]
  simp [vR_1, vR_2, vR_3, vR_4, vR_5, vR_6, vR_7, vR_8, vR_9, vR_10, vR_11, vR_12, vR_13, vR_14, vR_15, vR_16, vR_17, vR_18, vR_19, vR_20, vR_21, takesI, coreT, kidsI, textI, numI, bareB, namedB, tyB, validT.validL, asksI, pickI, eitherI, isTypeI, isStmtI, isExprI, stepI, targetI] <;> (try grind)
theorem m21 {a : Int} {x : List Nat} {n : Nat} {ks : List Tree} (hl : ks.length ≤ 9223372036854775807) : vR 21 ⟨5, a, x, n, ks⟩ = (bareB x n && ks.all (vR 5)) := by
  rw [vR_21, valid_core 3]
  simp only [coreT]
  rw [show vR 5 = validT 2 from rfl]
  rw [vL_all 3 5 _ 2 ks 0 (fun j => by simp [asksI])]
  have hl2 : (ks.length : Int) ≤ 9223372036854775807 := by omega
  simp [vR_1, vR_2, vR_3, vR_4, vR_5, vR_6, vR_7, vR_8, vR_9, vR_10, vR_11, vR_12, vR_13, vR_14, vR_15, vR_16, vR_17, vR_18, vR_19, vR_20, vR_21, takesI, coreT, kidsI, textI, numI, bareB, namedB, tyB, validT.validL, asksI, pickI, eitherI, isTypeI, isStmtI, isExprI, stepI, targetI, hl2] <;> (try grind)
theorem m20 {a : Int} {x : List Nat} {n : Nat} {ks : List Tree} (hl : ks.length ≤ 9223372036854775807) : vR 20 ⟨6, a, x, n, ks⟩ = (bareB x n && ks.all (vR 1)) := by
  rw [vR_20, valid_core 4]
  simp only [coreT]
  rw [show vR 1 = validT 5 from rfl]
  rw [vL_all 4 6 _ 5 ks 0 (fun j => by simp [asksI])]
  have hl2 : (ks.length : Int) ≤ 9223372036854775807 := by omega
  simp [vR_1, vR_2, vR_3, vR_4, vR_5, vR_6, vR_7, vR_8, vR_9, vR_10, vR_11, vR_12, vR_13, vR_14, vR_15, vR_16, vR_17, vR_18, vR_19, vR_20, vR_21, takesI, coreT, kidsI, textI, numI, bareB, namedB, tyB, validT.validL, asksI, pickI, eitherI, isTypeI, isStmtI, isExprI, stepI, targetI, hl2] <;> (try grind)
theorem m13 {a : Int} {x : List Nat} {n : Nat} : vR 13 ⟨25, a, x, n, []⟩ = (namedB x n false) := by
  rw [vR_13, valid_core 16]
  simp only [coreT]
  simp [vR_1, vR_2, vR_3, vR_4, vR_5, vR_6, vR_7, vR_8, vR_9, vR_10, vR_11, vR_12, vR_13, vR_14, vR_15, vR_16, vR_17, vR_18, vR_19, vR_20, vR_21, takesI, coreT, kidsI, textI, numI, bareB, namedB, tyB, validT.validL, asksI, pickI, eitherI, isTypeI, isStmtI, isExprI, stepI, targetI] <;> (try grind)
theorem m15 {a : Int} {x : List Nat} {n : Nat} : vR 15 ⟨24, a, x, n, []⟩ = (bareB x n) := by
  rw [vR_15, valid_core 11]
  simp only [coreT]
  simp [vR_1, vR_2, vR_3, vR_4, vR_5, vR_6, vR_7, vR_8, vR_9, vR_10, vR_11, vR_12, vR_13, vR_14, vR_15, vR_16, vR_17, vR_18, vR_19, vR_20, vR_21, takesI, coreT, kidsI, textI, numI, bareB, namedB, tyB, validT.validL, asksI, pickI, eitherI, isTypeI, isStmtI, isExprI, stepI, targetI] <;> (try grind)
theorem m12 {a : Int} {x : List Nat} {n : Nat} {t0 : Tree} : vR 12 ⟨19, a, x, n, [t0]⟩ = (bareB x n && vR 4 t0) := by
  rw [vR_12, valid_core 13]
  simp only [coreT]
  simp [vR_1, vR_2, vR_3, vR_4, vR_5, vR_6, vR_7, vR_8, vR_9, vR_10, vR_11, vR_12, vR_13, vR_14, vR_15, vR_16, vR_17, vR_18, vR_19, vR_20, vR_21, takesI, coreT, kidsI, textI, numI, bareB, namedB, tyB, validT.validL, asksI, pickI, eitherI, isTypeI, isStmtI, isExprI, stepI, targetI] <;> (try grind)
theorem m10_55 {a : Int} {x : List Nat} {n : Nat} {t0 : Tree} : vR 10 ⟨55, a, x, n, [t0]⟩ = (bareB x n && vR 9 t0) := by
  rw [vR_10, valid_core 14]
  simp only [coreT]
  simp [vR_1, vR_2, vR_3, vR_4, vR_5, vR_6, vR_7, vR_8, vR_9, vR_10, vR_11, vR_12, vR_13, vR_14, vR_15, vR_16, vR_17, vR_18, vR_19, vR_20, vR_21, takesI, coreT, kidsI, textI, numI, bareB, namedB, tyB, validT.validL, asksI, pickI, eitherI, isTypeI, isStmtI, isExprI, stepI, targetI] <;> (try grind)
theorem m2_47 {a : Int} {x : List Nat} {n : Nat} {t0 : Tree} {ks : List Tree} (hl : ks.length + 1 ≤ 9223372036854775807) : vR 2 ⟨47, a, x, n, t0 :: ks⟩ = (bareB x n && (vR 1 t0 && ks.all (vR 2))) := by
  rw [vR_2, valid_core 21]
  simp only [coreT]
  rw [show vR 2 = validT 21 from rfl]
  rw [vL_first 21 47 _ 5 21 t0 ks (by simp [asksI, pickI]; rfl) (fun j hj => by simp [asksI, pickI, min1 j hj])]
  have hl2 : (ks.length : Int) ≤ 9223372036854775807 := by omega
  simp [vR_1, vR_2, vR_3, vR_4, vR_5, vR_6, vR_7, vR_8, vR_9, vR_10, vR_11, vR_12, vR_13, vR_14, vR_15, vR_16, vR_17, vR_18, vR_19, vR_20, vR_21, takesI, coreT, kidsI, textI, numI, bareB, namedB, tyB, validT.validL, asksI, pickI, eitherI, isTypeI, isStmtI, isExprI, stepI, targetI, hl2] <;> (try grind)
theorem m3_15 {a : Int} {x : List Nat} {n : Nat} {t0 t1 : Tree} : vR 3 ⟨15, a, x, n, [t0, t1]⟩ = (namedB x n true && (vR 2 t0 && vR 4 t1)) := by
  rw [vR_3, valid_core 7]
  simp only [coreT]
  simp [vR_1, vR_2, vR_3, vR_4, vR_5, vR_6, vR_7, vR_8, vR_9, vR_10, vR_11, vR_12, vR_13, vR_14, vR_15, vR_16, vR_17, vR_18, vR_19, vR_20, vR_21, takesI, coreT, kidsI, textI, numI, bareB, namedB, tyB, validT.validL, asksI, pickI, eitherI, isTypeI, isStmtI, isExprI, stepI, targetI] <;> (try grind)
theorem m3_20 {a : Int} {x : List Nat} {n : Nat} : vR 3 ⟨20, a, x, n, []⟩ = (namedB x n true) := by
  rw [vR_3, valid_core 7]
  simp only [coreT]
  simp [vR_1, vR_2, vR_3, vR_4, vR_5, vR_6, vR_7, vR_8, vR_9, vR_10, vR_11, vR_12, vR_13, vR_14, vR_15, vR_16, vR_17, vR_18, vR_19, vR_20, vR_21, takesI, coreT, kidsI, textI, numI, bareB, namedB, tyB, validT.validL, asksI, pickI, eitherI, isTypeI, isStmtI, isExprI, stepI, targetI] <;> (try grind)
theorem m3_21 {a : Int} {x : List Nat} {n : Nat} : vR 3 ⟨21, a, x, n, []⟩ = (namedB x n true) := by
  rw [vR_3, valid_core 7]
  simp only [coreT]
  simp [vR_1, vR_2, vR_3, vR_4, vR_5, vR_6, vR_7, vR_8, vR_9, vR_10, vR_11, vR_12, vR_13, vR_14, vR_15, vR_16, vR_17, vR_18, vR_19, vR_20, vR_21, takesI, coreT, kidsI, textI, numI, bareB, namedB, tyB, validT.validL, asksI, pickI, eitherI, isTypeI, isStmtI, isExprI, stepI, targetI] <;> (try grind)
theorem m3_22 {a : Int} {x : List Nat} {n : Nat} {ks : List Tree} (hl : ks.length ≤ 9223372036854775807) : vR 3 ⟨22, a, x, n, ks⟩ = (bareB x n && ks.all (vR 2)) := by
  rw [vR_3, valid_core 7]
  simp only [coreT]
  rw [show vR 2 = validT 21 from rfl]
  rw [vL_all 7 22 _ 21 ks 0 (fun j => by simp [asksI])]
  have hl2 : (ks.length : Int) ≤ 9223372036854775807 := by omega
  simp [vR_1, vR_2, vR_3, vR_4, vR_5, vR_6, vR_7, vR_8, vR_9, vR_10, vR_11, vR_12, vR_13, vR_14, vR_15, vR_16, vR_17, vR_18, vR_19, vR_20, vR_21, takesI, coreT, kidsI, textI, numI, bareB, namedB, tyB, validT.validL, asksI, pickI, eitherI, isTypeI, isStmtI, isExprI, stepI, targetI, hl2] <;> (try grind)
theorem m3_23 {a : Int} {x : List Nat} {n : Nat} : vR 3 ⟨23, a, x, n, []⟩ = (x == [] && decide ((n : Int) ≤ 255)) := by
  rw [vR_3, valid_core 7]
  simp only [coreT]
  simp [vR_1, vR_2, vR_3, vR_4, vR_5, vR_6, vR_7, vR_8, vR_9, vR_10, vR_11, vR_12, vR_13, vR_14, vR_15, vR_16, vR_17, vR_18, vR_19, vR_20, vR_21, takesI, coreT, kidsI, textI, numI, bareB, namedB, tyB, validT.validL, asksI, pickI, eitherI, isTypeI, isStmtI, isExprI, stepI, targetI] <;> (try grind)
end Go.Proofs.YtmhnbklchnnbaaaGreatDoor
