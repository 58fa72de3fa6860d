/-
  CONTRACT of the law about a term in loops and ifs.
-/
import Derived.Test.YtepadfcjjcionaaGreatDoorTc
import Derived.Test.YtepadfcjjcionaaGreatDoorLd
import Derived.Test.YtepadfcjjcionaaGreatDoorRg
namespace Go.Proofs.YtepadfcjjcionaaGreatDoor
open Go.RowKit
set_option linter.unusedVariables false

theorem new1 (X : World) (c1 : Array Value) : Below X.heap.size X (X.alloc (.cells c1 24)) ∧ Own (X.alloc (.cells c1 24)) X.heap.size c1 24 :=
  ⟨(Below.refl _ _).alloc (Nat.le_refl _) _, Own.new _ _ _⟩
theorem new2 (X : World) (c1 c2 : Array Value) : Below X.heap.size X ((X.alloc (.cells c1 24)).alloc (.cells c2 24)) ∧ Own ((X.alloc (.cells c1 24)).alloc (.cells c2 24)) X.heap.size c1 24 ∧ Own ((X.alloc (.cells c1 24)).alloc (.cells c2 24)) (X.heap.size + 1) c2 24 := by
  have s1 : (X.alloc (.cells c1 24)).heap.size = X.heap.size + 1 := Array.size_push ..
  have h := Own.new (X.alloc (.cells c1 24)) c2 24
  rw [s1] at h
  exact ⟨((Below.refl _ _).alloc (Nat.le_refl _) _).alloc (by omega) _, (Own.new X c1 24).alloc _, h⟩
theorem new3 (X : World) (c1 c2 c3 : Array Value) : Below X.heap.size X (((X.alloc (.cells c1 24)).alloc (.cells c2 24)).alloc (.cells c3 24)) ∧ Own (((X.alloc (.cells c1 24)).alloc (.cells c2 24)).alloc (.cells c3 24)) X.heap.size c1 24 ∧ Own (((X.alloc (.cells c1 24)).alloc (.cells c2 24)).alloc (.cells c3 24)) (X.heap.size + 1) c2 24 ∧ Own (((X.alloc (.cells c1 24)).alloc (.cells c2 24)).alloc (.cells c3 24)) (X.heap.size + 2) c3 24 := by
  obtain ⟨h1, h2, h3⟩ := new2 X c1 c2
  have s2 : ((X.alloc (.cells c1 24)).alloc (.cells c2 24)).heap.size = X.heap.size + 2 := (Array.size_push ..).trans (congrArg (· + 1) (Array.size_push ..))
  have h := Own.new ((X.alloc (.cells c1 24)).alloc (.cells c2 24)) c3 24
  rw [s2] at h
  exact ⟨h1.alloc (by omega) _, h2.alloc _, h3.alloc _, h⟩
theorem kids_nil (X : World) : KidsR X (.slice none 0 0) [] := ⟨none, 0, rfl, Nat.le_refl _, by omega, .inl rfl⟩
theorem kids2 {X : World} {g : Nat} {a1 b1 n1 a2 b2 n2 : Int} {x1 x2 : ByteArray} {v1 v2 : Value} {k1 k2 : List Tm} (o : Own X g #[.int .u8 a1, .int .i64 b1, .int .i64 n1, .string x1, v1, .int .u8 a2, .int .i64 b2, .int .i64 n2, .string x2, v2] 24) (h1 : inr n1) (h2 : inr n2) (q1 : KidsR X v1 k1) (q2 : KidsR X v2 k2) :
    KidsR X (.slice (some ⟨g, 0, none⟩) 2 2) [⟨a1, b1, n1, x1, k1⟩, ⟨a2, b2, n2, x2, k2⟩] := by
  obtain ⟨c1, p1, rfl, q12, q13, q14⟩ := q1
  obtain ⟨c2, p2, rfl, q22, q23, q24⟩ := q2
  refine ⟨some ⟨g, 0, none⟩, 2, rfl, Nat.le_refl _, by omega, .inr ⟨g, 0, _, _, _, rfl, o, ?_⟩⟩
  rw [cellsR_cons, cellsR_cons]
  exact ⟨⟨c1, p1, rfl, rfl, rfl, rfl, rfl, q12, q13, h1, q14⟩, ⟨c2, p2, rfl, rfl, rfl, rfl, rfl, q22, q23, h2, q24⟩, by simp [CellsR]⟩
theorem kids3 {X : World} {g : Nat} {a1 b1 n1 a2 b2 n2 a3 b3 n3 : Int} {x1 x2 x3 : ByteArray} {v1 v2 v3 : Value} {k1 k2 k3 : List Tm} (o : Own X g #[.int .u8 a1, .int .i64 b1, .int .i64 n1, .string x1, v1, .int .u8 a2, .int .i64 b2, .int .i64 n2, .string x2, v2, .int .u8 a3, .int .i64 b3, .int .i64 n3, .string x3, v3] 24) (h1 : inr n1) (h2 : inr n2) (h3 : inr n3) (q1 : KidsR X v1 k1) (q2 : KidsR X v2 k2) (q3 : KidsR X v3 k3) :
    KidsR X (.slice (some ⟨g, 0, none⟩) 3 3) [⟨a1, b1, n1, x1, k1⟩, ⟨a2, b2, n2, x2, k2⟩, ⟨a3, b3, n3, x3, k3⟩] := by
  obtain ⟨c1, p1, rfl, q12, q13, q14⟩ := q1
  obtain ⟨c2, p2, rfl, q22, q23, q24⟩ := q2
  obtain ⟨c3, p3, rfl, q32, q33, q34⟩ := q3
  refine ⟨some ⟨g, 0, none⟩, 3, rfl, Nat.le_refl _, by omega, .inr ⟨g, 0, _, _, _, rfl, o, ?_⟩⟩
  rw [cellsR_cons, cellsR_cons, cellsR_cons]
  exact ⟨⟨c1, p1, rfl, rfl, rfl, rfl, rfl, q12, q13, h1, q14⟩, ⟨c2, p2, rfl, rfl, rfl, rfl, rfl, q22, q23, h2, q24⟩, ⟨c3, p3, rfl, rfl, rfl, rfl, rfl, q32, q33, h3, q34⟩, by simp [CellsR]⟩
theorem tell_nought (ty n : Int) (tx : ByteArray) : (tellF ⟨1, ty, n, tx, []⟩ true).e = true := by rw [tell_eq]; rfl

set_option maxRecDepth 100000 in
set_option maxHeartbeats 1000000 in
/-- The law about a term in loops and ifs. -/
theorem wraps_as {w : World} (hF : FiveAt w) {op ty n z : Int} {tx : ByteArray} {ks : List Tm} {kv : Value} (hn : inr n) (hz : inr z) (hk : KidsR w kv ks) :
    Calls Tryz.prog 5 #[.agg #[.int .u8 op, .int .i64 ty, .int .i64 n, .string tx, kv], .int .i64 z] w fun en w' => en = .returned (.bool true) ∧ Below w.heap.size w w' := by
  obtain ⟨ao, cap, rfl, hl1, hl2, _⟩ := id hk
  obtain ⟨m, hm⟩ : ∃ m, ks.length = m := ⟨_, rfl⟩
  have HK : Hid (KidsR w (.slice ao m cap) ks) := by rw [← hm]; exact hk
  have HF : Hid (FiveAt w) := hF
  rw [hm] at hl1 ⊢
  clear hk hF
  have oA0 := Own.new w #[.int .u8 op, .int .i64 ty, .int .i64 n, .string tx, .slice ao m cap] 24
  have hb0 : Below w.heap.size w (w.alloc (.cells #[.int .u8 op, .int .i64 ty, .int .i64 n, .string tx, .slice ao m cap] 24)) := (Below.refl _ _).alloc (Nat.le_refl _) _
  generalize hX0 : w.alloc (.cells #[.int .u8 op, .int .i64 ty, .int .i64 n, .string tx, .slice ao m cap] 24) = X0 at *
  obtain ⟨d0, d1, d2, d3, d4, _⟩ := oA0.five
  have la := oA0.lt
  have T1 := terms1000_as _ ⟨op, ty, n, tx, ks⟩ (Nat.le_refl _) w X0 op ty n tx _ HK.out hb0
  obtain ⟨c1, hc1⟩ : ∃ c, min (cnt ⟨op, ty, n, tx, ks⟩) 1001 = c := ⟨_, rfl⟩
  rw [hc1] at T1
  have hc1b : c1 ≤ 1001 := by omega
  go_enter Tryz.func5, Tryz.ntmps5
  go_wp2_with fail
  refine T1.mono ?_
  rintro en w1 ⟨rfl, hb1'⟩
  have oA := oA0.below hb1'
  have hbww1 : Below w.heap.size w w1 := hb0.trans (hb1'.mono hb0.size)
  clear T1 d0 d1 d2 d3 d4 oA0 hb0 hb1' hX0 la
  by_cases h1 : c1 ≤ 1000
  · have i1 : ¬ ((c1 : Int) > 1000) := by omega
    have hcb : cnt ⟨op, ty, n, tx, ks⟩ ≤ 1000 := by omega
    have hcl := hcb
    rw [cnt_parts] at hcl
    simp only at hcl
    obtain ⟨fA0, fA1, fA2, fA3, fA4, _⟩ := oA.five
    have lA := oA.lt
    obtain ⟨hbX3, oN⟩ := new1 w1 #[.int .u8 1, .int .i64 0, .int .i64 0, .string ⟨#[]⟩, .slice none 0 0]
    go_upto_region 4 with fail
    generalize hX : w1.alloc (.cells #[.int .u8 1, .int .i64 0, .int .i64 0, .string ⟨#[]⟩, .slice none 0 0] 24) = X3 at *
    clear hX
    clear fA0 fA1 fA2 fA3 fA4 lA
    replace oA := oA.below hbX3
    have hbwX3 : Below w.heap.size w X3 := hbww1.trans (hbX3.mono hbww1.size)
    obtain ⟨fA0, fA1, fA2, fA3, fA4, _⟩ := oA.five
    have lA := oA.lt
    obtain ⟨fN0, fN1, fN2, fN3, fN4, _⟩ := oN.five
    have lN := oN.lt
    obtain ⟨hbX4, oY⟩ := new1 X3 #[.int .u8 42, .int .i64 4, .int .i64 0, .string ⟨#[]⟩, .slice none 0 0]
    go_upto_region 5 with fail
    generalize hX : X3.alloc (.cells #[.int .u8 42, .int .i64 4, .int .i64 0, .string ⟨#[]⟩, .slice none 0 0] 24) = X4 at *
    clear hX
    clear fA0 fA1 fA2 fA3 fA4 lA fN0 fN1 fN2 fN3 fN4 lN
    replace oA := oA.below hbX4
    replace oN := oN.below hbX4
    have hbwX4 : Below w.heap.size w X4 := hbwX3.trans (hbX4.mono hbwX3.size)
    obtain ⟨fA0, fA1, fA2, fA3, fA4, _⟩ := oA.five
    have lA := oA.lt
    obtain ⟨fN0, fN1, fN2, fN3, fN4, _⟩ := oN.five
    have lN := oN.lt
    obtain ⟨fY0, fY1, fY2, fY3, fY4, _⟩ := oY.five
    have lY := oY.lt
    obtain ⟨hbX5, oWl, oW⟩ := new2 X4 #[.int .u8 42, .int .i64 4, .int .i64 0, .string ⟨#[]⟩, .slice none 0 0, .int .u8 op, .int .i64 ty, .int .i64 n, .string tx, .slice ao m cap, .int .u8 1, .int .i64 0, .int .i64 0, .string ⟨#[]⟩, .slice none 0 0] #[.int .u8 8, .int .i64 0, .int .i64 0, .string ⟨#[]⟩, .slice (some ⟨X4.heap.size, 0, none⟩) 3 3]
    go_upto_region 6 with fail
    generalize hX : (X4.alloc (.cells #[.int .u8 42, .int .i64 4, .int .i64 0, .string ⟨#[]⟩, .slice none 0 0, .int .u8 op, .int .i64 ty, .int .i64 n, .string tx, .slice ao m cap, .int .u8 1, .int .i64 0, .int .i64 0, .string ⟨#[]⟩, .slice none 0 0] 24)).alloc (.cells #[.int .u8 8, .int .i64 0, .int .i64 0, .string ⟨#[]⟩, .slice (some ⟨X4.heap.size, 0, none⟩) 3 3] 24) = X5 at *
    clear hX
    clear fA0 fA1 fA2 fA3 fA4 lA fN0 fN1 fN2 fN3 fN4 lN fY0 fY1 fY2 fY3 fY4 lY
    replace oA := oA.below hbX5
    replace oN := oN.below hbX5
    replace oY := oY.below hbX5
    have hbwX5 : Below w.heap.size w X5 := hbwX4.trans (hbX5.mono hbwX4.size)
    obtain ⟨fA0, fA1, fA2, fA3, fA4, _⟩ := oA.five
    have lA := oA.lt
    obtain ⟨fN0, fN1, fN2, fN3, fN4, _⟩ := oN.five
    have lN := oN.lt
    obtain ⟨fY0, fY1, fY2, fY3, fY4, _⟩ := oY.five
    have lY := oY.lt
    obtain ⟨hbX6, oBl, oB⟩ := new2 X5 #[.int .u8 42, .int .i64 4, .int .i64 0, .string ⟨#[]⟩, .slice none 0 0, .int .u8 op, .int .i64 ty, .int .i64 n, .string tx, .slice ao m cap, .int .u8 op, .int .i64 ty, .int .i64 n, .string tx, .slice ao m cap] #[.int .u8 8, .int .i64 0, .int .i64 0, .string ⟨#[]⟩, .slice (some ⟨X5.heap.size, 0, none⟩) 3 3]
    go_upto_region 7 with fail
    generalize hX : (X5.alloc (.cells #[.int .u8 42, .int .i64 4, .int .i64 0, .string ⟨#[]⟩, .slice none 0 0, .int .u8 op, .int .i64 ty, .int .i64 n, .string tx, .slice ao m cap, .int .u8 op, .int .i64 ty, .int .i64 n, .string tx, .slice ao m cap] 24)).alloc (.cells #[.int .u8 8, .int .i64 0, .int .i64 0, .string ⟨#[]⟩, .slice (some ⟨X5.heap.size, 0, none⟩) 3 3] 24) = X6 at *
    clear hX
    clear fA0 fA1 fA2 fA3 fA4 lA fN0 fN1 fN2 fN3 fN4 lN fY0 fY1 fY2 fY3 fY4 lY
    replace oA := oA.below hbX6
    replace oN := oN.below hbX6
    replace oY := oY.below hbX6
    replace oWl := oWl.below hbX6
    replace oW := oW.below hbX6
    have hbwX6 : Below w.heap.size w X6 := hbwX5.trans (hbX6.mono hbwX5.size)
    obtain ⟨fA0, fA1, fA2, fA3, fA4, _⟩ := oA.five
    have lA := oA.lt
    obtain ⟨fN0, fN1, fN2, fN3, fN4, _⟩ := oN.five
    have lN := oN.lt
    obtain ⟨fY0, fY1, fY2, fY3, fY4, _⟩ := oY.five
    have lY := oY.lt
    obtain ⟨hbX7, oUk, oUl, oU⟩ := new3 X6 #[.int .u8 12, .int .i64 0, .int .i64 z, .string ⟨#[]⟩, .slice none 0 0, .int .u8 op, .int .i64 ty, .int .i64 n, .string tx, .slice ao m cap] #[.int .u8 42, .int .i64 4, .int .i64 0, .string ⟨#[]⟩, .slice none 0 0, .int .u8 1, .int .i64 0, .int .i64 0, .string ⟨#[]⟩, .slice (some ⟨X6.heap.size, 0, none⟩) 2 2, .int .u8 1, .int .i64 0, .int .i64 0, .string ⟨#[]⟩, .slice none 0 0] #[.int .u8 9, .int .i64 0, .int .i64 z, .string ⟨#[]⟩, .slice (some ⟨X6.heap.size + 1, 0, none⟩) 3 3]
    go_upto_region 8 with fail
    generalize hX : ((X6.alloc (.cells #[.int .u8 12, .int .i64 0, .int .i64 z, .string ⟨#[]⟩, .slice none 0 0, .int .u8 op, .int .i64 ty, .int .i64 n, .string tx, .slice ao m cap] 24)).alloc (.cells #[.int .u8 42, .int .i64 4, .int .i64 0, .string ⟨#[]⟩, .slice none 0 0, .int .u8 1, .int .i64 0, .int .i64 0, .string ⟨#[]⟩, .slice (some ⟨X6.heap.size, 0, none⟩) 2 2, .int .u8 1, .int .i64 0, .int .i64 0, .string ⟨#[]⟩, .slice none 0 0] 24)).alloc (.cells #[.int .u8 9, .int .i64 0, .int .i64 z, .string ⟨#[]⟩, .slice (some ⟨X6.heap.size + 1, 0, none⟩) 3 3] 24) = X7 at *
    clear hX
    clear fA0 fA1 fA2 fA3 fA4 lA fN0 fN1 fN2 fN3 fN4 lN fY0 fY1 fY2 fY3 fY4 lY
    replace oA := oA.below hbX7
    replace oN := oN.below hbX7
    replace oY := oY.below hbX7
    replace oWl := oWl.below hbX7
    replace oW := oW.below hbX7
    replace oBl := oBl.below hbX7
    replace oB := oB.below hbX7
    have hbwX7 : Below w.heap.size w X7 := hbwX6.trans (hbX7.mono hbwX6.size)
    obtain ⟨fA0, fA1, fA2, fA3, fA4, _⟩ := oA.five
    have lA := oA.lt
    obtain ⟨fN0, fN1, fN2, fN3, fN4, _⟩ := oN.five
    have lN := oN.lt
    obtain ⟨fY0, fY1, fY2, fY3, fY4, _⟩ := oY.five
    have lY := oY.lt
    obtain ⟨hbX8, oVk, oVl, oV⟩ := new3 X7 #[.int .u8 14, .int .i64 0, .int .i64 0, .string ⟨#[]⟩, .slice none 0 0, .int .u8 op, .int .i64 ty, .int .i64 n, .string tx, .slice ao m cap] #[.int .u8 42, .int .i64 4, .int .i64 0, .string ⟨#[]⟩, .slice none 0 0, .int .u8 1, .int .i64 0, .int .i64 0, .string ⟨#[]⟩, .slice (some ⟨X7.heap.size, 0, none⟩) 2 2, .int .u8 1, .int .i64 0, .int .i64 0, .string ⟨#[]⟩, .slice none 0 0] #[.int .u8 9, .int .i64 0, .int .i64 z, .string ⟨#[]⟩, .slice (some ⟨X7.heap.size + 1, 0, none⟩) 3 3]
    go_upto_region 9 with fail
    generalize hX : ((X7.alloc (.cells #[.int .u8 14, .int .i64 0, .int .i64 0, .string ⟨#[]⟩, .slice none 0 0, .int .u8 op, .int .i64 ty, .int .i64 n, .string tx, .slice ao m cap] 24)).alloc (.cells #[.int .u8 42, .int .i64 4, .int .i64 0, .string ⟨#[]⟩, .slice none 0 0, .int .u8 1, .int .i64 0, .int .i64 0, .string ⟨#[]⟩, .slice (some ⟨X7.heap.size, 0, none⟩) 2 2, .int .u8 1, .int .i64 0, .int .i64 0, .string ⟨#[]⟩, .slice none 0 0] 24)).alloc (.cells #[.int .u8 9, .int .i64 0, .int .i64 z, .string ⟨#[]⟩, .slice (some ⟨X7.heap.size + 1, 0, none⟩) 3 3] 24) = X8 at *
    clear hX
    clear fA0 fA1 fA2 fA3 fA4 lA fN0 fN1 fN2 fN3 fN4 lN fY0 fY1 fY2 fY3 fY4 lY
    replace oA := oA.below hbX8
    replace oN := oN.below hbX8
    replace oY := oY.below hbX8
    replace oWl := oWl.below hbX8
    replace oW := oW.below hbX8
    replace oBl := oBl.below hbX8
    replace oB := oB.below hbX8
    replace oUk := oUk.below hbX8
    replace oUl := oUl.below hbX8
    replace oU := oU.below hbX8
    have hbwX8 : Below w.heap.size w X8 := hbwX7.trans (hbX8.mono hbwX7.size)
    obtain ⟨fA0, fA1, fA2, fA3, fA4, _⟩ := oA.five
    have lA := oA.lt
    obtain ⟨fN0, fN1, fN2, fN3, fN4, _⟩ := oN.five
    have lN := oN.lt
    obtain ⟨fY0, fY1, fY2, fY3, fY4, _⟩ := oY.five
    have lY := oY.lt
    obtain ⟨hbX9, oQl, oQ⟩ := new2 X8 #[.int .u8 43, .int .i64 4, .int .i64 0, .string ⟨#[]⟩, .slice none 0 0, .int .u8 op, .int .i64 ty, .int .i64 n, .string tx, .slice ao m cap, .int .u8 1, .int .i64 0, .int .i64 0, .string ⟨#[]⟩, .slice none 0 0] #[.int .u8 9, .int .i64 0, .int .i64 z, .string ⟨#[]⟩, .slice (some ⟨X8.heap.size, 0, none⟩) 3 3]
    go_upto_region 10 with fail
    generalize hX : (X8.alloc (.cells #[.int .u8 43, .int .i64 4, .int .i64 0, .string ⟨#[]⟩, .slice none 0 0, .int .u8 op, .int .i64 ty, .int .i64 n, .string tx, .slice ao m cap, .int .u8 1, .int .i64 0, .int .i64 0, .string ⟨#[]⟩, .slice none 0 0] 24)).alloc (.cells #[.int .u8 9, .int .i64 0, .int .i64 z, .string ⟨#[]⟩, .slice (some ⟨X8.heap.size, 0, none⟩) 3 3] 24) = X9 at *
    clear hX
    clear fA0 fA1 fA2 fA3 fA4 lA fN0 fN1 fN2 fN3 fN4 lN fY0 fY1 fY2 fY3 fY4 lY
    replace oA := oA.below hbX9
    replace oN := oN.below hbX9
    replace oY := oY.below hbX9
    replace oWl := oWl.below hbX9
    replace oW := oW.below hbX9
    replace oBl := oBl.below hbX9
    replace oB := oB.below hbX9
    replace oUk := oUk.below hbX9
    replace oUl := oUl.below hbX9
    replace oU := oU.below hbX9
    replace oVk := oVk.below hbX9
    replace oVl := oVl.below hbX9
    replace oV := oV.below hbX9
    have hbwX9 : Below w.heap.size w X9 := hbwX8.trans (hbX9.mono hbwX8.size)
    have KT : KidsR X9 (.slice ao m cap) ks := HK.out.below hbwX9
    have KN : KidsR X9 (.slice none 0 0) [] := kids_nil X9
    have KW : KidsR X9 (.slice (some ⟨X4.heap.size, 0, none⟩) 3 3) [⟨42, 4, 0, ⟨#[]⟩, []⟩, ⟨op, ty, n, tx, ks⟩, ⟨1, 0, 0, ⟨#[]⟩, []⟩] := kids3 oWl inr_zero hn inr_zero KN KT KN
    have KB : KidsR X9 (.slice (some ⟨X5.heap.size, 0, none⟩) 3 3) [⟨42, 4, 0, ⟨#[]⟩, []⟩, ⟨op, ty, n, tx, ks⟩, ⟨op, ty, n, tx, ks⟩] := kids3 oBl inr_zero hn hn KN KT KT
    have KUk : KidsR X9 (.slice (some ⟨X6.heap.size, 0, none⟩) 2 2) [⟨12, 0, z, ⟨#[]⟩, []⟩, ⟨op, ty, n, tx, ks⟩] := kids2 oUk hz hn KN KT
    have KU : KidsR X9 (.slice (some ⟨X6.heap.size + 1, 0, none⟩) 3 3) [⟨42, 4, 0, ⟨#[]⟩, []⟩, ⟨1, 0, 0, ⟨#[]⟩, [⟨12, 0, z, ⟨#[]⟩, []⟩, ⟨op, ty, n, tx, ks⟩]⟩, ⟨1, 0, 0, ⟨#[]⟩, []⟩] := kids3 oUl inr_zero inr_zero inr_zero KN KUk KN
    have KVk : KidsR X9 (.slice (some ⟨X7.heap.size, 0, none⟩) 2 2) [⟨14, 0, 0, ⟨#[]⟩, []⟩, ⟨op, ty, n, tx, ks⟩] := kids2 oVk inr_zero hn KN KT
    have KV : KidsR X9 (.slice (some ⟨X7.heap.size + 1, 0, none⟩) 3 3) [⟨42, 4, 0, ⟨#[]⟩, []⟩, ⟨1, 0, 0, ⟨#[]⟩, [⟨14, 0, 0, ⟨#[]⟩, []⟩, ⟨op, ty, n, tx, ks⟩]⟩, ⟨1, 0, 0, ⟨#[]⟩, []⟩] := kids3 oVl inr_zero inr_zero inr_zero KN KVk KN
    have KQ : KidsR X9 (.slice (some ⟨X8.heap.size, 0, none⟩) 3 3) [⟨43, 4, 0, ⟨#[]⟩, []⟩, ⟨op, ty, n, tx, ks⟩, ⟨1, 0, 0, ⟨#[]⟩, []⟩] := kids3 oQl inr_zero hn inr_zero KN KT KN
    have EW : ∀ X, Below X9.heap.size X9 X → Calls Tryz.prog 10 #[.agg #[.int .u8 8, .int .i64 0, .int .i64 0, .string ⟨#[]⟩, .slice (some ⟨X4.heap.size, 0, none⟩) 3 3]] X fun en w' => en = .returned (.bool true) ∧ Below X.heap.size X w' := fun X h => by
      have q := ends_as (w0 := X9) (w := X) (op := 8) (ty := 0) (n := 0) (tx := ⟨#[]⟩) ⟨inr_zero, KW, h, by simp only [cnt_parts, cnt.cntL]; omega⟩
      rw [tell_if, tell_nought, Bool.or_true] at q
      exact q
    have EB : ∀ X, Below X9.heap.size X9 X → Calls Tryz.prog 10 #[.agg #[.int .u8 8, .int .i64 0, .int .i64 0, .string ⟨#[]⟩, .slice (some ⟨X5.heap.size, 0, none⟩) 3 3]] X fun en w' => en = .returned (.bool (tellF ⟨op, ty, n, tx, ks⟩ true).e) ∧ Below X.heap.size X w' := fun X h => by
      have q := ends_as (w0 := X9) (w := X) (op := 8) (ty := 0) (n := 0) (tx := ⟨#[]⟩) ⟨inr_zero, KB, h, by simp only [cnt_parts, cnt.cntL]; omega⟩
      rw [tell_if, Bool.or_self] at q
      exact q
    have ET : ∀ X, Below X9.heap.size X9 X → Calls Tryz.prog 10 #[.agg #[.int .u8 op, .int .i64 ty, .int .i64 n, .string tx, .slice ao m cap]] X fun en w' => en = .returned (.bool (tellF ⟨op, ty, n, tx, ks⟩ true).e) ∧ Below X.heap.size X w' := fun X h => ends_as (w0 := X9) (w := X) ⟨hn, KT, h, by omega⟩
    have EU : ∀ X, Below X9.heap.size X9 X → Calls Tryz.prog 10 #[.agg #[.int .u8 9, .int .i64 0, .int .i64 z, .string ⟨#[]⟩, .slice (some ⟨X6.heap.size + 1, 0, none⟩) 3 3]] X fun en w' => en = .returned (.bool true) ∧ Below X.heap.size X w' := fun X h => by
      have q := ends_as (w0 := X9) (w := X) (op := 9) (ty := 0) (n := z) (tx := ⟨#[]⟩) ⟨hz, KU, h, by simp only [cnt_parts, cnt.cntL]; omega⟩
      rw [wraps_turn] at q
      exact q
    have EV : ∀ X, Below X9.heap.size X9 X → Calls Tryz.prog 10 #[.agg #[.int .u8 9, .int .i64 0, .int .i64 z, .string ⟨#[]⟩, .slice (some ⟨X7.heap.size + 1, 0, none⟩) 3 3]] X fun en w' => en = .returned (.bool false) ∧ Below X.heap.size X w' := fun X h => by
      have q := ends_as (w0 := X9) (w := X) (op := 9) (ty := 0) (n := z) (tx := ⟨#[]⟩) ⟨hz, KV, h, by simp only [cnt_parts, cnt.cntL]; omega⟩
      rw [wraps_ever _ _ _ rfl] at q
      exact q
    have EQ : ∀ X, Below X9.heap.size X9 X → Calls Tryz.prog 10 #[.agg #[.int .u8 9, .int .i64 0, .int .i64 z, .string ⟨#[]⟩, .slice (some ⟨X8.heap.size, 0, none⟩) 3 3]] X fun en w' => en = .returned (.bool true) ∧ Below X.heap.size X w' := fun X h => by
      have q := ends_as (w0 := X9) (w := X) (op := 9) (ty := 0) (n := z) (tx := ⟨#[]⟩) ⟨hz, KQ, h, by simp only [cnt_parts, cnt.cntL]; omega⟩
      rw [wraps_test _ _ _ (by decide)] at q
      exact q
    have WK : ∀ X, Below X9.heap.size X9 X → Calls Tryz.prog 11 #[] X fun en w' => en = .returned (.bool true) ∧ Below X.heap.size X w' := fun X h => works_any ((HF.out.below HF.out.lt hbwX9).below (Nat.lt_of_lt_of_le HF.out.lt hbwX9.size) h)
    have FIN : Hid (∀ X, Below X9.heap.size X9 X → Below w.heap.size w X) := fun X h => hbwX9.trans (h.mono hbwX9.size)
    clear KT KN KW KB KUk KU KVk KV KQ oWl oBl oUk oUl oVk oVl oQl hbX3 hbX4 hbX5 hbX6 hbX7 hbX8 hbX9 hbwX3 hbwX4 hbwX5 hbwX6 hbwX7 hbwX8 hbwX9
    generalize (tellF ⟨op, ty, n, tx, ks⟩ true).e = re at *
    refine wp_region_noPanic ?_
    refine wp_region_held_drew (S := fun w' => Below X9.heap.size X9 w') (by kernel_rfl) (Below.refl _ _).drew (fun hS0 => ?_)
    refine take_lit (i := 0) (v := ?_) rfl (by kernel_rfl) (by kernel_rfl) (by kernel_rfl) (fun _ _ _ h => h) (Or.inl ⟨by rfl, ?_⟩) hS0 ?_
    rotate_left 1
    · (intro w' hSw; obtain ⟨s0, s1, s2, s3, s4, _⟩ := (oW.below hSw).five; go_simp <;> with_reducible rfl)
    try simp only [Act.put, List.setIfInBounds_toArray, List.set_cons_zero, List.set_cons_succ]
    refine wpAnyH_ready (rs := [1]) (by kernel_rfl) (by simp) ?_
    refine ready_lit rfl (fun K hK => ?_)
    go_simp
    refine (EW X9.drew hS0).mono ?_
    rintro en Z1 ⟨rfl, hz1⟩
    have hS1 : Below X9.heap.size X9 Z1 := hS0.trans (hz1.mono hS0.size)
    go_wp2_with fail
    refine hK.out _ _ hS1 (fun hHeld => ?_)
    clear hK K hHeld
    try simp only [Act.put, List.setIfInBounds_toArray, List.set_cons_zero, List.set_cons_succ]
    refine take_lit (i := 2) (v := ?_) rfl (by kernel_rfl) (by kernel_rfl) (by kernel_rfl) (fun _ _ _ h => h) (Or.inl ⟨by rfl, ?_⟩) hS1 ?_
    rotate_left 1
    · (intro w' hSw; go_simp <;> with_reducible rfl)
    try simp only [Act.put, List.setIfInBounds_toArray, List.set_cons_zero, List.set_cons_succ]
    refine take_lit (i := 3) (v := ?_) rfl (by kernel_rfl) (by kernel_rfl) (by kernel_rfl) (fun _ _ _ h => h) (Or.inl ⟨by rfl, ?_⟩) hS1 ?_
    rotate_left 1
    · (intro w' hSw; obtain ⟨s0, s1, s2, s3, s4, _⟩ := (oB.below hSw).five; go_simp <;> with_reducible rfl)
    try simp only [Act.put, List.setIfInBounds_toArray, List.set_cons_zero, List.set_cons_succ]
    refine take_lit (i := 5) (v := ?_) rfl (by kernel_rfl) (by kernel_rfl) (by kernel_rfl) (fun _ _ _ h => h) (Or.inl ⟨by rfl, ?_⟩) hS1 ?_
    rotate_left 1
    · (intro w' hSw; obtain ⟨s0, s1, s2, s3, s4, _⟩ := (oA.below hSw).five; go_simp <;> with_reducible rfl)
    try simp only [Act.put, List.setIfInBounds_toArray, List.set_cons_zero, List.set_cons_succ]
    refine wpAnyH_ready (rs := [4]) (by kernel_rfl) (by simp) ?_
    refine ready_lit rfl (fun K hK => ?_)
    go_simp
    refine (EB Z1 hS1).mono ?_
    rintro en Z2 ⟨rfl, hz2⟩
    have hS2 : Below X9.heap.size X9 Z2 := hS1.trans (hz2.mono hS1.size)
    go_wp2_with fail
    refine hK.out _ _ hS2 (fun hHeld => ?_)
    clear hK K hHeld
    try simp only [Act.put, List.setIfInBounds_toArray, List.set_cons_zero, List.set_cons_succ]
    refine wpAnyH_ready (rs := [6]) (by kernel_rfl) (by simp) ?_
    refine ready_lit rfl (fun K hK => ?_)
    go_simp
    refine (ET Z2 hS2).mono ?_
    rintro en Z3 ⟨rfl, hz3⟩
    have hS3 : Below X9.heap.size X9 Z3 := hS2.trans (hz3.mono hS2.size)
    go_wp2_with fail
    refine hK.out _ _ hS3 (fun hHeld => ?_)
    clear hK K hHeld
    try simp only [Act.put, List.setIfInBounds_toArray, List.set_cons_zero, List.set_cons_succ]
    refine take_lit (i := 7) (v := ?_) rfl (by kernel_rfl) (by kernel_rfl) (by kernel_rfl) (fun _ _ _ h => h) (Or.inl ⟨by rfl, ?_⟩) hS3 ?_
    rotate_left 1
    · (intro w' hSw; go_simp <;> with_reducible rfl)
    try simp only [Act.put, List.setIfInBounds_toArray, List.set_cons_zero, List.set_cons_succ]
    refine take_lit (i := 8) (v := ?_) rfl (by kernel_rfl) (by kernel_rfl) (by kernel_rfl) (fun _ _ _ h => h) (Or.inl ⟨by rfl, ?_⟩) hS3 ?_
    rotate_left 1
    · (intro w' hSw; go_simp <;> with_reducible rfl)
    try simp only [Act.put, List.setIfInBounds_toArray, List.set_cons_zero, List.set_cons_succ]
    refine take_lit (i := 9) (v := ?_) rfl (by kernel_rfl) (by kernel_rfl) (by kernel_rfl) (fun _ _ _ h => h) (Or.inl ⟨by rfl, ?_⟩) hS3 ?_
    rotate_left 1
    · (intro w' hSw; go_simp <;> with_reducible rfl)
    try simp only [Act.put, List.setIfInBounds_toArray, List.set_cons_zero, List.set_cons_succ]
    refine take_lit (i := 10) (v := ?_) rfl (by kernel_rfl) (by kernel_rfl) (by kernel_rfl) (fun _ _ _ h => h) (Or.inl ⟨by rfl, ?_⟩) hS3 ?_
    rotate_left 1
    · (intro w' hSw; obtain ⟨s0, s1, s2, s3, s4, _⟩ := (oU.below hSw).five; go_simp <;> with_reducible rfl)
    try simp only [Act.put, List.setIfInBounds_toArray, List.set_cons_zero, List.set_cons_succ]
    refine wpAnyH_ready (rs := [11]) (by kernel_rfl) (by simp) ?_
    refine ready_lit rfl (fun K hK => ?_)
    go_simp
    refine (EU Z3 hS3).mono ?_
    rintro en Z4 ⟨rfl, hz4⟩
    have hS4 : Below X9.heap.size X9 Z4 := hS3.trans (hz4.mono hS3.size)
    go_wp2_with fail
    refine hK.out _ _ hS4 (fun hHeld => ?_)
    clear hK K hHeld
    try simp only [Act.put, List.setIfInBounds_toArray, List.set_cons_zero, List.set_cons_succ]
    refine take_lit (i := 12) (v := ?_) rfl (by kernel_rfl) (by kernel_rfl) (by kernel_rfl) (fun _ _ _ h => h) (Or.inl ⟨by rfl, ?_⟩) hS4 ?_
    rotate_left 1
    · (intro w' hSw; go_simp <;> with_reducible rfl)
    try simp only [Act.put, List.setIfInBounds_toArray, List.set_cons_zero, List.set_cons_succ]
    refine take_lit (i := 13) (v := ?_) rfl (by kernel_rfl) (by kernel_rfl) (by kernel_rfl) (fun _ _ _ h => h) (Or.inl ⟨by rfl, ?_⟩) hS4 ?_
    rotate_left 1
    · (intro w' hSw; go_simp <;> with_reducible rfl)
    try simp only [Act.put, List.setIfInBounds_toArray, List.set_cons_zero, List.set_cons_succ]
    refine take_lit (i := 14) (v := ?_) rfl (by kernel_rfl) (by kernel_rfl) (by kernel_rfl) (fun _ _ _ h => h) (Or.inl ⟨by rfl, ?_⟩) hS4 ?_
    rotate_left 1
    · (intro w' hSw; obtain ⟨s0, s1, s2, s3, s4, _⟩ := (oV.below hSw).five; go_simp <;> with_reducible rfl)
    try simp only [Act.put, List.setIfInBounds_toArray, List.set_cons_zero, List.set_cons_succ]
    refine wpAnyH_ready (rs := [15]) (by kernel_rfl) (by simp) ?_
    refine ready_lit rfl (fun K hK => ?_)
    go_simp
    refine (EV Z4 hS4).mono ?_
    rintro en Z5 ⟨rfl, hz5⟩
    have hS5 : Below X9.heap.size X9 Z5 := hS4.trans (hz5.mono hS4.size)
    go_wp2_with fail
    refine hK.out _ _ hS5 (fun hHeld => ?_)
    clear hK K hHeld
    try simp only [Act.put, List.setIfInBounds_toArray, List.set_cons_zero, List.set_cons_succ]
    refine take_lit (i := 16) (v := ?_) rfl (by kernel_rfl) (by kernel_rfl) (by kernel_rfl) (fun _ _ _ h => h) (Or.inl ⟨by rfl, ?_⟩) hS5 ?_
    rotate_left 1
    · (intro w' hSw; go_simp <;> with_reducible rfl)
    try simp only [Act.put, List.setIfInBounds_toArray, List.set_cons_zero, List.set_cons_succ]
    refine take_lit (i := 17) (v := ?_) rfl (by kernel_rfl) (by kernel_rfl) (by kernel_rfl) (fun _ _ _ h => h) (Or.inl ⟨by rfl, ?_⟩) hS5 ?_
    rotate_left 1
    · (intro w' hSw; go_simp <;> with_reducible rfl)
    try simp only [Act.put, List.setIfInBounds_toArray, List.set_cons_zero, List.set_cons_succ]
    refine take_lit (i := 18) (v := ?_) rfl (by kernel_rfl) (by kernel_rfl) (by kernel_rfl) (fun _ _ _ h => h) (Or.inl ⟨by rfl, ?_⟩) hS5 ?_
    rotate_left 1
    · (intro w' hSw; go_simp <;> with_reducible rfl)
    try simp only [Act.put, List.setIfInBounds_toArray, List.set_cons_zero, List.set_cons_succ]
    refine take_lit (i := 19) (v := ?_) rfl (by kernel_rfl) (by kernel_rfl) (by kernel_rfl) (fun _ _ _ h => h) (Or.inl ⟨by rfl, ?_⟩) hS5 ?_
    rotate_left 1
    · (intro w' hSw; obtain ⟨s0, s1, s2, s3, s4, _⟩ := (oQ.below hSw).five; go_simp <;> with_reducible rfl)
    try simp only [Act.put, List.setIfInBounds_toArray, List.set_cons_zero, List.set_cons_succ]
    refine wpAnyH_ready (rs := [20]) (by kernel_rfl) (by simp) ?_
    refine ready_lit rfl (fun K hK => ?_)
    go_simp
    refine (EQ Z5 hS5).mono ?_
    rintro en Z6 ⟨rfl, hz6⟩
    have hS6 : Below X9.heap.size X9 Z6 := hS5.trans (hz6.mono hS5.size)
    go_wp2_with fail
    refine hK.out _ _ hS6 (fun hHeld => ?_)
    clear hK K hHeld
    try simp only [Act.put, List.setIfInBounds_toArray, List.set_cons_zero, List.set_cons_succ]
    refine take_lit (i := 21) (v := ?_) rfl (by kernel_rfl) (by kernel_rfl) (by kernel_rfl) (fun _ _ _ h => h) (Or.inl ⟨by rfl, ?_⟩) hS6 ?_
    rotate_left 1
    · (intro w' hSw; go_simp <;> with_reducible rfl)
    try simp only [Act.put, List.setIfInBounds_toArray, List.set_cons_zero, List.set_cons_succ]
    refine take_lit (i := 22) (v := ?_) rfl (by kernel_rfl) (by kernel_rfl) (by kernel_rfl) (fun _ _ _ h => h) (Or.inl ⟨by rfl, ?_⟩) hS6 ?_
    rotate_left 1
    · (intro w' hSw; go_simp <;> with_reducible rfl)
    try simp only [Act.put, List.setIfInBounds_toArray, List.set_cons_zero, List.set_cons_succ]
    refine wpAnyH_ready (rs := [23]) (by kernel_rfl) (by simp) ?_
    refine ready_lit rfl (fun K hK => ?_)
    go_simp
    refine (WK Z6 hS6).mono ?_
    rintro en Z7 ⟨rfl, hz7⟩
    have hS7 : Below X9.heap.size X9 Z7 := hS6.trans (hz7.mono hS6.size)
    go_wp2_with fail
    refine hK.out _ _ hS7 (fun hHeld => ?_)
    clear hK K hHeld
    try simp only [Act.put, List.setIfInBounds_toArray, List.set_cons_zero, List.set_cons_succ]
    refine take_lit (i := 24) (v := ?_) rfl (by kernel_rfl) (by kernel_rfl) (by kernel_rfl) (fun _ _ _ h => h) (Or.inl ⟨by rfl, ?_⟩) hS7 ?_
    rotate_left 1
    · (intro w' hSw; go_simp <;> with_reducible rfl)
    try simp only [Act.put, List.setIfInBounds_toArray, List.set_cons_zero, List.set_cons_succ]
    refine take_lit (i := 25) (v := ?_) rfl (by kernel_rfl) (by kernel_rfl) (by kernel_rfl) (fun _ _ _ h => h) (Or.inl ⟨by rfl, ?_⟩) hS7 ?_
    rotate_left 1
    · (intro w' hSw; go_simp <;> with_reducible rfl)
    try simp only [Act.put, List.setIfInBounds_toArray, List.set_cons_zero, List.set_cons_succ]
    refine wpAnyH_done (by kernel_rfl) ?_ _
    refine NoPanic.normal ?_
    go_wp2
    go_ret
    exact ⟨rfl, FIN.out Z7 hS7⟩
  · have i1 : (c1 : Int) > 1000 := by omega
    go_wp2
    go_ret
    exact ⟨rfl, hbww1⟩
end Go.Proofs.YtepadfcjjcionaaGreatDoor
