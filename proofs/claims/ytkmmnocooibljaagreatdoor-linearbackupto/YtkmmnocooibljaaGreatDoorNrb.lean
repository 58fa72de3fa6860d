/-
  What came in, by its bulk: lines of a reading whose bulk is bounded.
-/
import Derived.Test.YtkmmnocooibljaaGreatDoorRows
import Derived.Test.YtkmmnocooibljaaGreatDoorNr
namespace Go.Proofs.YtkmmnocooibljaaGreatDoor
open Go.ChangeShapes Go.WideShapes Go.ChangeAt Go.RowKit Go.Deep
set_option linter.unusedVariables false

theorem bk_one {H : Type} (d : DataW H) : 1 ≤ Rows.uptoBulk d := by
  cases d with
  | lit l => cases l <;> simp [Rows.uptoBulk]
  | nil => simp [Rows.uptoBulk]
  | ptr d => simp [Rows.uptoBulk]
  | slice elems spare => simp [Rows.uptoBulk]
  | agg parts => simp [Rows.uptoBulk]
  | iface t d => simp [Rows.uptoBulk]
  | map entries => simp [Rows.uptoBulk]
  | held h => simp [Rows.uptoBulk]
theorem bk_mem {H : Type} {d : DataW H} {l : List (DataW H)} (h : d ∈ l) : Rows.uptoBulk d ≤ Rows.uptoBulkAll l := by
  induction l with
  | nil => cases h
  | cons x r ih =>
    simp only [Rows.uptoBulkAll]
    cases List.mem_cons.1 h with
    | inl e => subst e; omega
    | inr e => have := ih e; omega
theorem bk_all {H : Type} (m : Nat) (l : List (DataW H)) (h : ∀ d ∈ l, m ≤ Rows.uptoBulk d) : l.length * m ≤ Rows.uptoBulkAll l := by
  induction l with
  | nil => simp
  | cons x r ih =>
    have h1 := h x (by simp)
    have h2 := ih (fun d hd => h d (by simp [hd]))
    simp only [Rows.uptoBulkAll, List.length_cons, Nat.succ_mul]
    omega
/-- ANY ROW THAT CAME IN, of things each of which is of bulk m at least. -/
theorem trod_rowB {H : Type} {enc : TypeId × Value → H} {W : World} {tS e : TypeId} (hu : Tryz.prog.underlying tS = some (.slice e)) (sz : Nat) (hc : Tryz.prog.cellsOf e = sz) (hs1 : 1 ≤ sz) {α : Type} (z : α) (cf : α → List Value) (hcf : ∀ x, (cf x).length = sz) (ok : α → Prop) (m B : Nat) (hm1 : 1 ≤ m) (hB : B ≤ 1048576)
    (each : ∀ (cs : List Value) (fuel : Nat) (y : DataW H × List MemPlace), DataW.trod enc Tryz.prog W 0 (fun _ => true) true fuel e cs = some y → Rows.uptoBulk y.1 ≤ B → (∃ x : α, cs = cf x ∧ ok x) ∧ m ≤ Rows.uptoBulk y.1)
    {v : Value} {fuel : Nat} {y : DataW H × List MemPlace} (h : DataW.trod enc Tryz.prog W 0 (fun _ => true) true fuel tS [v] = some y) (hw : Rows.uptoBulk y.1 ≤ B) :
    ∃ ao xs cap, RowIn W z cf sz ok v ao xs cap ∧ xs.length * m + 1 ≤ B ∧ (ao = none → cap = 0) := by
  rcases open_slice hu h with ⟨e0, e9⟩ | ⟨a, len, cap, mm, n, D, Pl, e0, hb, hl, hm, hmm, rfl, hx⟩
  · simp at e0
    subst e0
    have h1 := bk_one y.1
    exact ⟨none, [], 0, ⟨rfl, .inl rfl, by simp, fun _ => rfl, Nat.le_refl _, by unfold maxLen; omega, by simp⟩, by simp; omega, fun _ => rfl⟩
  · simp at e0
    subst e0
    simp only [if_true] at hmm
    subst hmm
    simp only [Rows.uptoBulk] at hw
    have hD : ∀ i, i < len → Rows.uptoBulk (D i) ≤ B := fun i hi => by
      have := bk_mem (d := D i) (l := (List.range len).map D) (List.mem_map.2 ⟨i, List.mem_range.2 hi, rfl⟩)
      omega
    have eachi : ∀ i, i < len → ∃ x : α, (∀ d, d < sz → W.cell? (a.add (i * sz + d)) = (cf x)[d]?) ∧ ok x := by
      intro i hi
      obtain ⟨cs, h1, h2⟩ := hx i (by omega)
      rw [hc] at h1
      obtain ⟨_, hlen, hcell⟩ := World.cells?_some h1
      obtain ⟨⟨x, rfl, hxo⟩, _⟩ := each cs _ _ h2 (hD i hi)
      refine ⟨x, fun d hd => ?_, hxo⟩
      have e1 := hcell d (by omega)
      rw [add_add] at e1
      exact e1
    have hlm : len * m ≤ Rows.uptoBulkAll ((List.range len).map D) := by
      have := bk_all m ((List.range len).map D) (fun d hd => by
        obtain ⟨i, hi, rfl⟩ := List.mem_map.1 hd
        have hi := List.mem_range.1 hi
        obtain ⟨cs, h1, h2⟩ := hx i (by omega)
        exact (each cs _ _ h2 (hD i hi)).2)
      simpa using this
    have hlenb : len ≤ big := by
      have h2 : len ≤ len * m := Nat.le_mul_of_pos_right _ hm1
      unfold big
      omega
    obtain ⟨f, hf⟩ := @choose_lt α ⟨z⟩ _ _ eachi
    have hlen : ((List.range len).map f).length = len := by simp
    refine ⟨some a, (List.range len).map f, mm, ⟨by rw [hlen], ?_, fun x hx => ?_, (fun q => by cases q), by rw [hlen]; exact hl, hm, by rw [hlen]; exact hlenb⟩, by rw [hlen]; omega, (fun q => by cases q)⟩
    · by_cases h0 : len = 0
      · left; rw [hlen]; exact h0
      · right
        obtain ⟨b, o, spot⟩ := a
        have c0 := (hf 0 (by omega)).1 0 (by omega)
        obtain ⟨u, hu0⟩ : ∃ u, (cf (f 0))[0]? = some u := ⟨_, List.getElem?_eq_getElem (by rw [hcf]; omega)⟩
        rw [hu0] at c0
        have hs : spot = none := by simpa [Addr.add] using World.cell?_spot c0
        subst hs
        refine ⟨b, o, rfl, fun i hi d hd => ?_⟩
        rw [hlen] at hi
        have hd2 : ((List.range len).map f).getD i z = f i := by simp [List.getD, hi]
        rw [hd2, Nat.add_assoc, ← madd_lit]
        exact (hf i hi).1 d hd
    · obtain ⟨i, hi, rfl⟩ := List.mem_map.1 hx
      exact (hf i (List.mem_range.1 hi)).2
set_option maxRecDepth 100000 in
theorem each_armB {H : Type} {enc : TypeId × Value → H} {W : World} (B : Nat) (cs : List Value) (fuel : Nat) (y : DataW H × List MemPlace) (h : DataW.trod enc Tryz.prog W 0 (fun _ => true) true fuel 51 cs = some y) (_ : Rows.uptoBulk y.1 ≤ B) : (∃ x : Int × Int, cs = [.int .i64 x.1, .int .i64 x.2] ∧ (N64 x.1 ∧ N64 x.2)) ∧ 3 ≤ Rows.uptoBulk y.1 := by
  obtain ⟨xs, k, hk, rfl, hcl, hxl, hf⟩ := DataW.trod_struct Tryz.underlying51 h
  rw [ncArm] at hcl
  obtain ⟨y0, y1, rfl⟩ := nlist2 xs hxl
  obtain ⟨u0, u1, rfl⟩ := nlist2 cs hcl
  have g0 := hf 0 _ rfl
  have g1 := hf 1 _ rfl
  simp [ncI64, ncInt] at g0 g1
  obtain ⟨x0, q0, _, b0⟩ := DataW.trod_int Tryz.underlying2 g0
  obtain ⟨x1, q1, _, b1⟩ := DataW.trod_int Tryz.underlying3 g1
  simp at q0 q1
  subst q0 q1
  refine ⟨⟨(x0, x1), rfl, nwf_i64 b0, nwf_i64 b1⟩, ?_⟩
  have h0 := bk_one y0.1
  have h1 := bk_one y1.1
  simp only [List.map, Rows.uptoBulk, Rows.uptoBulkAll]
  omega
set_option maxRecDepth 100000 in
theorem each_lineB {H : Type} {enc : TypeId × Value → H} {W : World} (B : Nat) (hB : B ≤ 1048576) (cs : List Value) (fuel : Nat) (y : DataW H × List MemPlace) (h : DataW.trod enc Tryz.prog W 0 (fun _ => true) true fuel 56 cs = some y) (hw : Rows.uptoBulk y.1 ≤ B) : (∃ x : LnP, cs = x.cs.toList ∧ (LnIn W x ∧ x.x.arms.length * 3 ≤ B ∧ (x.ao = none → x.cp = 0))) ∧ 7 ≤ Rows.uptoBulk y.1 := by
  obtain ⟨xs, k, hk, rfl, hcl, hxl, hf⟩ := DataW.trod_struct Tryz.underlying56 h
  rw [ncLine] at hcl
  obtain ⟨y0, y1, rfl⟩ := nlist2 xs hxl
  obtain ⟨u0, u1, u2, u3, u4, rfl⟩ := nlist5 cs hcl
  have g0 := hf 0 _ rfl
  have g1 := hf 1 _ rfl
  simp [ncInt, ncInstr] at g0 g1
  obtain ⟨x0, q0, _, b0⟩ := DataW.trod_int Tryz.underlying3 g0
  simp at q0
  subst q0
  obtain ⟨zs, k2, hk2, e2, hcl2, hxl2, hf2⟩ := DataW.trod_struct Tryz.underlying43 g1
  have e3 := congrArg Prod.fst e2
  have w0 := bk_one y0.1
  simp only [List.map, Rows.uptoBulk, Rows.uptoBulkAll] at hw ⊢
  rw [e3] at hw ⊢
  obtain ⟨z0, z1, z2, z3, rfl⟩ := nlist4 zs hxl2
  simp only [List.map, Rows.uptoBulk, Rows.uptoBulkAll] at hw ⊢
  have p0 := hf2 0 _ rfl
  have p1 := hf2 1 _ rfl
  have p2 := hf2 2 _ rfl
  have p3 := hf2 3 _ rfl
  simp [ncU8, ncI64, ncArms] at p0 p1 p2 p3
  obtain ⟨s0, r0, _, c0⟩ := DataW.trod_int Tryz.underlying5 p0
  obtain ⟨s1, r1, _, c1⟩ := DataW.trod_int Tryz.underlying2 p1
  obtain ⟨s2, r2, _, c2⟩ := DataW.trod_int Tryz.underlying2 p2
  have w1 := bk_one z0.1
  have w2 := bk_one z1.1
  have w3 := bk_one z2.1
  have w4 := bk_one z3.1
  obtain ⟨ao, ar, cap, hr, hlm, hno⟩ := trod_rowB Tryz.underlying41 2 ncArm (by omega) ((0, 0) : Int × Int) (fun x => [.int .i64 x.1, .int .i64 x.2]) (fun _ => rfl) (fun x => N64 x.1 ∧ N64 x.2) 3 B (by omega) hB (each_armB B) p3 (by omega)
  have r3 := hr.eq
  simp at r0 r1 r2
  subst r0 r1 r2 r3
  have hb := nwf_u8 c0
  obtain ⟨z, rfl⟩ := Int.eq_ofNat_of_zero_le hb.1
  refine ⟨⟨⟨x0, ⟨z, s1, s2, ar⟩, ao, cap⟩, rfl, ⟨nwf_i64 b0, ⟨by show z < 256; omega, nwf_i64 c1, nwf_i64 c2, ⟨hr.each, ?_⟩⟩, ?_⟩, by show ar.length * 3 ≤ B; omega, hno⟩, by omega⟩
  · rcases hr.row with h0 | ⟨b, off, e, hc⟩
    · exact .inl (List.length_eq_zero_iff.1 h0)
    · by_cases h0 : ar = []
      · exact .inl h0
      · right
        have hl : 0 < ar.length := List.length_pos_iff.2 h0
        have hq := hc 0 hl 0 (by omega)
        refine ⟨b, off, e, World.block_lt_of_cell? W _ hq, fun i hi => ⟨?_, ?_⟩⟩
        · exact hc i hi 0 (by omega)
        · exact hc i hi 1 (by omega)
  · exact Nat.le_trans hr.mx (by unfold big; omega)
/-- LINES THAT CAME IN, of bounded bulk. -/
structure LnsUp (W : World) (ao : Option Addr) (xs : List LnP) : Prop where
  ins : LnsIn W ao xs
  no : ∀ y ∈ xs, y.ao = none → y.cp = 0
  len : xs.length ≤ 150000
  arms : ∀ y ∈ xs, y.x.arms.length ≤ 350000
set_option maxRecDepth 100000 in
theorem open_linesB {H : Type} {enc : TypeId × Value → H} {W : World} {base : Nat} {v : Value} {d : DataW H} {ps : List MemPlace} {r : Reach} (hv : Value.okWide Tryz.prog W r base 22 v) (h : DataW.Trod enc Tryz.prog W 0 (fun _ => true) true 22 v d ps) (hw : Rows.uptoBulk d ≤ 1048576) : ∃ ao xs cap, v = .slice ao xs.length cap ∧ LnsUp W ao xs := by
  obtain ⟨a0, len, cap, rfl⟩ := okWide_slice Tryz.underlying22 hv
  obtain ⟨fuel, h⟩ := h
  obtain ⟨ao, xs, cap2, hr, hlm, _⟩ := trod_rowB Tryz.underlying22 5 ncLine (by omega) zLn (fun x => x.cs.toList) (fun _ => rfl) (fun x => LnIn W x ∧ x.x.arms.length * 3 ≤ 1048576 ∧ (x.ao = none → x.cp = 0)) 7 1048576 (by omega) (by omega) (each_lineB 1048576 (by omega)) h hw
  refine ⟨ao, xs, cap2, hr.eq, ⟨hr.at (fun i hi d hd => ?_), fun y hy => (hr.each y hy).1, Nat.le_trans hr.mx (by unfold big; omega)⟩, fun y hy => (hr.each y hy).2.2, by omega, fun y hy => by have := (hr.each y hy).2.1; omega⟩
  rcases (by omega : d = 0 ∨ d = 1 ∨ d = 2 ∨ d = 3 ∨ d = 4) with rfl | rfl | rfl | rfl | rfl <;> rfl
end Go.Proofs.YtkmmnocooibljaaGreatDoor
