/-
  MODULES THAT CAME IN.
-/
import Derived.Test.YtjfdlphkmpkjdaaDoorChecked
import Derived.Test.YtjfdlphkmpkjdaaDoorJbs
import Derived.Deep.Slices
import Derived.ProofKit
import Derived.OpenShut
import Derived.Carry
import Derived.SizedLaws
namespace Go.Proofs.YtjfdlphkmpkjdaaDoor
open Go.ChangeShapes Go.WideShapes Go.ChangeAt Go.RowKit Go.Deep
set_option linter.unusedVariables false

theorem mwf_u8 {x : Int} (h : (Lit.int .u8 x).wf = true) : 0 ≤ x ∧ x < 256 := by
  have h2 := h
  simp [Lit.wf] at h2
  have e1 : IntKind.u8.min = 0 := by rfl
  have e2 : IntKind.u8.max = 255 := by rfl
  rw [e1, e2] at h2
  exact ⟨by omega, by omega⟩
theorem mwf_i64 {x : Int} (h : (Lit.int .i64 x).wf = true) : N64 x := by
  have h2 := h
  simp [Lit.wf] at h2
  have e1 : IntKind.i64.min = -9223372036854775808 := by rfl
  have e2 : IntKind.i64.max = 9223372036854775807 := by rfl
  rw [e1] at h2
  exact ⟨by omega, by omega⟩
theorem madd_lit (b o i : Nat) : (⟨b, o, none⟩ : Addr).add i = ⟨b, o + i, none⟩ := by unfold Addr.add; split <;> simp_all
theorem mweights_all {H : Type} {P : Program} {e : TypeId} : ∀ {ds : List (DataW H)} {d : DataW H}, d ∈ ds → ∀ n ∈ d.weights P e, n ∈ DataW.weightsAll P e ds
  | x :: r, d, hd, n, hn => by
    rw [DataW.weightsAll, List.mem_append]
    rcases List.mem_cons.1 hd with rfl | hd
    · exact .inl hn
    · exact .inr (mweights_all hd n hn)
  | [], _, hd, _, _ => by cases hd
/-- A row that came in, of things that are told one by one. -/
structure RowIn (W : World) {α : Type} (z : α) (cf : α → List Value) (sz : Nat) (ok : α → Prop) (v : Value) (ao : Option Addr) (xs : List α) (cap : Nat) : Prop where
  eq : v = .slice ao xs.length cap
  row : xs.length = 0 ∨ ∃ b off, ao = some ⟨b, off, none⟩ ∧ ∀ i, i < xs.length → ∀ d, d < sz → W.cell? ⟨b, off + i * sz + d, none⟩ = (cf (xs.getD i z))[d]?
  each : ∀ x ∈ xs, ok x
  no : ao = none → cap = 0
  le : xs.length ≤ cap
  cm : cap ≤ maxLen
  mx : xs.length ≤ big
set_option maxRecDepth 100000 in
theorem trod_row {H : Type} {enc : TypeId × Value → H} {W : World} {tS e : TypeId} (hu : Tryd.prog.underlying tS = some (.slice e)) (sz B : Nat) (hc : Tryd.prog.cellsOf e = sz) (hB : Tryd.prog.bytesOf e = B) (hB1 : 1 ≤ B) (hs1 : 1 ≤ sz) {α : Type} (z : α) (cf : α → List Value) (hcf : ∀ x, (cf x).length = sz) (ok : α → Prop)
    (each : ∀ (cs : List Value) (fuel : Nat) (y : DataW H × List MemPlace), DataW.trod enc Tryd.prog W 0 (fun _ => true) true fuel e cs = some y → (∀ k ∈ y.1.weights Tryd.prog e, k ≤ reachBytes) → ∃ x : α, cs = cf x ∧ ok x)
    {v : Value} {fuel : Nat} {y : DataW H × List MemPlace} (h : DataW.trod enc Tryd.prog W 0 (fun _ => true) true fuel tS [v] = some y) (hw : ∀ k ∈ y.1.weights Tryd.prog tS, k ≤ reachBytes) :
    ∃ ao xs cap, RowIn W z cf sz ok v ao xs cap := by
  rcases open_slice hu h with ⟨e0, _⟩ | ⟨a, len, cap, m, n, D, Pl, e0, hb, hl, hm, hmm, rfl, hx⟩
  · simp at e0
    subst e0
    exact ⟨none, [], 0, rfl, .inl rfl, by simp, fun _ => rfl, Nat.le_refl _, by unfold maxLen; omega, by simp⟩
  · simp at e0
    subst e0
    simp only [if_true] at hmm
    subst hmm
    have hlenb : len ≤ big := by
      have := hw ((((List.range len).map D).length + ((List.range (m - len)).map fun j => D (len + j)).length) * Tryd.prog.bytesOf e) (by simp [DataW.weights, hu])
      rw [hB] at this
      simp only [List.length_map, List.length_range] at this
      have h2 : len ≤ (len + (m - len)) * B := Nat.le_trans (Nat.le_add_right _ _) (Nat.le_mul_of_pos_right _ hB1)
      have h3 := Nat.le_trans h2 this
      exact Nat.le_trans h3 (by decide)
    have eachi : ∀ i, i < len → ∃ x : α, (∀ d, d < sz → W.cell? (a.add (i * sz + d)) = (cf x)[d]?) ∧ ok x := by
      intro i hi
      obtain ⟨cs, h1, h2⟩ := hx i (by omega)
      rw [hc] at h1
      obtain ⟨_, hlen, hcell⟩ := World.cells?_some h1
      obtain ⟨x, rfl, hxo⟩ := each cs _ _ h2 (fun k hk => hw k (by
        simp only [DataW.weights, hu]
        rw [List.mem_cons, List.mem_append]
        exact .inr (.inl (mweights_all (List.mem_map.2 ⟨i, List.mem_range.2 hi, rfl⟩) k hk))))
      refine ⟨x, fun d hd => ?_, hxo⟩
      have e1 := hcell d (by omega)
      rw [add_add] at e1
      exact e1
    obtain ⟨f, hf⟩ := @choose_lt α ⟨z⟩ _ _ eachi
    have hlen : ((List.range len).map f).length = len := by simp
    refine ⟨some a, (List.range len).map f, m, by rw [hlen], ?_, fun x hx => ?_, (fun q => by cases q), by rw [hlen]; exact hl, hm, by rw [hlen]; exact hlenb⟩
    · by_cases h0 : len = 0
      · left; rw [hlen]; exact h0
      · right
        obtain ⟨b, o, spot⟩ := a
        have c0 := (hf 0 (by omega)).1 0 (by omega)
        obtain ⟨u, hu0⟩ : ∃ u, (cf (f 0))[0]? = some u := ⟨_, List.getElem?_eq_getElem (by rw [hcf]; omega)⟩
        rw [hu0] at c0
        have hs : spot = none := by simpa [Addr.add] using World.cell?_spot c0
        subst hs
        refine ⟨b, o, rfl, fun i hi d hd => ?_⟩
        rw [hlen] at hi
        have hd2 : ((List.range len).map f).getD i z = f i := by simp [List.getD, hi]
        rw [hd2, Nat.add_assoc, ← madd_lit]
        exact (hf i hi).1 d hd
    · obtain ⟨i, hi, rfl⟩ := List.mem_map.1 hx
      exact (hf i (List.mem_range.1 hi)).2
theorem RowIn.at {W : World} {α : Type} {z : α} {cf : α → List Value} {sz : Nat} {ok : α → Prop} {v : Value} {ao : Option Addr} {xs : List α} {cap : Nat} (h : RowIn W z cf sz ok v ao xs cap) {f : Nat → Nat → Value} (hf : ∀ i, i < xs.length → ∀ d, d < sz → (cf (xs.getD i z))[d]? = some (f i d)) : RowAt W ao sz xs.length f := by
  rcases h.row with h0 | ⟨b, off, e, hc⟩
  · exact .inl h0
  · exact .inr ⟨b, off, e, fun i hi d hd => (hc i hi d hd).trans (hf i hi d hd)⟩
theorem mcU8 : Tryd.prog.cellsOf 5 = 1 := by kernel_rfl
theorem mcInt : Tryd.prog.cellsOf 3 = 1 := by kernel_rfl
theorem mcStr : Tryd.prog.cellsOf 9 = 1 := by kernel_rfl
theorem mcField : Tryd.prog.cellsOf 54 = 2 := by kernel_rfl
theorem mcType : Tryd.prog.cellsOf 57 = 5 := by kernel_rfl
theorem mcRoutine : Tryd.prog.cellsOf 59 = 6 := by kernel_rfl
theorem mcModule : Tryd.prog.cellsOf 29 = 3 := by kernel_rfl
theorem mcFields : Tryd.prog.cellsOf 55 = 1 := by kernel_rfl
theorem mcInts : Tryd.prog.cellsOf 34 = 1 := by kernel_rfl
theorem mcBytes : Tryd.prog.cellsOf 46 = 1 := by kernel_rfl
theorem mcTypes : Tryd.prog.cellsOf 25 = 1 := by kernel_rfl
theorem mcStrs : Tryd.prog.cellsOf 26 = 1 := by kernel_rfl
theorem mcRoutines : Tryd.prog.cellsOf 27 = 1 := by kernel_rfl
theorem each_int {H : Type} {enc : TypeId × Value → H} {W : World} (cs : List Value) (fuel : Nat) (y : DataW H × List MemPlace) (h : DataW.trod enc Tryd.prog W 0 (fun _ => true) true fuel 3 cs = some y) (hw : ∀ k ∈ y.1.weights Tryd.prog 3, k ≤ reachBytes) : ∃ x : Int, cs = [.int .i64 x] ∧ N64 x := by
  obtain ⟨x, rfl, _, hb⟩ := DataW.trod_int Tryd.underlying3 h
  exact ⟨x, rfl, mwf_i64 hb⟩
theorem each_byte {H : Type} {enc : TypeId × Value → H} {W : World} (cs : List Value) (fuel : Nat) (y : DataW H × List MemPlace) (h : DataW.trod enc Tryd.prog W 0 (fun _ => true) true fuel 5 cs = some y) (hw : ∀ k ∈ y.1.weights Tryd.prog 5, k ≤ reachBytes) : ∃ x : Nat, cs = [.int .u8 (x : Int)] ∧ x < 256 := by
  obtain ⟨x, rfl, _, hb⟩ := DataW.trod_int Tryd.underlying5 h
  have := mwf_u8 hb
  obtain ⟨n, rfl⟩ := Int.eq_ofNat_of_zero_le this.1
  exact ⟨n, rfl, by omega⟩
theorem each_str {H : Type} {enc : TypeId × Value → H} {W : World} (cs : List Value) (fuel : Nat) (y : DataW H × List MemPlace) (h : DataW.trod enc Tryd.prog W 0 (fun _ => true) true fuel 9 cs = some y) (hw : ∀ k ∈ y.1.weights Tryd.prog 9, k ≤ reachBytes) : ∃ x : ByteArray, cs = [.string x] ∧ x.size ≤ big := by
  obtain ⟨x, rfl, e1, _⟩ := DataW.trod_string Tryd.underlying9 h
  refine ⟨x, rfl, ?_⟩
  have := hw x.data.toList.length (by rw [e1]; simp [DataW.weights])
  unfold reachBytes at this
  rw [Array.length_toList] at this
  exact Nat.le_trans this (by decide)
theorem mlist2 {α : Type} (l : List α) (h : l.length = 2) : ∃ a0 a1, l = [a0, a1] := by
  match l, h with
  | [a0, a1], _ => exact ⟨a0, a1, rfl⟩
theorem mlist3 {α : Type} (l : List α) (h : l.length = 3) : ∃ a0 a1 a2, l = [a0, a1, a2] := by
  match l, h with
  | [a0, a1, a2], _ => exact ⟨a0, a1, a2, rfl⟩
theorem mlist5 {α : Type} (l : List α) (h : l.length = 5) : ∃ a0 a1 a2 a3 a4, l = [a0, a1, a2, a3, a4] := by
  match l, h with
  | [a0, a1, a2, a3, a4], _ => exact ⟨a0, a1, a2, a3, a4, rfl⟩
theorem mlist6 {α : Type} (l : List α) (h : l.length = 6) : ∃ a0 a1 a2 a3 a4 a5, l = [a0, a1, a2, a3, a4, a5] := by
  match l, h with
  | [a0, a1, a2, a3, a4, a5], _ => exact ⟨a0, a1, a2, a3, a4, a5, rfl⟩
set_option maxRecDepth 100000 in
theorem each_field {H : Type} {enc : TypeId × Value → H} {W : World} (cs : List Value) (fuel : Nat) (y : DataW H × List MemPlace) (h : DataW.trod enc Tryd.prog W 0 (fun _ => true) true fuel 54 cs = some y) (hw : ∀ k ∈ y.1.weights Tryd.prog 54, k ≤ reachBytes) : ∃ x : Fl, cs = [.string x.name, .int .i64 x.typ] ∧ (x.name.size ≤ big ∧ N64 x.typ) := by
  obtain ⟨xs, k, hk, rfl, hcl, hxl, hf⟩ := DataW.trod_struct Tryd.underlying54 h
  rw [mcField] at hcl
  have hwe : ∀ (j : Nat) (t : TypeId) (d : DataW H), ([9, 3] : List TypeId)[j]? = some t → (xs.map (·.1))[j]? = some d → ∀ n ∈ d.weights Tryd.prog t, n ≤ reachBytes := by
    intro j t d ht hd n hn
    refine hw n ?_
    simp only [DataW.weights, Tryd.underlying54]
    exact DataW.weights_mem_each (j := j) (t := t) (d := d) ht hd n hn
  obtain ⟨y0, y1, rfl⟩ := mlist2 xs hxl
  obtain ⟨u0, u1, rfl⟩ := mlist2 cs hcl
  have g0 := hf 0 _ rfl
  have g1 := hf 1 _ rfl
  simp [mcInt, mcStr] at g0 g1
  obtain ⟨s0, q0, b0⟩ := each_str _ _ _ g0 (hwe 0 9 y0.1 rfl rfl)
  obtain ⟨s1, q1, b1⟩ := each_int _ _ _ g1 (hwe 1 3 y1.1 rfl rfl)
  simp at q0 q1
  subst q0 q1
  exact ⟨⟨s0, s1⟩, rfl, b0, b1⟩
theorem byInt : Tryd.prog.bytesOf 3 = 8 := by kernel_rfl
theorem byU8 : Tryd.prog.bytesOf 5 = 1 := by kernel_rfl
theorem byStr : Tryd.prog.bytesOf 9 = 16 := by kernel_rfl
theorem byField : Tryd.prog.bytesOf 54 = 24 := by kernel_rfl
theorem byType : Tryd.prog.bytesOf 57 = 64 := by kernel_rfl
theorem byRoutine : Tryd.prog.bytesOf 59 = 104 := by kernel_rfl
set_option maxRecDepth 100000 in
theorem each_type {H : Type} {enc : TypeId × Value → H} {W : World} (cs : List Value) (fuel : Nat) (y : DataW H × List MemPlace) (h : DataW.trod enc Tryd.prog W 0 (fun _ => true) true fuel 57 cs = some y) (hw : ∀ k ∈ y.1.weights Tryd.prog 57, k ≤ reachBytes) : ∃ x : TyP, cs = [.int .u8 (x.t.kind : Int), .string x.t.name, .slice x.fa x.t.fields.length x.fc, .int .i64 x.t.elem, .int .i64 x.t.len] ∧ TyIn W x := by
  obtain ⟨xs, k, hk, rfl, hcl, hxl, hf⟩ := DataW.trod_struct Tryd.underlying57 h
  rw [mcType] at hcl
  have hwe : ∀ (j : Nat) (t : TypeId) (d : DataW H), ([5, 9, 55, 3, 3] : List TypeId)[j]? = some t → (xs.map (·.1))[j]? = some d → ∀ n ∈ d.weights Tryd.prog t, n ≤ reachBytes := by
    intro j t d ht hd n hn
    refine hw n ?_
    simp only [DataW.weights, Tryd.underlying57]
    exact DataW.weights_mem_each (j := j) (t := t) (d := d) ht hd n hn
  obtain ⟨y0, y1, y2, y3, y4, rfl⟩ := mlist5 xs hxl
  obtain ⟨u0, u1, u2, u3, u4, rfl⟩ := mlist5 cs hcl
  have g0 := hf 0 _ rfl
  have g1 := hf 1 _ rfl
  have g2 := hf 2 _ rfl
  have g3 := hf 3 _ rfl
  have g4 := hf 4 _ rfl
  simp [mcU8, mcInt, mcStr, mcFields] at g0 g1 g2 g3 g4
  obtain ⟨s0, q0, b0⟩ := each_byte _ _ _ g0 (hwe 0 5 y0.1 rfl rfl)
  obtain ⟨s1, q1, b1⟩ := each_str _ _ _ g1 (hwe 1 9 y1.1 rfl rfl)
  obtain ⟨ao, fs, cap, r2⟩ := trod_row Tryd.underlying55 2 24 mcField byField (by omega) (by omega) zFl (fun x => [.string x.name, .int .i64 x.typ]) (fun _ => rfl) (fun x => x.name.size ≤ big ∧ N64 x.typ) each_field g2 (hwe 2 55 y2.1 rfl rfl)
  obtain ⟨s3, q3, b3⟩ := each_int _ _ _ g3 (hwe 3 3 y3.1 rfl rfl)
  obtain ⟨s4, q4, b4⟩ := each_int _ _ _ g4 (hwe 4 3 y4.1 rfl rfl)
  have q2 := r2.eq
  simp at q0 q1 q3 q4
  subst q0 q1 q2 q3 q4
  refine ⟨⟨⟨s0, s1, fs, s3, s4⟩, ao, cap⟩, rfl, ⟨r2.at (fun i hi d hd => ?_), b0, b1, b3, b4, r2.each, r2.no, r2.le, r2.mx, r2.cm⟩⟩
  have : d = 0 ∨ d = 1 := by omega
  rcases this with rfl | rfl <;> rfl
set_option maxRecDepth 100000 in
theorem each_routine {H : Type} {enc : TypeId × Value → H} {W : World} (cs : List Value) (fuel : Nat) (y : DataW H × List MemPlace) (h : DataW.trod enc Tryd.prog W 0 (fun _ => true) true fuel 59 cs = some y) (hw : ∀ k ∈ y.1.weights Tryd.prog 59, k ≤ reachBytes) : ∃ x : RoP, cs = [.string x.r.name, .slice x.pa x.r.params.length x.pc, .slice x.ra x.r.results.length x.rc, .int .i64 x.r.locals, .int .i64 x.r.stack, .slice x.ca x.r.code.length x.cc] ∧ RoIn W x := by
  obtain ⟨xs, k, hk, rfl, hcl, hxl, hf⟩ := DataW.trod_struct Tryd.underlying59 h
  rw [mcRoutine] at hcl
  have hwe : ∀ (j : Nat) (t : TypeId) (d : DataW H), ([9, 34, 34, 3, 3, 46] : List TypeId)[j]? = some t → (xs.map (·.1))[j]? = some d → ∀ n ∈ d.weights Tryd.prog t, n ≤ reachBytes := by
    intro j t d ht hd n hn
    refine hw n ?_
    simp only [DataW.weights, Tryd.underlying59]
    exact DataW.weights_mem_each (j := j) (t := t) (d := d) ht hd n hn
  obtain ⟨y0, y1, y2, y3, y4, y5, rfl⟩ := mlist6 xs hxl
  obtain ⟨u0, u1, u2, u3, u4, u5, rfl⟩ := mlist6 cs hcl
  have g0 := hf 0 _ rfl
  have g1 := hf 1 _ rfl
  have g2 := hf 2 _ rfl
  have g3 := hf 3 _ rfl
  have g4 := hf 4 _ rfl
  have g5 := hf 5 _ rfl
  simp [mcInt, mcStr, mcInts, mcBytes] at g0 g1 g2 g3 g4 g5
  obtain ⟨s0, q0, b0⟩ := each_str _ _ _ g0 (hwe 0 9 y0.1 rfl rfl)
  obtain ⟨pa, ps, pc, r1⟩ := trod_row Tryd.underlying34 1 8 mcInt byInt (by omega) (by omega) 0 (fun x => [.int .i64 x]) (fun _ => rfl) N64 each_int g1 (hwe 1 34 y1.1 rfl rfl)
  obtain ⟨ra, rs, rc, r2⟩ := trod_row Tryd.underlying34 1 8 mcInt byInt (by omega) (by omega) 0 (fun x => [.int .i64 x]) (fun _ => rfl) N64 each_int g2 (hwe 2 34 y2.1 rfl rfl)
  obtain ⟨s3, q3, b3⟩ := each_int _ _ _ g3 (hwe 3 3 y3.1 rfl rfl)
  obtain ⟨s4, q4, b4⟩ := each_int _ _ _ g4 (hwe 4 3 y4.1 rfl rfl)
  obtain ⟨ca, bs, cc, r5⟩ := trod_row Tryd.underlying46 1 1 mcU8 byU8 (by omega) (by omega) 0 (fun (x : Nat) => [.int .u8 (x : Int)]) (fun _ => rfl) (fun x => x < 256) each_byte g5 (hwe 5 46 y5.1 rfl rfl)
  have q1 := r1.eq
  have q2 := r2.eq
  have q5 := r5.eq
  simp at q0 q3 q4
  subst q0 q1 q2 q3 q4 q5
  refine ⟨⟨⟨s0, ps, rs, s3, s4, bs⟩, pa, pc, ra, rc, ca, cc⟩, rfl, ⟨r1.at (fun i hi d hd => ?_), r2.at (fun i hi d hd => ?_), ⟨r5.each, Nat.le_trans r5.mx (by decide), ?_⟩, b0, b3, b4, r1.each, r2.each, r1.no, r1.le, r1.mx, r1.cm, r2.no, r2.le, r2.mx, r2.cm, r5.no, r5.le, r5.mx, r5.cm⟩⟩
  · obtain rfl : d = 0 := by omega
    rfl
  · obtain rfl : d = 0 := by omega
    rfl
  · rcases r5.row with h0 | ⟨b, off, e, hc⟩
    · exact .inl (List.eq_nil_of_length_eq_zero h0)
    · refine .inr ⟨b, off, e, fun i hi => ?_⟩
      have := hc i hi 0 (by omega)
      rw [Nat.mul_one] at this
      exact this
set_option maxRecDepth 100000 in
theorem each_module {H : Type} {enc : TypeId × Value → H} {W : World} (cs : List Value) (fuel : Nat) (y : DataW H × List MemPlace) (h : DataW.trod enc Tryd.prog W 0 (fun _ => true) true fuel 29 cs = some y) (hw : ∀ k ∈ y.1.weights Tryd.prog 29, k ≤ reachBytes) : ∃ A : MoP, cs = [.slice A.ta A.tys.length A.tc, .slice A.sa A.txs.length A.sc, .slice A.fa A.fns.length A.fc] ∧ MoIn W A := by
  obtain ⟨xs, k, hk, rfl, hcl, hxl, hf⟩ := DataW.trod_struct Tryd.underlying29 h
  rw [mcModule] at hcl
  have hwe : ∀ (j : Nat) (t : TypeId) (d : DataW H), ([25, 26, 27] : List TypeId)[j]? = some t → (xs.map (·.1))[j]? = some d → ∀ n ∈ d.weights Tryd.prog t, n ≤ reachBytes := by
    intro j t d ht hd n hn
    refine hw n ?_
    simp only [DataW.weights, Tryd.underlying29]
    exact DataW.weights_mem_each (j := j) (t := t) (d := d) ht hd n hn
  obtain ⟨y0, y1, y2, rfl⟩ := mlist3 xs hxl
  obtain ⟨u0, u1, u2, rfl⟩ := mlist3 cs hcl
  have g0 := hf 0 _ rfl
  have g1 := hf 1 _ rfl
  have g2 := hf 2 _ rfl
  simp [mcTypes, mcStrs, mcRoutines] at g0 g1 g2
  obtain ⟨ta, ts, tc, r0⟩ := trod_row Tryd.underlying25 5 64 mcType byType (by omega) (by omega) zTP (fun x => [.int .u8 (x.t.kind : Int), .string x.t.name, .slice x.fa x.t.fields.length x.fc, .int .i64 x.t.elem, .int .i64 x.t.len]) (fun _ => rfl) (TyIn W) each_type g0 (hwe 0 25 y0.1 rfl rfl)
  obtain ⟨sa, ss, sc, r1⟩ := trod_row Tryd.underlying26 1 16 mcStr byStr (by omega) (by omega) (⟨#[]⟩ : ByteArray) (fun x => [.string x]) (fun _ => rfl) (fun x => x.size ≤ big) each_str g1 (hwe 1 26 y1.1 rfl rfl)
  obtain ⟨fa, fs, fc, r2⟩ := trod_row Tryd.underlying27 6 104 mcRoutine byRoutine (by omega) (by omega) zRP (fun x => [.string x.r.name, .slice x.pa x.r.params.length x.pc, .slice x.ra x.r.results.length x.rc, .int .i64 x.r.locals, .int .i64 x.r.stack, .slice x.ca x.r.code.length x.cc]) (fun _ => rfl) (RoIn W) each_routine g2 (hwe 2 27 y2.1 rfl rfl)
  have q0 := r0.eq
  have q1 := r1.eq
  have q2 := r2.eq
  subst q0 q1 q2
  refine ⟨⟨ts, ta, tc, ss, sa, sc, fs, fa, fc⟩, rfl, ⟨r0.at (fun i hi d hd => ?_), r1.at (fun i hi d hd => ?_), r2.at (fun i hi d hd => ?_), r0.each, r1.each, r2.each, r0.no, r0.le, r0.mx, r0.cm, r1.no, r1.le, r1.mx, r1.cm, r2.no, r2.le, r2.mx, r2.cm⟩⟩
  · have : d = 0 ∨ d = 1 ∨ d = 2 ∨ d = 3 ∨ d = 4 := by omega
    rcases this with rfl | rfl | rfl | rfl | rfl <;> rfl
  · obtain rfl : d = 0 := by omega
    rfl
  · have : d = 0 ∨ d = 1 ∨ d = 2 ∨ d = 3 ∨ d = 4 ∨ d = 5 := by omega
    rcases this with rfl | rfl | rfl | rfl | rfl | rfl <;> rfl
set_option maxRecDepth 100000 in
theorem open_module {H : Type} {enc : TypeId × Value → H} {W : World} {base : Nat} {v : Value} {d : DataW H} {ps : List MemPlace} {r : Reach} (hv : Value.okWide Tryd.prog W r base 29 v) (h : DataW.Trod enc Tryd.prog W 0 (fun _ => true) true 29 v d ps) (hw : ∀ k ∈ d.weights Tryd.prog 29, k ≤ reachBytes) : ∃ A : MoP, v = .agg A.cs ∧ MoIn W A := by
  obtain ⟨cs, rfl, -⟩ := okWide_struct Tryd.underlying29 hv
  obtain ⟨fuel, h⟩ := h
  obtain ⟨A, e, hA⟩ := each_module _ _ _ h hw
  refine ⟨A, ?_, hA⟩
  have e2 : cs.toList = [.slice A.ta A.tys.length A.tc, .slice A.sa A.txs.length A.sc, .slice A.fa A.fns.length A.fc] := by simpa [Value.cells] using e
  unfold MoP.cs
  rw [← Array.toArray_toList (xs := cs), e2]
end Go.Proofs.YtjfdlphkmpkjdaaDoor
