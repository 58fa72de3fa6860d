/-
  CONTRACTS of the document's own heap: New, at, has, Get, Set, Len, Type, Bytes.
-/
import Derived.Test.YtcohgbelcbniaaaRf
namespace Go.Proofs.Ytcohgbelcbniaaa
open Go.RowKit
set_option linter.unusedVariables false

theorem bodyPost_cell1 {P : Program} {fn : Func} {R : Ending → World → Prop} {a : Act} {w : World} {p : Tmp} {ty : TypeId} {g : Nat} {t : TypeId} {cs : Array Value} {fr : Nat × Nat} {d : TypeDesc} (h : fn.results = #[.cell p ty])
    (hp : a.tmps.getD p undef = .pointer (some ⟨g, 0, none⟩)) (hd : a.defers = []) (hg : w.heap[g]? = some (.cells cs t fr))
    (hu : P.underlying ty = some d) (hd2 : (match d with | .struct _ | .array _ _ => true | _ => false) = true) (hi : (P.info? ty).map (·.size) = some cs.size)
    (hR : R (.returned (.agg cs)) w) : bodyPost P fn R .ret a w := by
  refine bodyPost_ret ?_ hd hR
  have hp' : a.tmps[p]?.getD undef = .pointer (some ⟨g, 0, none⟩) := by simpa using hp
  simp [results, h, hp', asAddr, run_loadVar_row w g t ty cs fr d hg hu hd2 hi]
theorem newR (w : World) (l : Int) (h1 : -9223372036854775808 ≤ l) (h2 : l < 9223372036854775808) : Calls Try.prog 11 #[.int .i64 l] w fun e w' => e = .returned (ptr w.heap.size) ∧ ∃ F, RAt w' w.heap.size (M.new l) F ∧ (∀ b, F b → w.heap.size ≤ b) ∧ Below w.heap.size w w' := by
  have HR : Hid (∀ w', w' = w.alloc (.cells #[.slice none 0 0, .int .i64 0, .int .i64 ((M.new l).limit : Int)] 36) → ∃ F, RAt w' w.heap.size (M.new l) F ∧ (∀ b, F b → w.heap.size ≤ b) ∧ Below w.heap.size w w') := by
    rintro w' rfl
    refine ⟨fun b => b = w.heap.size, ⟨.slice none 0 0, fun _ => .slice none 0 0, ⟨Own.new w _ 36, World.ownsRow_nil _ 0 88 4, fun i t h => by simp [M.new] at h, fun i j g h => by simp [M.new] at h⟩, ?_, fun b hb => by rw [hb]; simp⟩, fun b hb => by rw [hb]; exact Nat.le_refl _, (Below.refl _ w).alloc (Nat.le_refl _) _⟩
    rintro b (rfl | hb | ⟨i, hi, -⟩)
    · rfl
    · simp [Value.ownBlock] at hb
    · simp [M.new] at hi
  have e : (((M.new l).limit : Nat) : Int) = min (max l 0) 1048576 := by simp only [M.new]; omega
  rw [e] at HR
  clear e
  go_enter Try.func11, Try.ntmps11
  go_wp2
  go_ret
  exact ⟨rfl, HR.out _ rfl⟩
set_option maxRecDepth 100000 in
set_option maxHeartbeats 1000000 in
theorem atR {w : World} {q : Nat} {m : M} {vt : Value} {vs : Nat → Value} (H : ROwn w q m vt vs) (hi : Inv m) (hn : m.ths.length ≤ 1000000) (ref : Int) (h0 : 0 ≤ ref) (h1 : ref < 18446744073709551616) :
    ∃ ao cap, ((m.at ref).kind ≠ 0 → vs (m.idx ref) = .slice ao (m.at ref).words.length cap) ∧ (m.at ref).words.length ≤ cap ∧ cap ≤ maxLen ∧ Calls Try.prog 54 #[ptr q, .int .u64 ref] w fun e w' => e = .returned (.agg #[.int .i64 ((m.at ref).kind : Int), .int .i64 (m.at ref).typ, .string (m.at ref).text, .slice ao (m.at ref).words.length cap]) ∧ Below w.heap.size w w' := by
  have ho := H.own
  have hql := ho.lt
  by_cases hin : 1 ≤ ref ∧ ref ≤ m.ths.length
  · obtain ⟨k, hk, hr, ht⟩ := at_some hin.1 hin.2
    have hidx : m.idx ref = k := by unfold M.idx; omega
    rw [hidx]
    have hrow := H.row
    obtain ⟨g, cap, cur, rfl, hg, k1, k2, k3, k4⟩ := hrow.block (by omega)
    obtain ⟨ao, wcap, ev, v1, v2⟩ := (H.rows k _ ht).shape
    refine ⟨ao, wcap, fun _ => ev, v1, v2, ?_⟩
    have d0 := hrow.cells (k * 4 + 0) _ (by rw [rcells_get vs m.ths k 0 _ ht (by omega)]; rfl)
    have d1 := hrow.cells (k * 4 + 1) _ (by rw [rcells_get vs m.ths k 1 _ ht (by omega)]; rfl)
    have d2 := hrow.cells (k * 4 + 2) _ (by rw [rcells_get vs m.ths k 2 _ ht (by omega)]; rfl)
    have d3 := hrow.cells (k * 4 + 3) _ (by rw [rcells_get vs m.ths k 3 _ ht (by omega)]; rfl)
    rw [Nat.add_zero] at d0
    rw [ev] at d3
    have hB : ∀ o, Below w.heap.size w (w.alloc o) := fun o => (Below.refl _ w).alloc (Nat.le_refl _) o
    obtain ⟨c0, -, -, hf⟩ := own3 (ho.below (hB (.cells #[.int .i64 0, .int .i64 0, .string ⟨#[]⟩, .slice none 0 0] 88)))
    have hg2 := hg.lt
    have dd : ∀ (o : Obj) j, (w.alloc o).cell? ⟨g, j, none⟩ = w.cell? ⟨g, j, none⟩ := fun o j => (hB o).cell (p := ⟨g, j, none⟩) hg2
    have x0 := (dd (.cells #[.int .i64 0, .int .i64 0, .string ⟨#[]⟩, .slice none 0 0] 88) _).trans d0
    have x1 := (dd (.cells #[.int .i64 0, .int .i64 0, .string ⟨#[]⟩, .slice none 0 0] 88) _).trans d1
    have x2 := (dd (.cells #[.int .i64 0, .int .i64 0, .string ⟨#[]⟩, .slice none 0 0] 88) _).trans d2
    have x3 := (dd (.cells #[.int .i64 0, .int .i64 0, .string ⟨#[]⟩, .slice none 0 0] 88) _).trans d3
    obtain ⟨n, hnn⟩ : ∃ n, Hid (m.ths.length = n) := ⟨_, rfl⟩
    rw [hnn.out] at c0 hn hk
    subst hr
    have q1 : ¬ ((k : Int) + 1 < 1) := by omega
    have q2 : ¬ ((n : Int) < (k : Int) + 1) := by omega
    generalize (m.at ((k : Int) + 1)).kind = kd at *
    generalize (m.at ((k : Int) + 1)).typ = ty at *
    generalize (m.at ((k : Int) + 1)).text = tx at *
    generalize (m.at ((k : Int) + 1)).words.length = wl at *
    clear H ho hrow hg k4 hin ht hidx hnn dd d0 d1 d2 d3 ev
    go_enter Try.func54, Try.ntmps54
    go_wp2
    refine bodyPost_cell1 rfl rfl rfl (Own.new w #[.int .i64 (kd : Int), .int .i64 ty, .string tx, .slice ao wl wcap] 88) Try.underlying88 rfl (by kernel_rfl) ?_
    exact ⟨rfl, hB _⟩
  · rw [at_none (by omega)]
    refine ⟨none, 0, fun h => absurd rfl h, Nat.le_refl _, by unfold maxLen; omega, ?_⟩
    obtain ⟨ao, cap, rfl, -⟩ := H.row.shape
    have hB : ∀ o, Below w.heap.size w (w.alloc o) := fun o => (Below.refl _ w).alloc (Nat.le_refl _) o
    obtain ⟨c0, -, -, hf⟩ := own3 (ho.below (hB (.cells #[.int .i64 0, .int .i64 0, .string ⟨#[]⟩, .slice none 0 0] 88)))
    obtain ⟨n, hnn⟩ : ∃ n, Hid (m.ths.length = n) := ⟨_, rfl⟩
    rw [hnn.out] at c0 hn hin
    clear H ho hnn
    have HE : Hid (∀ w', w' = w.alloc (.cells #[.int .i64 0, .int .i64 0, .string ⟨#[]⟩, .slice none 0 0] 88) → Own w' w.heap.size #[.int .i64 0, .int .i64 0, .string ⟨#[]⟩, .slice none 0 0] 88) := by rintro w' rfl; exact Own.new w _ 88
    by_cases hz : ref < 1
    · clear hin
      go_enter Try.func54, Try.ntmps54
      go_wp2
      refine bodyPost_cell1 rfl rfl rfl (HE.out _ rfl) Try.underlying88 rfl (by kernel_rfl) ?_
      exact ⟨rfl, hB _⟩
    · have hgt : (n : Int) < ref := by omega
      clear hin
      go_enter Try.func54, Try.ntmps54
      go_wp2
      refine bodyPost_cell1 rfl rfl rfl (HE.out _ rfl) Try.underlying88 rfl (by kernel_rfl) ?_
      exact ⟨rfl, hB _⟩
end Go.Proofs.Ytcohgbelcbniaaa
