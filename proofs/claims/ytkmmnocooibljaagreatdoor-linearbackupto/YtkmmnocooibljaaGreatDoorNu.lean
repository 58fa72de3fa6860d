/-
  THE LANDED LAYOUT OF LINES: do all targets stand among the labels.
-/
import Derived.Test.YtkmmnocooibljaaGreatDoorNs
namespace Go.Proofs.YtkmmnocooibljaaGreatDoor
open Go.RowKit Go.Maps
set_option linter.unusedVariables false

def leadsB (ps : List (Int × Int)) (x : In) : Bool := (tgs x).all fun t => (plF ps t).isSome
theorem tgs_n64 {x : In} {w : World} {ao : Option Addr} (h : InLies w x ao) : ∀ t ∈ tgs x, N64 t := by
  unfold tgs
  split
  · intro t ht
    rw [List.mem_singleton.1 ht]; exact h.a
  · split
    · intro t ht
      rcases List.mem_append.1 ht with ht | ht
      · obtain ⟨y, hy, rfl⟩ := List.mem_map.1 ht
        exact (h.arms.nums y hy).2
      · rw [List.mem_singleton.1 ht]; exact h.b
    · intro t ht; cases ht
theorem all_stop {l : List Int} {p : Int → Bool} {k : Nat} (hk : k < l.length) (h : p (l.getD k 0) = false) : l.all p = false := by
  rw [List.all_eq_false]
  exact ⟨l.getD k 0, getD_in hk, by rw [h]; decide⟩
theorem all_end {l : List Int} {p : Int → Bool} (h : ∀ j, j < l.length → p (l.getD j 0) = true) : l.all p = true := by
  rw [List.all_eq_true]
  intro x hx
  obtain ⟨i, hi, rfl⟩ := List.mem_iff_getElem.1 hx
  have := h i hi
  simpa [List.getD, hi] using this
set_option maxHeartbeats 4000000 in
set_option maxRecDepth 100000 in
theorem lnleads_as {w : World} {b : Nat} {ps : List (Int × Int)} (h : PlAt w b ps) (sz : Int) {x : In} {ao : Option Addr} {cp : Nat} (hl : InLies w x ao) (n : Nat) (hn : n = x.arms.length) (hmx : n ≤ 1000000) :
    Calls Tryz.prog 66 #[.agg #[.map (some b), .int .i64 sz], insV x (.slice ao n cp)] w fun e w' => e = .returned (.bool (leadsB ps x)) ∧ Below w.heap.size w w' := by
  have HTG : Hid (∀ W, Below w.heap.size w W → Calls Tryz.prog 28 #[insV x (.slice ao n cp)] W (TgR W (tgs x))) := fun W q => lnTargets_as (hl.below q) n hn hmx
  have H64 : Hid (∀ t ∈ tgs x, N64 t) := tgs_n64 hl
  have HPL : Hid (∀ W, Below w.heap.size w W → PlAt W b ps) := fun W q => h.below q
  have hTL : (tgs x).length ≤ 1000001 := by
    have : (tgs x).length ≤ x.arms.length + 1 := by
      unfold tgs
      split
      · simp
      · split
        · simp
        · simp
    omega
  obtain ⟨T, hT⟩ : ∃ T, tgs x = T := ⟨_, rfl⟩
  have HR : Hid (leadsB ps x = T.all fun t => (plF ps t).isSome) := by unfold Hid leadsB; rw [hT]
  rw [HR.out]
  rw [hT] at HTG H64 hTL
  unfold insV at *
  have oA := (Own.new w #[.map (some b), .int .i64 sz] 65).alloc (.cells #[.int .u8 (x.op : Int), .int .i64 x.a, .int .i64 x.b, .slice ao n cp] 43)
  have oX := Own.new (w.alloc (.cells #[.map (some b), .int .i64 sz] 65)) #[.int .u8 (x.op : Int), .int .i64 x.a, .int .i64 x.b, .slice ao n cp] 43
  rw [World.size_alloc] at oX
  have hb1 : Below w.heap.size w ((w.alloc (.cells #[.map (some b), .int .i64 sz] 65)).alloc (.cells #[.int .u8 (x.op : Int), .int .i64 x.a, .int .i64 x.b, .slice ao n cp] 43)) := (new_below _ _).alloc (by simp) _
  clear h hl hn hmx hT HR
  generalize (x.op : Int) = N at *
  generalize x.a = XA at *
  generalize x.b = XB at *
  obtain ⟨B, HB⟩ : ∃ B, Hid ((T.all fun t => (plF ps t).isSome) = B) := ⟨_, rfl⟩
  rw [HB.out]
  go_enter Tryz.func66, Tryz.ntmps66
  go_upto_region 1 with fail
  generalize (w.alloc (.cells #[.map (some b), .int .i64 sz] 65)).alloc (.cells #[.int .u8 N, .int .i64 XA, .int .i64 XB, .slice ao n cp] 43) = w1 at *
  obtain ⟨x0, x1, x2, x3, xf⟩ := own4 oX
  go_wp2_with fail
  refine Calls.mono (HTG.out w1 hb1) ?_
  rintro e w2 ⟨v, rfl, hv, b2⟩
  obtain ⟨a1, c1, rfl⟩ := hv.shape
  replace oA := oA.below b2
  replace hb1 := hb1.trans (b2.mono hb1.size)
  have hpl := HPL.out w2 hb1
  have HROW : Hid (Rw w2 2 1 (.slice a1 T.length c1) T.length (iV T)) := hv.row
  clear x0 x1 x2 x3 xf hv b2 HTG oX HPL
  obtain ⟨L, hL⟩ : ∃ L, T.length = L := ⟨_, rfl⟩
  have HLL : Hid (T.length = L ∧ L ≤ 1000001) := ⟨hL, by omega⟩
  rw [hL] at HROW ⊢
  clear hL hTL
  have m0 := oA.cell 0
  have mf := oA.froz
  simp only [List.getElem?_toArray, List.getElem?_cons_zero] at m0
  go_wp2_with fail
  go_loopw [12] (fun i wr => ∃ k : Nat, k ≤ L ∧ i = .int .i64 (k : Int) ∧ wr = w2 ∧ ∀ j, j < k → (plF ps (T.getD j 0)).isSome = true) (fun i _ => L - (intOf i).toNat)
  case atStart => exact ⟨0, Nat.zero_le _, rfl, rfl, fun j hj => by omega⟩
  case round =>
    obtain ⟨k, hk, rfl, rfl, hpre⟩ := hrel
    have HPR : Hid (∀ j, j < k → (plF ps (T.getD j 0)).isSome = true) := hpre
    clear hpre
    by_cases hlt : k < L
    · have hkT : k < T.length := by rw [HLL.out.1]; exact hlt
      obtain ⟨g1, cap1, cur, e, -⟩ := HROW.out.block (by omega)
      cases e
      have d0 : wr.cell? ⟨g1, k, none⟩ = some (.int .i64 (T.getD k 0)) := Rw.cells HROW.out k _ (by simp [iV, List.getD, hkT])
      have hlk := pl_look hpl (H64.out _ (getD_in (z := 0) hkT))
      have hlt2 : (k : Int) < (L : Int) := by omega
      have hk0 : (0 : Int) ≤ (k : Int) := by omega
      have HNX : Hid ((plF ps (T.getD k 0)).isSome = true → ∀ j, j < k + 1 → (plF ps (T.getD j 0)).isSome = true) := fun q j hj => by
        by_cases e : j = k
        · subst e; exact q
        · exact HPR.out j (by omega)
      have HST : Hid ((plF ps (T.getD k 0)).isSome = false → B = false) := fun q => by rw [← HB.out]; exact all_stop hkT q
      have hLs : L ≤ 1000001 := HLL.out.2
      clear HPR hkT HROW
      generalize T.getD k 0 = TV at *
      cases hf : plF ps TV with
      | some q =>
        rw [hf] at hlk HNX
        unfold lkV at hlk
        have HN2 := HNX.out rfl
        have HN3 : Hid (∀ j, j < k + 1 → (plF ps (T.getD j 0)).isSome = true) := HN2
        clear HN2 HNX HST hf
        go_wp2
        first
          | (go_roundw
             case rel => exact ⟨k + 1, hlt, by go_num, trivial, HN3.out⟩
             case measure => simp [intOf]; omega)
      | none =>
        rw [hf] at hlk HST
        unfold lkV at hlk
        obtain rfl : B = false := HST.out rfl
        clear HNX HST hf
        go_wp2
        go_ret
        exact ⟨rfl, hb1⟩
    · obtain rfl : k = L := by omega
      obtain rfl : true = B := by rw [← HB.out]; exact (all_end (fun j hj => HPR.out j (by rw [← HLL.out.1]; exact hj))).symm
      clear HPR
      go_wp2
      go_ret
      exact ⟨rfl, hb1⟩
end Go.Proofs.YtkmmnocooibljaaGreatDoor
