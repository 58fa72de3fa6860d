/-
  THE LANDED HEAP BESIDE THE DOCUMENT'S: alike, whole.
-/
import Derived.Test.YtcohgbelcbniaaaRfG
import Derived.Test.YtcohgbelcbniaaaRunM
namespace Go.Proofs.Ytcohgbelcbniaaa
open Go.RowKit
set_option linter.unusedVariables false

def Pq (w : World) (p q : Nat) (m : M) (A : Nat → Prop) : Prop := ∃ F G, HAt w p m F ∧ RAt w q m G ∧ (∀ b, F b → G b → False) ∧ ∀ b, A b ↔ F b ∨ G b
def PqRet (w : World) (p q : Nat) (m' : M) (A : Nat → Prop) (w' : World) : Prop := ∃ A', Pq w' p q m' A' ∧ (∀ b, A' b → A b ∨ w.heap.size ≤ b) ∧ Fr A w w'
theorem Pq.bd {w : World} {p q : Nat} {m : M} {A : Nat → Prop} (h : Pq w p q m A) : ∀ b, A b → b < w.heap.size := by
  obtain ⟨F, G, h1, h2, _, h4⟩ := h
  intro b hb
  rcases (h4 b).1 hb with z | z
  · exact h1.bd b z
  · exact h2.bd b z
theorem Pq.inv {w : World} {p q : Nat} {m : M} {A : Nat → Prop} (h : Pq w p q m A) : Inv m := by obtain ⟨F, G, h1, _⟩ := h; exact h1.inv
theorem Pq.fr {w w' : World} {p q : Nat} {m : M} {A K : Nat → Prop} (h : Pq w p q m A) (hf : Fr K w w') (hd : ∀ b, A b → K b → False) : Pq w' p q m A := by
  obtain ⟨F, G, h1, h2, h3, h4⟩ := h
  exact ⟨F, G, h1.fr hf fun b x y => hd b ((h4 b).2 (.inl x)) y, h2.fr hf fun b x y => hd b ((h4 b).2 (.inr x)) y, h3, h4⟩
theorem Pq.below {w w' : World} {p q : Nat} {m : M} {A : Nat → Prop} (h : Pq w p q m A) (hf : Below w.heap.size w w') : Pq w' p q m A := h.fr (K := fun _ => False) (Fr.of hf) fun _ _ z => z
theorem pq_mid {W w1 : World} {p q : Nat} {m m' : M} {F G : Nat → Prop} (hR : RAt W q m G) (hd : ∀ b, F b → G b → False) (r1 : HRet W p m' F w1) : RAt w1 q m G := by
  obtain ⟨F', _, _, h3⟩ := r1
  exact hR.fr h3 fun b g f => hd b f g
theorem pq_end {W w1 w2 : World} {p q : Nat} {m m' : M} {A F G : Nat → Prop} (hR : RAt W q m G) (hd : ∀ b, F b → G b → False) (hA : ∀ b, A b ↔ F b ∨ G b) (r1 : HRet W p m' F w1) (r2 : RRet w1 q m' G w2) : PqRet W p q m' A w2 := by
  obtain ⟨F', a1, a2, a3⟩ := r1
  obtain ⟨G', c1, c2, c3⟩ := r2
  have hdis : ∀ b, F' b → G b → False := fun b f g => by
    rcases a2 b f with x | x
    · exact hd b x g
    · have := hR.bd b g; omega
  refine ⟨fun b => F' b ∨ G' b, ⟨F', G', a1.fr c3 hdis, c1, fun b f g => ?_, fun b => Iff.rfl⟩, fun b hb => ?_, ?_⟩
  · rcases c2 b g with x | x
    · exact hdis b f x
    · have := a1.bd b f; omega
  · rcases hb with f | g
    · rcases a2 b f with x | x
      · exact .inl ((hA b).2 (.inl x))
      · exact .inr x
    · rcases c2 b g with x | x
      · exact .inl ((hA b).2 (.inr x))
      · exact .inr (Nat.le_trans a3.size x)
  · exact (a3.mono fun k _ f => (hA k).2 (.inl f)).then c3 fun i _ g => (hA i).2 (.inr g)
theorem PqRet.base {w W w2 : World} {p q : Nat} {m' : M} {A : Nat → Prop} (hb : Below w.heap.size w W) (h : PqRet W p q m' A w2) : PqRet w p q m' A w2 := by
  obtain ⟨A', h1, h2, h3⟩ := h
  refine ⟨A', h1, fun b x => ?_, (Fr.of hb).trans h3⟩
  rcases h2 b x with y | y
  · exact .inl y
  · exact .inr (Nat.le_trans hb.size y)
/-- Only texts have bytes. -/
def NT (m : M) : Prop := ∀ t ∈ m.ths, t.kind ≠ 1 → t.text = empt
theorem NT.at {m : M} (h : NT m) (ref : Int) : (m.at ref).str = (m.at ref).text := by
  unfold Th.str
  split
  · rfl
  · rename_i hk
    by_cases q : ref < 1 ∨ (m.ths.length : Int) < ref
    · rw [at_none q]; rfl
    · obtain ⟨k, _, _, e⟩ := at_some (m := m) (ref := ref) (by omega) (by omega)
      exact (h _ (List.mem_of_getElem? e) hk).symm
theorem NT.made {m : M} (h : NT m) (t : Th) (c : Nat) (ht : t.kind ≠ 1 → t.text = empt) : NT (m.made t c) := by
  by_cases hp : m.used + c ≤ m.limit
  · rw [(made_paid t hp).1]
    intro u hu hk
    have hu2 : u ∈ (m.paid c).ths ++ [t] := hu
    rw [(paid_ths m c).1] at hu2
    rcases List.mem_append.1 hu2 with z | z
    · exact h u z hk
    · rw [List.mem_singleton.1 z] at hk ⊢; exact ht hk
  · rw [(made_not t hp).1]; exact h
theorem NT.keep {m : M} (h : NT m) (t : Th) (ht : t.kind ≠ 1 → t.text = empt) : NT (m.keep t) := by
  intro u hu hk
  rcases List.mem_append.1 hu with z | z
  · exact h u z hk
  · rw [List.mem_singleton.1 z] at hk ⊢; exact ht hk
theorem NT.upd {m : M} (h : NT m) (ref : Int) (ws : List Int) : NT (m.upd ref ((m.at ref).with ws)) := by
  intro u hu hk
  by_cases q : ref < 1 ∨ (m.ths.length : Int) < ref
  · rcases mem_upd hu with z | z
    · exact h u z hk
    · rw [z, at_none q]; rfl
  · obtain ⟨k, _, _, e⟩ := at_some (m := m) (ref := ref) (by omega) (by omega)
    rcases mem_upd hu with z | z
    · exact h u z hk
    · rw [z] at hk ⊢
      exact (h (m.at ref) (List.mem_of_getElem? e) hk : _)
theorem NT.paid {m : M} (h : NT m) (c : Nat) : NT (m.paid c) := by unfold NT; rw [(paid_ths m c).1]; exact h
theorem NT.ran {m : M} (h : NT m) (s : Op) : NT (m.ran s) := by
  unfold M.ran M.texted M.filled M.put M.pushed M.dropped
  split
  · exact h.keep _ (fun q => absurd rfl q)
  split
  · split
    · exact h
    · exact h.made _ _ (fun q => absurd rfl q)
  split
  · exact h.made _ _ (fun _ => rfl)
  split
  · split
    · exact h
    · exact h.made _ _ (fun _ => rfl)
  split
  · exact h.made _ _ (fun _ => rfl)
  split
  · exact h
  split
  · split
    · exact h.upd _ _
    · exact h
  split
  · split
    · have e : (m.paid 1).at s.ref = m.at s.ref := by unfold M.at; rw [(paid_ths m 1).1]
      have := (h.paid 1).upd s.ref ((m.at s.ref).words ++ [s.word])
      rwa [e] at this
    · exact h
  · split
    · exact h.upd _ _
    · exact h
set_option maxRecDepth 100000 in
set_option maxHeartbeats 2000000 in
theorem alikeP {w : World} {p q : Nat} {m : M} {A : Nat → Prop} (h : Pq w p q m A) (ht : NT m) (hn : m.ths.length ≤ 1000000) (ref : Int) (h0 : 0 ≤ ref) (h1 : ref < 18446744073709551616) :
    Calls Try.prog 14 #[ptr p, ptr q, .int .u64 ref] w fun e w' => e = .returned (.bool true) ∧ Below w.heap.size w w' := by
  have hi := h.inv
  have HC : Hid (∀ W, Below w.heap.size w W → ∃ F G, HAt W p m F ∧ RAt W q m G) := fun W hB => by
    obtain ⟨F, G, a, b, _⟩ := h.below hB
    exact ⟨F, G, a, b⟩
  have hs := ht.at ref
  have hlb : (m.at ref).len ≤ 9223372036854775807 := by
    by_cases hk : (m.at ref).kind = 0
    · rw [th_cases hi ref hk]; exact Nat.zero_le _
    · obtain ⟨F, G, a, b, _⟩ := h
      obtain ⟨vt, bs, vs, H, -, -⟩ := a
      have hm := (H.ref hk).2.2.2.2
      have := hi.words _ hm
      have := hi.text _ hm
      have := hi.used
      have := hi.limit
      unfold maxLen at *
      unfold Th.len
      split <;> omega
  have H39 : Hid (∀ W, Below w.heap.size w W → Calls Try.prog 39 #[ptr p, .int .u64 ref] W fun e w' => e = .returned (.tuple #[.string (m.at ref).text, .bool (decide ((m.at ref).kind = 1))]) ∧ Below w.heap.size w w') := fun W hB => by
    obtain ⟨F, G, a, b⟩ := HC.out W hB
    have := bytesS a hn ref h0 h1
    rw [hs] at this
    refine this.mono ?_
    rintro e w' ⟨rfl, rfl⟩
    exact ⟨rfl, hB⟩
  have H40 : Hid (∀ W, Below w.heap.size w W → Calls Try.prog 40 #[ptr q, .int .u64 ref] W fun e w' => e = .returned (.tuple #[.string (m.at ref).text, .bool (decide ((m.at ref).kind = 1))]) ∧ Below w.heap.size w w') := fun W hB => by
    obtain ⟨F, G, a, b⟩ := HC.out W hB
    refine (bytesR b hi hn ref h0 h1).mono ?_
    rintro e w' ⟨rfl, hq⟩
    exact ⟨rfl, hB.trans (hq.mono hB.size)⟩
  have H25 : Hid (∀ W, Below w.heap.size w W → Calls Try.prog 25 #[ptr p, .int .u64 ref] W fun e w' => e = .returned (.tuple #[.int .i64 ((m.at ref).len : Int), .bool (decide ((m.at ref).kind ≠ 0))]) ∧ Below w.heap.size w w') := fun W hB => by
    obtain ⟨F, G, a, b⟩ := HC.out W hB
    refine (lenS a hn ref h0 h1).mono ?_
    rintro e w' ⟨rfl, rfl⟩
    exact ⟨rfl, hB⟩
  have H41 : Hid (∀ W, Below w.heap.size w W → Calls Try.prog 41 #[ptr q, .int .u64 ref] W fun e w' => e = .returned (.tuple #[.int .i64 ((m.at ref).len : Int), .bool (decide ((m.at ref).kind ≠ 0))]) ∧ Below w.heap.size w w') := fun W hB => by
    obtain ⟨F, G, a, b⟩ := HC.out W hB
    refine (lenR b hi hn ref h0 h1).mono ?_
    rintro e w' ⟨rfl, hq⟩
    exact ⟨rfl, hB.trans (hq.mono hB.size)⟩
  have H19 : Hid (∀ W, Below w.heap.size w W → Calls Try.prog 19 #[ptr p, .int .u64 ref] W fun e w' => e = .returned (.int .i64 (m.at ref).typ) ∧ Below w.heap.size w w') := fun W hB => by
    obtain ⟨F, G, a, b⟩ := HC.out W hB
    refine (typeS a hn ref h0 h1).mono ?_
    rintro e w' ⟨rfl, hq⟩
    exact ⟨rfl, hB.trans (hq.mono hB.size)⟩
  have H42 : Hid (∀ W, Below w.heap.size w W → Calls Try.prog 42 #[ptr q, .int .u64 ref] W fun e w' => e = .returned (.int .i64 (m.at ref).typ) ∧ Below w.heap.size w w') := fun W hB => by
    obtain ⟨F, G, a, b⟩ := HC.out W hB
    refine (typeR b hi hn ref h0 h1).mono ?_
    rintro e w' ⟨rfl, hq⟩
    exact ⟨rfl, hB.trans (hq.mono hB.size)⟩
  generalize (m.at ref).text = tx at *
  generalize (m.at ref).typ = ty at *
  generalize ((m.at ref).len : Int) = ln at *
  generalize decide ((m.at ref).kind = 1) = d1 at *
  generalize decide ((m.at ref).kind ≠ 0) = d2 at *
  have B := Below.refl w.heap.size w
  clear h HC hs hi ht hlb
  go_enter Try.func14, Try.ntmps14
  go_wp2_with (first
    | (go_at_call 39; refine (H39.out _ B).mono ?_; rintro e w1 ⟨rfl, B1⟩)
    | (go_at_call 40; refine (H40.out _ B1).mono ?_; rintro e w2 ⟨rfl, B2⟩)
    | (go_at_call 25; refine (H25.out _ B2).mono ?_; rintro e w3 ⟨rfl, B3⟩)
    | (go_at_call 41; refine (H41.out _ B3).mono ?_; rintro e w4 ⟨rfl, B4⟩)
    | (go_at_call 19; refine (H19.out _ B4).mono ?_; rintro e w5 ⟨rfl, B5⟩)
    | (go_at_call 42; refine (H42.out _ B5).mono ?_; rintro e w6 ⟨rfl, B6⟩))
  go_ret
  exact ⟨by first | rfl | simp, B6⟩
def WR (w : World) (N : Int) (iv : Value) (wr : World) : Prop := ∃ c : Int, iv = .int .i64 c ∧ -1 ≤ c ∧ c ≤ 200 ∧ Below w.heap.size w wr
set_option maxRecDepth 100000 in
set_option maxHeartbeats 2000000 in
theorem wholeP {w : World} {p q : Nat} {m : M} {A : Nat → Prop} (h : Pq w p q m A) (ht : NT m) (hn : m.ths.length ≤ 1000000) (ref : Int) (h0 : 0 ≤ ref) (h1 : ref < 18446744073709551616) :
    Calls Try.prog 15 #[ptr p, ptr q, .int .u64 ref] w fun e w' => e = .returned (.bool true) ∧ Below w.heap.size w w' := by
  have hi := h.inv
  have HC : Hid (∀ W, Below w.heap.size w W → ∃ F G, HAt W p m F ∧ RAt W q m G) := fun W hB => by
    obtain ⟨F, G, a, b, _⟩ := h.below hB
    exact ⟨F, G, a, b⟩
  have H41 : Calls Try.prog 41 #[ptr q, .int .u64 ref] w fun e w' => e = .returned (.tuple #[.int .i64 ((m.at ref).len : Int), .bool (decide ((m.at ref).kind ≠ 0))]) ∧ Below w.heap.size w w' := by
    obtain ⟨F, G, a, b⟩ := HC.out w (Below.refl _ _)
    exact lenR b hi hn ref h0 h1
  have H22 : Hid (∀ W c, -1 ≤ c → c ≤ 200 → Below w.heap.size w W → Calls Try.prog 22 #[ptr p, .int .u64 ref, .int .i64 c] W fun e w' => e = .returned (.tuple #[.int .u64 (m.getV ref c), .int .i64 (m.getT ref c)]) ∧ Below w.heap.size w w') := fun W c hc1 hc2 hB => by
    obtain ⟨F, G, a, b⟩ := HC.out W hB
    refine (getS a hn ref c h0 h1 (by omega) (by omega)).mono ?_
    rintro e w' ⟨rfl, rfl⟩
    exact ⟨rfl, hB⟩
  have H35 : Hid (∀ W c, -1 ≤ c → c ≤ 200 → Below w.heap.size w W → Calls Try.prog 35 #[ptr q, .int .u64 ref, .int .i64 c] W fun e w' => e = .returned (.tuple #[.int .u64 (m.getV ref c), .int .i64 (m.getT ref c)]) ∧ Below w.heap.size w w') := fun W c hc1 hc2 hB => by
    obtain ⟨F, G, a, b⟩ := HC.out W hB
    refine (getR b hi hn ref c h0 h1 (by omega) (by omega)).mono ?_
    rintro e w' ⟨rfl, hq⟩
    exact ⟨rfl, hB.trans (hq.mono hB.size)⟩
  have H14 : Hid (∀ W, Below w.heap.size w W → Calls Try.prog 14 #[ptr p, ptr q, .int .u64 ref] W fun e w' => e = .returned (.bool true) ∧ Below w.heap.size w w') := fun W hB => by
    refine (alikeP (h.below hB) ht hn ref h0 h1).mono ?_
    rintro e w' ⟨rfl, hq⟩
    exact ⟨rfl, hB.trans (hq.mono hB.size)⟩
  obtain ⟨N, hN⟩ : ∃ N : Int, Hid (((m.at ref).len : Int) = N) := ⟨_, rfl⟩
  rw [hN.out] at H41
  generalize decide ((m.at ref).kind ≠ 0) = d2 at *
  clear h HC hi ht hN
  go_enter Try.func15, Try.ntmps15
  go_wp2_with (go_at_call 41; refine H41.mono ?_; rintro e w1 ⟨rfl, B1⟩; have HB1 : Hid _ := B1; clear B1)
  go_loopw [9] (fun iv wr => WR w N iv wr) (fun i _ => (201 - intOf i).toNat)
  case atStart => exact ⟨-1, rfl, by omega, by omega, HB1.out⟩
  case round =>
    clear HB1
    obtain ⟨c, rfl, hc1, hc2, hB⟩ := hrel
    have HB : Hid (Below w.heap.size w wr) := hB
    clear hB
    by_cases g1 : c ≤ N
    · by_cases g2 : c < 200
      · have hg := H22.out wr c hc1 hc2 HB.out
        obtain ⟨V, hV⟩ : ∃ V, Hid (m.getV ref c = V) := ⟨_, rfl⟩
        obtain ⟨T, hT⟩ : ∃ T, Hid (m.getT ref c = T) := ⟨_, rfl⟩
        have HG : Hid (∀ W, Below w.heap.size w W → Calls Try.prog 35 #[ptr q, .int .u64 ref, .int .i64 c] W fun e w' => e = .returned (.tuple #[.int .u64 V, .int .i64 T]) ∧ Below w.heap.size w w') := fun W hB => by
          have := H35.out W c hc1 hc2 hB
          rwa [hV.out, hT.out] at this
        rw [hV.out, hT.out] at hg
        go_wp2_with (first | (go_at_call 22; refine hg.mono ?_; rintro e w2 ⟨rfl, B2⟩; have hg2 := HG.out w2 B2; clear B2) | (go_at_call 35; refine hg2.mono ?_; rintro e w3 ⟨rfl, B3⟩; have HB3 : Hid _ := B3; clear B3))
        go_roundw
        case rel => exact ⟨c + 1, rfl, by omega, by omega, HB3.out⟩
        case measure => simp [intOf]; omega
      · have hal := H14.out wr HB.out
        go_wp2_with (go_at_call 14; refine hal.mono ?_; rintro e w2 ⟨rfl, B2⟩)
        go_ret
        exact ⟨rfl, B2⟩
    · have hal := H14.out wr HB.out
      go_wp2_with (go_at_call 14; refine hal.mono ?_; rintro e w2 ⟨rfl, B2⟩)
      go_ret
      exact ⟨rfl, B2⟩
end Go.Proofs.Ytcohgbelcbniaaa
