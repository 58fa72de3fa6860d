/-
  ScopeRises: slots and numbers are given out one behind the other.
-/
import Derived.Test.YtnnajgbkpilaaaaRun
namespace Go.Proofs.Ytnnajgbkpilaaaa
open Go.RowKit
set_option linter.unusedVariables false

theorem find_new {m : M} {nm : ByteArray} (ty : Int) (h : m.decE nm = 0) : (m.declared nm ty).findV nm = .tuple #[.int .i64 (m.types.length : Int), .int .i64 ty, .bool true] := by
  have e : (m.declared nm ty).find nm = some ⟨nm, m.types.length, ty⟩ := by
    unfold M.declared
    rw [if_pos h]
    simp [M.find, lastN, M.flat]
  unfold M.findV
  rw [e]
theorem tgt_new {m : M} {nm : ByteArray} (b : Bool) (h : m.entE nm = 0) (l : ByteArray) (hl : l = empt ∨ l = nm) : (m.entered nm b).tgt l false = some ⟨nm, b, m.next⟩ := by
  unfold M.entered
  rw [if_pos h]
  unfold M.tgt
  rcases hl with rfl | rfl
  · simp
  · simp
theorem decE_cases (m : M) (nm : ByteArray) : m.decE nm = 70 ∨ (m.decE nm = 73 ∧ 256 ≤ m.types.length) ∨ (m.decE nm = 0 ∧ m.types.length < 256) := by
  unfold M.decE
  split
  · exact .inl rfl
  · split
    · rename_i h; exact .inr (.inl ⟨rfl, h⟩)
    · rename_i h; exact .inr (.inr ⟨rfl, by omega⟩)
theorem ScAt.bd {w : World} {p : Nat} {m : M} {F : Nat → Prop} (h : ScAt w p m F) : ∀ b, F b → b < w.heap.size := by obtain ⟨v0, v1, v2, v3, vm, _, _, h3⟩ := h; exact h3
/-- Calls that leave a block of the caller's own. -/
theorem slDeclX {B : Nat} {A wr : World} {p : Nat} {m : M} (h : Sl B A wr p m) (cs : Array Value) (t : TypeId) (hn : m.out.length ≤ 100000) (nm : ByteArray) (ty : Int) : Calls Try.prog 16 #[.pointer (some ⟨p, 0, none⟩), .string nm, .int .i64 ty] (wr.alloc (.cells cs t)) fun e w' => e = .returned (.tuple #[.int .i64 (m.decV nm : Int), .int .i64 (m.decE nm : Int)]) ∧ Sl B A w' p (m.declared nm ty) ∧ Own w' wr.heap.size cs t := by
  obtain ⟨F, h1, h2, h3, h4⟩ := h
  have hB : Below wr.heap.size wr (wr.alloc (.cells cs t)) := (Below.refl wr.heap.size wr).alloc (Nat.le_refl _) _
  have hs := h3.size
  refine (declS (h1.below hB) hn nm ty).mono ?_
  rintro e w' ⟨rfl, hr⟩
  refine ⟨rfl, Sl.next (m := m) h2 (h3.trans (hB.mono (by omega))) h4 hr, ?_⟩
  obtain ⟨F', _, _, hf⟩ := hr
  exact (Own.new wr cs t).fr hf fun q => by have := h1.bd _ q; omega
theorem slEnterX {B : Nat} {A wr : World} {p : Nat} {m : M} (h : Sl B A wr p m) (cs : Array Value) (t : TypeId) (hn : m.turns.length ≤ 100000) (hN : m.next ≤ 100000) (nm : ByteArray) (hsz : nm.size ≤ maxLen) (b : Bool) : Calls Try.prog 17 #[.pointer (some ⟨p, 0, none⟩), .string nm, .bool b] (wr.alloc (.cells cs t)) fun e w' => e = .returned (.tuple #[.int .i64 (m.entV nm : Int), .int .i64 (m.entE nm : Int)]) ∧ Sl B A w' p (m.entered nm b) ∧ Own w' wr.heap.size cs t := by
  obtain ⟨F, h1, h2, h3, h4⟩ := h
  have hB : Below wr.heap.size wr (wr.alloc (.cells cs t)) := (Below.refl wr.heap.size wr).alloc (Nat.le_refl _) _
  have hs := h3.size
  refine (enterS (h1.below hB) hn hN nm hsz b).mono ?_
  rintro e w' ⟨rfl, hr⟩
  refine ⟨rfl, Sl.next (m := m) h2 (h3.trans (hB.mono (by omega))) h4 hr, ?_⟩
  obtain ⟨F', _, _, hf⟩ := hr
  exact (Own.new wr cs t).fr hf fun q => by have := h1.bd _ q; omega
theorem slFindB {B : Nat} {A W : World} {p : Nat} {m : M} (h : Sl B A W p m) (nm : ByteArray) : Calls Try.prog 19 #[.pointer (some ⟨p, 0, none⟩), .string nm] W fun e w' => e = .returned (m.findV nm) ∧ Below W.heap.size W w' := by
  obtain ⟨F, h1, h2, h3, h4⟩ := h
  exact findS h1 nm
theorem slTargetB {B : Nat} {A W : World} {p : Nat} {m : M} (h : Sl B A W p m) (hn : m.turns.length ≤ 100000) (nm : ByteArray) (hsz : nm.size ≤ maxLen) (b : Bool) : Calls Try.prog 18 #[.pointer (some ⟨p, 0, none⟩), .string nm, .bool b] W fun e w' => e = .returned (.tuple #[.int .i64 (m.tgtV nm b : Int), .int .i64 (m.tgtE nm b : Int)]) ∧ Below W.heap.size W w' := by
  obtain ⟨F, h1, h2, h3, h4⟩ := h
  exact targetS h1 hn nm hsz b
def RiseRel (B : Nat) (A : World) (p : Nat) (ss : List St) (sv nv iv : Value) (wr : World) : Prop :=
  ∃ k : Nat, k ≤ ss.length ∧ iv = .int .i64 k ∧ sv = .int .i64 ((runR M.new 1 0 (ss.take k)).1.types.length : Int) ∧ nv = .int .i64 ((runR M.new 1 0 (ss.take k)).1.next : Int) ∧ Sl B A wr p (runR M.new 1 0 (ss.take k)).1
set_option maxRecDepth 100000 in
set_option maxHeartbeats 4000000 in
theorem rises_walk (w : World) (ao : Option Addr) (ss : List St) (cap : Nat) (hs : StIn w w.heap.size ao ss) (hcap : ss.length ≤ cap) (hc63 : cap ≤ maxLen) :
    Calls Try.prog 6 #[.slice ao ss.length cap] w fun e w' => e = .returned (.bool true) ∧ Below w.heap.size w w' := by
  obtain ⟨n, hn⟩ : ∃ n, Hid (ss.length = n) := ⟨_, rfl⟩
  rw [hn.out] at hcap ⊢
  unfold maxLen at hc63
  have hN := slNew w
  by_cases hbig : 300 < n
  · go_enter Try.func6, Try.ntmps6
    go_wp2
    go_ret
    exact ⟨rfl, Below.refl _ _⟩
  have hle : n ≤ 300 := by omega
  clear hbig
  go_enter Try.func6, Try.ntmps6
  go_wp2_with (go_at_call 8; refine hN.mono ?_; rintro e w0 ⟨rfl, h0⟩; have HS0 : Hid _ := h0; clear h0)
  clear hN
  obtain ⟨p, hp⟩ : ∃ p, Hid (w.heap.size = p) := ⟨_, rfl⟩
  rw [hp.out] at hs
  have HS : Hid (Sl p w w0 p M.new) := by rw [← hp.out]; exact HS0.out
  clear HS0
  rw [hp.out]
  go_loopw [4, 5, 6] (fun sv nv iv wr => RiseRel p w p ss sv nv iv wr) (fun _ _ i _ => n - (intOf i).toNat)
  case atStart => exact ⟨0, Nat.zero_le _, rfl, rfl, rfl, HS.out⟩
  case round =>
    obtain ⟨k, hk, rfl, rfl, rfl, hsl⟩ := hrel
    rw [hn.out] at hk
    have hbd := Bd.run (ss.take k) 1 0 (show Bd M.new 0 from ⟨by simp [M.new], by simp [M.new], by simp [M.new]⟩)
    have hlk : (ss.take k).length = k := by rw [List.length_take, hn.out]; omega
    rw [hlk, Nat.zero_add] at hbd
    obtain ⟨R, hR⟩ : ∃ R, Hid (runR M.new 1 0 (ss.take k) = R) := ⟨_, rfl⟩
    rw [hR.out] at hsl hbd ⊢
    obtain ⟨mk, bk, tk⟩ := R
    simp only at hsl hbd ⊢
    clear hlk
    have hfew := hsl.inv.few
    obtain ⟨Lt, hLt⟩ : ∃ L, Hid (mk.types.length = L) := ⟨_, rfl⟩
    obtain ⟨Nx, hNx⟩ : ∃ L, Hid (mk.next = L) := ⟨_, rfl⟩
    rw [hLt.out] at hfew ⊢
    rw [hNx.out]
    have hnx : Nx ≤ 300 := by rw [← hNx.out]; have := hbd.2.2; omega
    by_cases hlt : k < n
    · obtain ⟨s, hsd⟩ : ∃ s, Hid (ss.getD k dS = s) := ⟨_, rfl⟩
      have htk : Hid ((runR M.new 1 0 (ss.take (k + 1))).1 = mk.step s) := by
        unfold Hid
        rw [take_succ' ss (by rw [hn.out]; exact hlt), runR_snoc, hR.out, hsd.out]
      have hmem : s ∈ ss := by
        rw [← hsd.out, List.getD_eq_getElem?_getD, List.getElem?_eq_getElem (by rw [hn.out]; exact hlt)]
        exact List.getElem_mem _
      have hsz := hs.1 s hmem
      have hs' := hs
      rcases hs.2 with q | ⟨b, o, rfl, hbB, hst⟩
      · rw [q] at hmem; cases hmem
      have hone : Hid (StIn w p (some ⟨b, o + k * 4, none⟩) [s]) := by
        have := hs'.one (i := k) (by rw [hn.out]; exact hlt)
        rw [hsd.out] at this
        exact this
      have hstk := (hst k (by rw [hn.out]; exact hlt)).below hsl.bel hbB
      rw [hsd.out] at hstk
      obtain ⟨a0, a1, a2, a3⟩ := hstk
      obtain ⟨kd, nm, ty, tu⟩ := s
      simp only at a0 a1 a2 a3 hsz
      have hx := Own.new wr #[.int .i64 kd, .string nm, .int .i64 ty, .bool tu] 29
      have x0 := hx.cell 0
      have x1 := hx.cell 1
      have x2 := hx.cell 2
      have x3 := hx.cell 3
      simp only [List.getElem?_toArray, List.getElem?_cons_zero, List.getElem?_cons_succ] at x0 x1 x2 x3
      have hBx : Below wr.heap.size wr (wr.alloc (.cells #[.int .i64 kd, .string nm, .int .i64 ty, .bool tu] 29)) := (Below.refl wr.heap.size wr).alloc (Nat.le_refl _) _
      have hsl2 := hsl.below hBx
      have hpick := pick6 kd (wr.alloc (.cells #[.int .i64 kd, .string nm, .int .i64 ty, .bool tu] 29))
      have hj := pk_lt kd (show 0 < 6 by omega)
      obtain ⟨j, hjj⟩ : ∃ j, Hid (pk kd 6 = j) := ⟨_, rfl⟩
      rw [hjj.out] at hpick hj
      have HSL : Hid (Sl p w (wr.alloc (.cells #[.int .i64 kd, .string nm, .int .i64 ty, .bool tu] 29)) p mk) := hsl2
      have HSW : Hid (Sl p w wr p mk) := hsl
      clear hsl hsl2 hst hs hs'
      have hcases : j = 2 ∨ j = 4 ∨ (¬ j = 2 ∧ ¬ j = 4) := by omega
      rcases hcases with rfl | rfl | ⟨hj2, hj4⟩
      · have hc := slDeclX HSW.out #[.int .i64 kd, .string nm, .int .i64 ty, .bool tu] 29 (by have := hbd.1; omega) nm ty
        have hst : Hid (mk.step ⟨kd, nm, ty, tu⟩ = mk.declared nm ty) := by unfold Hid M.step; rw [hjj.out]; rfl
        rcases decE_cases mk nm with hE | ⟨hE, h256⟩ | ⟨hE, h256⟩
        · have HE : Hid (mk.decE nm = 70) := hE
          have hV : mk.decV nm = 0 := by unfold M.decV; rw [hE]; rfl
          have hD : mk.declared nm ty = mk := by unfold M.declared; rw [hE]; rfl
          rw [hE, hV, hD] at hc
          rw [hD] at hst
          clear hE hV hD
          go_wp2_with (first | (go_at_call 10; refine hpick.mono ?_; rintro e w1 ⟨rfl, rfl⟩) | (go_at_call 16; refine hc.mono ?_; rintro e w2 ⟨rfl, h2, _⟩; have H2 : Hid _ := h2; clear h2))
          go_roundw
          case rel => exact ⟨k + 1, by rw [hn.out]; omega, by simp, by rw [htk.out, hst.out, hLt.out], by rw [htk.out, hst.out, hNx.out], by rw [htk.out, hst.out]; exact H2.out⟩
          case measure => simp [intOf]; omega
        · have hV : mk.decV nm = 0 := by unfold M.decV; rw [hE]; rfl
          have hD : mk.declared nm ty = mk := by unfold M.declared; rw [hE]; rfl
          rw [hE, hV, hD] at hc
          rw [hD] at hst
          rw [hLt.out] at h256
          obtain rfl : Lt = 256 := by omega
          clear hE hV hD h256 hfew
          go_wp2_with (first | (go_at_call 10; refine hpick.mono ?_; rintro e w1 ⟨rfl, rfl⟩) | (go_at_call 16; refine hc.mono ?_; rintro e w2 ⟨rfl, h2, _⟩; have H2 : Hid _ := h2; clear h2))
          go_roundw
          case rel => exact ⟨k + 1, by rw [hn.out]; omega, by simp, by rw [htk.out, hst.out, hLt.out]; rfl, by rw [htk.out, hst.out, hNx.out], by rw [htk.out, hst.out]; exact H2.out⟩
          case measure => simp [intOf]; omega
        · have hV : mk.decV nm = Lt := by unfold M.decV; rw [hE, hLt.out]; rfl
          have hfn := find_new ty hE
          rw [hLt.out] at hfn h256
          have hTL : Hid ((mk.declared nm ty).types.length = Lt + 1 ∧ (mk.declared nm ty).next = Nx) := by unfold Hid M.declared; rw [if_pos hE, ← hLt.out, ← hNx.out]; simp
          rw [hE, hV] at hc
          clear hE hV
          go_upto_region 14 with (first | (go_at_call 10; refine hpick.mono ?_; rintro e w1 ⟨rfl, rfl⟩) | (go_at_call 16; refine hc.mono ?_; rintro e w2 ⟨rfl, h2, hx2⟩; have H2 : Hid (Sl p w w2 p (mk.declared nm ty)) := h2; clear h2; have y1 := hx2.cell 1; simp only [List.getElem?_toArray, List.getElem?_cons_zero, List.getElem?_cons_succ] at y1))
          have hf := slFindB H2.out nm
          rw [hfn] at hf
          go_wp2_with (go_at_call 19; refine hf.mono ?_; rintro e w3 ⟨rfl, h3⟩; have z2 := (hx2.below h3).cell 2; simp only [List.getElem?_toArray, List.getElem?_cons_zero, List.getElem?_cons_succ] at z2; have H3 : Hid (Sl p w w3 p (mk.declared nm ty)) := H2.out.below h3; clear h3)
          go_roundw
          case rel => exact ⟨k + 1, by rw [hn.out]; omega, by simp, by rw [htk.out, hst.out, hTL.out.1]; simp, by rw [htk.out, hst.out, hTL.out.2], by rw [htk.out, hst.out]; exact H3.out⟩
          case measure => simp [intOf]; omega
      · have hst : Hid (mk.step ⟨kd, nm, ty, tu⟩ = mk.entered nm tu) := by unfold Hid M.step; rw [hjj.out]; rfl
        have hc := slEnterX HSW.out #[.int .i64 kd, .string nm, .int .i64 ty, .bool tu] 29 (by have := hbd.2.1; omega) (by have := hbd.2.2; omega) nm hsz tu
        rcases entE_cases mk nm with ⟨hE, _⟩ | ⟨hE, _⟩
        · have hV : mk.entV nm = 0 := by unfold M.entV; rw [hE]; rfl
          have hD : mk.entered nm tu = mk := by unfold M.entered; rw [hE]; rfl
          rw [hE, hV, hD] at hc
          rw [hD] at hst
          clear hE hV hD
          go_wp2_with (first | (go_at_call 10; refine hpick.mono ?_; rintro e w1 ⟨rfl, rfl⟩) | (go_at_call 17; refine hc.mono ?_; rintro e w2 ⟨rfl, h2, _⟩; have H2 : Hid _ := h2; clear h2))
          go_roundw
          case rel => exact ⟨k + 1, by rw [hn.out]; omega, by simp, by rw [htk.out, hst.out, hLt.out], by rw [htk.out, hst.out, hNx.out], by rw [htk.out, hst.out]; exact H2.out⟩
          case measure => simp [intOf]; omega
        · have hV : mk.entV nm = Nx := by unfold M.entV; rw [hE, hNx.out]; rfl
          have ht1 := tgt_new tu hE empt (.inl rfl)
          have ht2 := tgt_new tu hE nm (.inr rfl)
          have hTL : Hid ((mk.entered nm tu).types.length = Lt ∧ (mk.entered nm tu).next = Nx + 1) := by unfold Hid M.entered; rw [if_pos hE, ← hLt.out, ← hNx.out]; exact ⟨rfl, rfl⟩
          have hbe : (mk.entered nm tu).turns.length ≤ 100000 := by have := (hbd.entered nm tu).2.1; omega
          rw [hE, hV] at hc
          clear hE hV
          go_upto_region 23 with (first | (go_at_call 10; refine hpick.mono ?_; rintro e w1 ⟨rfl, rfl⟩) | (go_at_call 17; refine hc.mono ?_; rintro e w2 ⟨rfl, h2, hx2⟩; have H2 : Hid (Sl p w w2 p (mk.entered nm tu)) := h2; clear h2))
          have hf1 : Calls Try.prog 18 #[.pointer (some ⟨p, 0, none⟩), .string ⟨#[]⟩, .bool false] w2 fun e w' => e = .returned (.tuple #[.int .i64 (Nx : Int), .int .i64 0]) ∧ Below w2.heap.size w2 w' := by
            have := slTargetB H2.out hbe empt (by unfold maxLen; decide) false
            unfold M.tgtV M.tgtE at this
            rw [ht1] at this
            simp only [hNx.out] at this
            exact this
          go_upto_region 24 with (go_at_call 18; refine hf1.mono ?_; rintro e w3 ⟨rfl, h3⟩; have hx3 := hx2.below h3; have H3 : Hid (Sl p w w3 p (mk.entered nm tu)) := H2.out.below h3; clear h3)
          clear hf1
          have z1 := hx3.cell 1
          simp only [List.getElem?_toArray, List.getElem?_cons_zero, List.getElem?_cons_succ] at z1
          have hf2 : Calls Try.prog 18 #[.pointer (some ⟨p, 0, none⟩), .string nm, .bool false] w3 fun e w' => e = .returned (.tuple #[.int .i64 (Nx : Int), .int .i64 0]) ∧ Below w3.heap.size w3 w' := by
            have := slTargetB H3.out hbe nm hsz false
            unfold M.tgtV M.tgtE at this
            rw [ht2] at this
            simp only [hNx.out] at this
            exact this
          go_wp2_with (go_at_call 18; refine hf2.mono ?_; rintro e w4 ⟨rfl, h4⟩; have H4 : Hid (Sl p w w4 p (mk.entered nm tu)) := H3.out.below h4; clear h4)
          go_roundw
          case rel => exact ⟨k + 1, by rw [hn.out]; omega, by simp, by rw [htk.out, hst.out, hTL.out.1], by rw [htk.out, hst.out, hTL.out.2]; simp, by rw [htk.out, hst.out]; exact H4.out⟩
          case measure => simp [intOf]; omega
      · have e2 : ((j : Int) == 2) = false := by simp; omega
        have e4 : ((j : Int) == 4) = false := by simp; omega
        have hc := runS HSL.out hone.out hbd (by simp; omega) (cap - k) (by simp; omega)
        simp only [List.length_singleton] at hc
        have hst : Hid ((runR mk 1 0 [⟨kd, nm, ty, tu⟩]).1 = mk.step ⟨kd, nm, ty, tu⟩ ∧ (mk.step ⟨kd, nm, ty, tu⟩).types.length = Lt ∧ (mk.step ⟨kd, nm, ty, tu⟩).next = Nx) := by
          refine ⟨rfl, ?_⟩
          rw [← hLt.out, ← hNx.out]
          unfold M.step
          rw [hjj.out]
          have : j = 0 ∨ j = 1 ∨ j = 3 ∨ j = 5 := by omega
          rcases this with rfl | rfl | rfl | rfl
          · exact ⟨rfl, rfl⟩
          · simp only [M.closed]
            split <;> exact ⟨rfl, rfl⟩
          · exact ⟨rfl, rfl⟩
          · exact ⟨rfl, rfl⟩
        rw [hst.out.1] at hc
        obtain ⟨rb, hrb⟩ : ∃ r : Int, Hid ((runR mk 1 0 [⟨kd, nm, ty, tu⟩]).2.1 = r) := ⟨_, rfl⟩
        obtain ⟨rt, hrt⟩ : ∃ r : Int, Hid ((runR mk 1 0 [⟨kd, nm, ty, tu⟩]).2.2 = r) := ⟨_, rfl⟩
        rw [hrb.out, hrt.out] at hc
        have hk1 : k + 1 ≤ cap := by omega
        have hkc : ¬ cap = k := by omega
        go_wp2_with (first | (go_at_call 10; refine hpick.mono ?_; rintro e w1 ⟨rfl, rfl⟩) | (go_at_call 24; refine hc.mono ?_; rintro e w2 ⟨rfl, h2⟩; have H2 : Hid _ := h2; clear h2))
        go_roundw
        case rel => exact ⟨k + 1, by rw [hn.out]; omega, by simp, by rw [htk.out, hst.out.2.1], by rw [htk.out, hst.out.2.2], by rw [htk.out]; exact H2.out⟩
        case measure => simp [intOf]; omega
    · have hkl : k = n := by omega
      subst hkl
      have hc := slSlots hsl
      rw [hLt.out] at hc
      have HLW : Hid (Below p w wr) := hsl.bel
      clear hsl
      go_wp2_with (first | (go_at_call 23; refine hc.mono ?_; rintro e w2 ⟨ao2, cap2, rfl, _, _, h3, _⟩; have hwk := works_as w2; have HB2 : Hid (Below p w w2) := h3.bel; clear h3) | (go_at_call 15; refine hwk.mono ?_; rintro e w3 ⟨rfl, hB3⟩))
      go_ret
      refine ⟨rfl, ?_⟩
      have hs2 := HB2.out.size
      rw [hp.out] at hs2
      rw [hp.out]
      exact HB2.out.trans (hB3.mono hs2)
end Go.Proofs.Ytnnajgbkpilaaaa
