/-
  THE READER OF AN IMAGE: codes, kinds, fields.
  THE READER OF AN IMAGE: kinds.
  THE READER OF AN IMAGE: types.
-/
import Derived.Test.YtmmbdpdpkkikjaaGreatLd4
import Derived.Test.YtmmbdpdpkkikjaaGreatTk11
namespace Go.Proofs.YtmmbdpdpkkikjaaGreat
open Go.RowKit
set_option linter.unusedVariables false

/-- A call of the reader's that reads one thing of a kind. -/
abbrev Reads {α : Type} (f : FuncId) (V : World → Nat → Value → α → Prop) (F : List Nat → Nat → Rs α) (r : Nat) (a : Option Addr) (c : Nat) (xs : List Nat) : Prop := ∀ W q, RdAt W r a c xs q → Calls Tryz.prog f #[ptr r] W (RRet r a c xs V (F xs q) W)
theorem RRet.to {α : Type} {r : Nat} {a : Option Addr} {c : Nat} {xs : List Nat} {V V' : World → Nat → Value → α → Prop} {R : Rs α} {w w' : World} {e : Ending} (h : RRet r a c xs V R w e w') (hv : ∀ v x, V w' w.heap.size v x → V' w' w.heap.size v x) : RRet r a c xs V' R w e w' := by
  cases R with
  | inl x => exact h
  | inr y =>
    obtain ⟨⟨v, e, h1⟩, h2, h3⟩ := h
    exact ⟨⟨v, e, hv v _ h1⟩, h2, h3⟩
theorem number_reads (r : Nat) (a : Option Addr) (c : Nat) (xs : List Nat) : Reads 94 (vEl kInt) rNum r a c xs := fun W q h => (rnumber_as h).mono fun e w' k => k.to fun v x hv => ⟨x, rfl, hv, trivial⟩
theorem text_reads (r : Nat) (a : Option Addr) (c : Nat) (xs : List Nat) : Reads 62 (vEl kTxt) rText r a c xs := fun W q h => (rtext_as h).mono fun e w' k => k.to fun v x hv => ⟨x, rfl, hv, trivial⟩
set_option maxHeartbeats 2000000 in
set_option maxRecDepth 100000 in
theorem field_reads (r : Nat) (a : Option Addr) (c : Nat) (xs : List Nat) : Reads 97 (vEl kFl) rFl r a c xs := by
  intro w p h
  obtain ⟨R, HR⟩ : ∃ R, Hid (RRet r a c xs (vEl kFl) (rFl xs p) w = R) := ⟨_, rfl⟩
  rw [HR.out]
  have H0 : Hid (RdAt w r a c xs p) := h
  have f0 : RFr r w (w.alloc (.cells #[.string ⟨#[]⟩, .int .i64 0] 51)) := (Fr.refl _ w).alloc _
  have d0 := h.to f0 (h.own.alloc _) h.le
  have HO0 := Own.new w #[.string ⟨#[]⟩, .int .i64 0] 51
  have hrl : r < w.heap.size := h.own.lt
  have hT := rtext_as d0
  go_enter Tryz.func97, Tryz.ntmps97
  cases hr : rText xs p with
  | inl x =>
    rw [hr] at hT
    have HZ : Hid (∀ w', RFr r (w.alloc (.cells #[.string ⟨#[]⟩, .int .i64 0] 51)) w' → R (.panicked (fltV (x.1 : Int) (x.2 : Int))) w') := fun w' hf => by
      rw [← HR.out]; unfold rFl; rw [hr]; exact ⟨rfl, f0.trans hf⟩
    clear hr h f0 d0 HO0 HR hrl
    go_wp2_with fail
    refine hT.mono ?_
    rintro e w1 ⟨rfl, hf⟩
    go_wp2
    exact ⟨rfl, HZ.out _ hf⟩
  | inr y =>
    obtain ⟨nm, q⟩ := y
    rw [hr] at hT
    have HS : Hid (rFl xs p = (rNum xs q).bind fun t s => .inr ((⟨nm, t⟩ : Fl), s)) := by unfold Hid rFl; rw [hr, Rs.bind_inr]
    clear hr h
    go_wp2_with fail
    refine hT.mono ?_
    rintro e w1 ⟨⟨v, rfl, hv⟩, hd, hf⟩
    obtain rfl : v = .string nm := hv
    have hN := rnumber_as hd
    have o1 := HO0.fr hf (by omega)
    have f1 := f0.trans hf
    cases hq : rNum xs q with
    | inl x =>
      rw [hq] at hN
      have HZ : Hid (∀ w', RFr r w1 w' → R (.panicked (fltV (x.1 : Int) (x.2 : Int))) w') := fun w' hf2 => by
        rw [← HR.out, HS.out, hq]; exact ⟨rfl, f1.trans hf2⟩
      clear hq hd hf f1 f0 d0 o1 HO0 HR HS hrl hT
      go_wp2_with fail
      refine hN.mono ?_
      rintro e w2 ⟨rfl, hf2⟩
      go_wp2
      exact ⟨rfl, HZ.out _ hf2⟩
    | inr y =>
      obtain ⟨t, s⟩ := y
      rw [hq] at hN
      have HZ : Hid (∀ w2, RdAt w2 r a c xs s → RFr r w1 w2 → R (.returned (.agg #[.string nm, .int .i64 t])) ((w2.setCell ⟨w.heap.size, 0, none⟩ (.string nm)).setCell ⟨w.heap.size, 1, none⟩ (.int .i64 t))) := fun w2 hd2 hf2 => by
        have f2 := ((f1.trans hf2).set (g := w.heap.size) (.inl (Nat.le_refl _)) 0 (.string nm)).set (g := w.heap.size) (.inl (Nat.le_refl _)) 1 (.int .i64 t)
        have o3 := (hd2.own.other (g' := w.heap.size) (i := 0) (by omega) (.string nm)).other (g' := w.heap.size) (i := 1) (by omega) (.int .i64 t)
        rw [← HR.out, HS.out, hq]; exact ⟨⟨_, rfl, ⟨nm, t⟩, rfl, rfl, trivial⟩, H0.out.to f2 o3 hd2.le, f2⟩
      have HO1 : Hid (∀ w2, RFr r w1 w2 → Own w2 w.heap.size #[.string ⟨#[]⟩, .int .i64 0] 51) := fun w2 hf2 => o1.fr hf2 (by omega)
      clear hq hd hf f1 f0 d0 o1 HO0 HR HS hrl hT H0
      generalize hG : w.heap.size = G at *
      go_wp2_with fail
      refine hN.mono ?_
      rintro e w2 ⟨⟨v, rfl, hv⟩, hd2, hf2⟩
      obtain rfl : v = .int .i64 t := hv
      have hZ := HZ.out _ hd2 hf2
      have o2 := HO1.out _ hf2
      obtain ⟨y0, y1, yf⟩ := own2 o2
      have o3 : Own ((w2.setCell ⟨G, 0, none⟩ (.string nm)).setCell ⟨G, 1, none⟩ (.int .i64 t)) G #[.string nm, .int .i64 t] 51 := by simpa using (o2.set 0 (.string nm)).set 1 (.int .i64 t)
      clear HZ HO1 hd2 hf2 o2
      go_wp2
      refine bodyPost_cell1 (g := G) (t := 51) rfl rfl rfl o3 Tryz.underlying51 rfl (by kernel_rfl) ?_
      exact hZ
theorem rBytes_len {n : Nat} {xs : List Nat} {p : Nat} {l : List Nat} {q : Nat} (h : rBytes n xs p = .inr (l, q)) : l.length = n := by
  unfold rBytes at h
  split at h
  · cases h
  · cases h
    rw [List.length_take, List.length_drop]; omega
def vCod : World → Nat → Value → List Nat → Prop := fun w B v l => Rw w 5 1 v l.length (nums l) ∧ ∀ b, v.ownBlock = some b → B ≤ b
set_option maxHeartbeats 2000000 in
set_option maxRecDepth 100000 in
theorem rcode_as {w : World} {r : Nat} {a : Option Addr} {c : Nat} {xs : List Nat} {p : Nat} (h : RdAt w r a c xs p) : Calls Tryz.prog 100 #[ptr r] w (RRet r a c xs vCod (rCode xs p) w) := by
  obtain ⟨R, HR⟩ : ∃ R, Hid (RRet r a c xs vCod (rCode xs p) w = R) := ⟨_, rfl⟩
  rw [HR.out]
  have H0 : Hid (RdAt w r a c xs p) := h
  have hN := rcount_as h 65536 (by omega)
  cases hr : rCount 65536 xs p with
  | inl x =>
    rw [hr] at hN
    have HZ : Hid (∀ w', RFr r w w' → R (.panicked (fltV (x.1 : Int) (x.2 : Int))) w') := fun w' hf => by
      rw [← HR.out]; unfold rCode; rw [hr]; exact ⟨rfl, hf⟩
    clear hr h
    go_enter Tryz.func100, Tryz.ntmps100
    go_wp2_with fail
    refine hN.mono ?_
    rintro e w1 ⟨rfl, hf⟩
    go_wp2
    exact ⟨rfl, HZ.out _ hf⟩
  | inr y =>
    obtain ⟨n, q⟩ := y
    rw [hr] at hN
    have HRC : Hid (rCode xs p = rBytes n xs q) := by
      unfold Hid rCode; rw [hr, Rs.bind_inr]
    have hn : n ≤ 65536 := rCount_in hr
    clear hr h
    go_enter Tryz.func100, Tryz.ntmps100
    go_wp2_with fail
    refine hN.mono ?_
    rintro e w1 ⟨⟨v, rfl, hv⟩, hd, hf⟩
    obtain rfl : v = .int .i64 (n : Int) := hv
    have hB := rbytes_as hd n hn
    cases hb : rBytes n xs q with
    | inl x =>
      rw [hb] at hB
      have HZ : Hid (∀ w', RFr r w1 w' → R (.panicked (fltV (x.1 : Int) (x.2 : Int))) w') := fun w' hf2 => by
        rw [← HR.out, HRC.out, hb]; exact ⟨rfl, hf.trans hf2⟩
      clear hb hd hN
      go_wp2_with fail
      refine hB.mono ?_
      rintro e w2 ⟨rfl, hf2⟩
      go_wp2
      exact ⟨rfl, HZ.out _ hf2⟩
    | inr y =>
      obtain ⟨l, q2⟩ := y
      rw [hb] at hB
      have HQ : Hid (rCode xs p = .inr (l, q2)) := by rw [Hid, HRC.out, hb]
      have hlen : l.length ≤ 65536 := by have := rBytes_len hb; omega
      have H1 : Hid (RFr r w w1) := hf
      have hrl : Hid (r < w.heap.size) := H0.out.own.lt
      clear hb hd hN hf
      go_wp2_with fail
      refine hB.mono ?_
      rintro e w2 ⟨⟨v, rfl, a2, c2, hv, hl2, hc2, hcm2⟩, hd2, hf2⟩
      subst hv
      have hR2 : l.length = 0 ∨ ∃ b off, a2 = some ⟨b, off, none⟩ ∧ ∀ j u, (nums l)[j]? = some u → w2.cell? ⟨b, off + j, none⟩ = some u :=
        (lies_row1 (show Lies w2 a2 l from hl2)).read (by rw [nums_length]; omega) (by omega) (fun i hi d hd => by
          obtain rfl : d = 0 := by omega
          rw [Nat.mul_one, Nat.add_zero, nums_get l i hi]; rfl)
      have HA : Hid (∀ (a3 : Option Addr) (c3 : Nat) (wz : World), Rw wz 5 1 (.slice a3 l.length c3) l.length (nums l) → Below w2.heap.size w2 wz → (∀ b, (Value.slice a3 l.length c3).ownBlock = some b → b = w2.heap.size) → R (.returned (.slice a3 l.length c3)) wz) := by
        intro a3 c3 wz q1 q2 q3
        rw [← HR.out, HQ.out]
        have f3 : RFr r w wz := (H1.out.trans hf2).trans (Fr.of q2)
        exact ⟨⟨_, rfl, q1, fun b e => by rw [q3 b e]; exact (H1.out.trans hf2).size⟩, H0.out.to f3 (hd2.own.below q2) hd2.le, f3⟩
      have hl1 : (nums l).length = l.length * 1 := by rw [nums_length, Nat.mul_one]
      clear hl2 hd2 hf2 hB HRC HR H0 hrl H1
      dsimp only at hc2 hcm2 hR2 ⊢
      generalize hNS : nums l = NS at *
      have hno : ∀ u ∈ NS, u.oneCell' = true := by rw [← hNS]; exact nums_one l
      clear hNS HQ
      generalize l.length = L at *
      go_wp2_with (refine wpList_app0 okB (by rfl) (.const (.slice none 0 0)) (.tmp 6) (by rfl) (by rfl) a2 L c2 NS (by rfl) hl1 hR2 hc2 hno (by omega) ?_; intro a3 c3 wz q1 q2 q3; have hZ := HA.out a3 c3 wz q1 q2 q3; clear q1 q2 q3 HA hR2)
      exact hZ
end Go.Proofs.YtmmbdpdpkkikjaaGreat
namespace Go.Proofs.YtmmbdpdpkkikjaaGreat
open Go.RowKit
set_option linter.unusedVariables false

def vKnd : World → Nat → Value → Nat → Prop := fun _ _ v k => v = .int .u8 (k : Int)
theorem rBytes_one {xs : List Nat} {p : Nat} (h : ¬ xs.length < p + 1) : rBytes 1 xs p = .inr ([xs.getD p 0], p + 1) := by
  unfold rBytes
  rw [if_neg h]
  have hp : p < xs.length := by omega
  have e1 : xs.getD p 0 = xs[p] := by rw [List.getD_eq_getElem?_getD, List.getElem?_eq_getElem hp, Option.getD_some]
  have e2 : (xs.drop p).take 1 = [xs[p]] := by rw [List.drop_eq_getElem_cons hp]; rfl
  rw [e1, e2]
set_option maxHeartbeats 2000000 in
set_option maxRecDepth 100000 in
theorem rkind_as {w : World} {r : Nat} {a : Option Addr} {c : Nat} {xs : List Nat} {p : Nat} (h : RdAt w r a c xs p) : Calls Tryz.prog 95 #[ptr r] w (RRet r a c xs vKnd (rKind xs p) w) := by
  obtain ⟨R, HR⟩ : ∃ R, Hid (RRet r a c xs vKnd (rKind xs p) w = R) := ⟨_, rfl⟩
  rw [HR.out]
  have hB := rbytes_as h 1 (by omega)
  by_cases hs : xs.length < p + 1
  · have hb : rBytes 1 xs p = .inl (xs.length, 10) := by unfold rBytes; rw [if_pos hs]
    have hk : rKind xs p = .inl (xs.length, 10) := by unfold rKind; rw [if_pos hs]
    rw [hb] at hB
    have HZ : Hid (∀ w', RFr r w w' → R (.panicked (fltV (xs.length : Int) 10)) w') := fun w' hf => by
      rw [← HR.out, hk]; exact ⟨rfl, hf⟩
    clear hb hk hs h
    go_enter Tryz.func95, Tryz.ntmps95
    go_wp2_with fail
    refine hB.mono ?_
    rintro e w1 ⟨rfl, hf⟩
    go_wp2
    exact ⟨rfl, HZ.out _ hf⟩
  · have hb := rBytes_one hs
    obtain ⟨K, hK⟩ : ∃ K, xs.getD p 0 = K := ⟨_, rfl⟩
    have HK : Hid (rKind xs p = if K = 6 ∨ K = 7 ∨ K = 8 then .inr (K, p + 1) else .inl (p, 130)) := by
      unfold Hid rKind; rw [if_neg hs, hK]
    rw [hb, hK] at hB
    have hmx : p + 1 ≤ 2097152 := by have := h.mx; omega
    clear hb hK hs h
    go_enter Tryz.func95, Tryz.ntmps95
    go_wp2_with fail
    refine hB.mono ?_
    rintro e w1 ⟨⟨v, rfl, a2, c2, hv, hl2, hc2, hcm2⟩, hd, hf⟩
    subst hv
    have hby : K < 256 := (show Lies w1 a2 [K] from hl2).1 K (by simp)
    obtain ⟨b, off, ea, hcell⟩ : ∃ b off, a2 = some ⟨b, off, none⟩ ∧ w1.cell? ⟨b, off, none⟩ = some (.int .u8 (K : Int)) := by
      rcases (show Lies w1 a2 [K] from hl2).2.2 with h0 | ⟨b, off, e, hc⟩
      · cases h0
      · exact ⟨b, off, e, by have := hc 0 (by simp); simpa using this⟩
    subst ea
    have HD : Hid (RdAt w1 r a c xs (p + 1)) := hd
    have HF : Hid (RFr r w w1) := hf
    obtain ⟨x0, x1, xf⟩ := own2 hd.own
    clear hl2 hd hf hB hc2 hcm2
    dsimp only [List.length_singleton] at x1 ⊢
    by_cases h3 : K = 6 ∨ K = 7 ∨ K = 8
    · have hZ : Hid (R (.returned (.int .u8 (K : Int))) w1) := by
        rw [Hid, ← HR.out, HK.out, if_pos h3]; exact ⟨⟨_, rfl, rfl⟩, HD.out, HF.out⟩
      clear HR HK HD HF
      rcases h3 with rfl | rfl | rfl
      · go_wp2_with fail
        exact hZ.out
      · go_wp2_with fail
        exact hZ.out
      · go_wp2_with fail
        exact hZ.out
    · have hC := giveUp_as r (p : Int) 130 w1
      have hZ : Hid (R (.panicked (fltV (p : Int) 130)) w1) := by
        rw [Hid, ← HR.out, HK.out, if_neg h3]; exact ⟨rfl, HF.out⟩
      have n6 : ((K : Int) != 6) = true := by simp; omega
      have n7 : ((K : Int) != 7) = true := by simp; omega
      have n8 : ((K : Int) != 8) = true := by simp; omega
      have m6 : ((K : Int) == 6) = false := by simp; omega
      have m7 : ((K : Int) == 7) = false := by simp; omega
      have m8 : ((K : Int) == 8) = false := by simp; omega
      have i6 : ¬ (K : Int) = 6 := by omega
      have i7 : ¬ (K : Int) = 7 := by omega
      have i8 : ¬ (K : Int) = 8 := by omega
      have hp1 : (((p + 1 : Nat) : Int)) - 1 = (p : Int) := by omega
      have hp2 : ((p + 1 : Nat) : Int) ≤ 2097152 := by omega
      have hp3 : (0 : Int) ≤ (p : Int) := by omega
      have hC' : Calls Tryz.prog 57 #[ptr r, .int .i64 (((p + 1 : Nat) : Int) - 1), .int .i64 130] w1 fun e w' => e = .panicked (fltV (p : Int) 130) ∧ w1 = w' := by rw [hp1]; exact hC
      have HP : Hid (((p + 1 : Nat) : Int) - 1 = (p : Int)) := hp1
      have hp0 : (1 : Int) ≤ ((p + 1 : Nat) : Int) := by omega
      clear HR HK HD HF h3 hC hp1 hmx
      generalize ((p + 1 : Nat) : Int) = P1 at *
      go_wp2_with fail
      refine hC'.mono ?_
      rintro e w2 ⟨rfl, rfl⟩
      go_wp2
      exact ⟨rfl, hZ.out⟩
end Go.Proofs.YtmmbdpdpkkikjaaGreat
namespace Go.Proofs.YtmmbdpdpkkikjaaGreat
open Go.RowKit
set_option linter.unusedVariables false

theorem fault_of {α : Type} {r : Nat} {a : Option Addr} {c : Nat} {xs : List Nat} {V : World → Nat → Value → α → Prop} {S : Rs α} {w W : World} {R : Ending → World → Prop} (HR : Hid (RRet r a c xs V S w = R)) {x : Nat × Nat} (e : S = .inl x) (hf : RFr r w W) : Hid (∀ w', RFr r W w' → R (.panicked (fltV (x.1 : Int) (x.2 : Int))) w') := fun w' h => by
  rw [← HR.out, e]; exact ⟨rfl, hf.trans h⟩
theorem good_of {α : Type} {r : Nat} {a : Option Addr} {c : Nat} {xs : List Nat} {V : World → Nat → Value → α → Prop} {S : Rs α} {w : World} {R : Ending → World → Prop} (HR : Hid (RRet r a c xs V S w = R)) {x : α} {s : Nat} (e : S = .inr (x, s)) : Hid (∀ w' v, V w' w.heap.size v x → RdAt w' r a c xs s → RFr r w w' → R (.returned v) w') := fun w' v h1 h2 h3 => by
  rw [← HR.out, e]; exact ⟨⟨_, rfl, h1⟩, h2, h3⟩
/-- What is read so far lies in a block of its own (G1), the result's cell (the first new block) is untouched. -/
structure Two (w W : World) (r : Nat) (a : Option Addr) (c : Nat) (xs : List Nat) (q : Nat) (t : TypeId) (z : Array Value) (G1 : Nat) (cs : Array Value) : Prop where
  rd : RdAt W r a c xs q
  fr : RFr r w W
  o0 : Own W w.heap.size z t
  o1 : Own W G1 cs t
  g1 : w.heap.size < G1
  rl : r < w.heap.size
theorem Two.call {w W W' : World} {r : Nat} {a : Option Addr} {c : Nat} {xs : List Nat} {q s : Nat} {t : TypeId} {z : Array Value} {G1 : Nat} {cs : Array Value} (h : Two w W r a c xs q t z G1 cs) (hd : RdAt W' r a c xs s) (hf : RFr r W W') : Two w W' r a c xs s t z G1 cs :=
  ⟨hd, h.fr.trans hf, h.o0.fr hf (by have := h.rl; omega), h.o1.fr hf (by have := h.rl; have := h.g1; omega), h.g1, h.rl⟩
theorem Two.set {w W : World} {r : Nat} {a : Option Addr} {c : Nat} {xs : List Nat} {p q : Nat} {t : TypeId} {z : Array Value} {G1 : Nat} {cs : Array Value} (h : Two w W r a c xs q t z G1 cs) (h0 : RdAt w r a c xs p) (i : Nat) (u : Value) {cs' : Array Value} (e : cs.setIfInBounds i u = cs') : Two w (W.setCell ⟨G1, i, none⟩ u) r a c xs q t z G1 cs' := by
  have f2 := h.fr.set (g := G1) (.inl (Nat.le_of_lt h.g1)) i u
  refine ⟨h0.to f2 (h.rd.own.other (by have := h.rl; have := h.g1; omega) u) h.rd.le, f2, h.o0.other (by have := h.g1; omega) u, ?_, h.g1, h.rl⟩
  rw [← e]; exact h.o1.set i u
/-- A list in the block of its own is kept by a store into a block of another type. -/
abbrev Rwn (w : World) (e : TypeId) (sz B : Nat) (v : Value) (n : Nat) (xs : List Value) : Prop := Rw w e sz v n xs ∧ ∀ b, v.ownBlock = some b → B ≤ b
theorem Rwn.put {w : World} {e : TypeId} {sz B : Nat} {v : Value} {n : Nat} {xs : List Value} (h : Rwn w e sz B v n xs) {g : Nat} {cs : Array Value} {t : TypeId} (ho : Own w g cs t) (ht : e ≠ t) (i : Nat) (u : Value) : Rwn (w.setCell ⟨g, i, none⟩ u) e sz B v n xs := ⟨h.1.set (h.1.ne ho ht) i u, h.2⟩
abbrev putT (W : World) (g : Nat) (v0 v1 v2 v3 v4 : Value) : World := ((((W.setCell ⟨g, 0, none⟩ v0).setCell ⟨g, 1, none⟩ v1).setCell ⟨g, 2, none⟩ v2).setCell ⟨g, 3, none⟩ v3).setCell ⟨g, 4, none⟩ v4
theorem own_putT {W : World} {g : Nat} {u0 u1 u2 u3 u4 : Value} {t : TypeId} (h : Own W g #[u0, u1, u2, u3, u4] t) (v0 v1 v2 v3 v4 : Value) : Own (putT W g v0 v1 v2 v3 v4) g #[v0, v1, v2, v3, v4] t := by
  simpa using ((((h.set 0 v0).set 1 v1).set 2 v2).set 3 v3).set 4 v4
theorem Rwn.putT {W : World} {e : TypeId} {sz B : Nat} {v : Value} {n : Nat} {xs : List Value} (h : Rwn W e sz B v n xs) {g : Nat} {cs : Array Value} {t : TypeId} (ho : Own W g cs t) (ht : e ≠ t) (v0 v1 v2 v3 v4 : Value) : Rwn (putT W g v0 v1 v2 v3 v4) e sz B v n xs :=
  ((((h.put ho ht 0 v0).put (ho.set 0 v0) ht 1 v1).put ((ho.set 0 v0).set 1 v1) ht 2 v2).put (((ho.set 0 v0).set 1 v1).set 2 v2) ht 3 v3).put ((((ho.set 0 v0).set 1 v1).set 2 v2).set 3 v3) ht 4 v4
theorem Two.fin5 {w W : World} {r : Nat} {a : Option Addr} {c : Nat} {xs : List Nat} {p q : Nat} {t : TypeId} {z : Array Value} {G1 : Nat} {cs : Array Value} (h : Two w W r a c xs q t z G1 cs) (h0 : RdAt w r a c xs p) (v0 v1 v2 v3 v4 : Value) : RdAt (putT W w.heap.size v0 v1 v2 v3 v4) r a c xs q ∧ RFr r w (putT W w.heap.size v0 v1 v2 v3 v4) := by
  have f2 : RFr r w (putT W w.heap.size v0 v1 v2 v3 v4) := ((((h.fr.set (g := w.heap.size) (.inl (Nat.le_refl _)) 0 v0).set (g := w.heap.size) (.inl (Nat.le_refl _)) 1 v1).set (g := w.heap.size) (.inl (Nat.le_refl _)) 2 v2).set (g := w.heap.size) (.inl (Nat.le_refl _)) 3 v3).set (g := w.heap.size) (.inl (Nat.le_refl _)) 4 v4
  have hne : r ≠ w.heap.size := by have := h.rl; omega
  exact ⟨h0.to f2 (((((h.rd.own.other hne v0).other hne v1).other hne v2).other hne v3).other hne v4) h.rd.le, f2⟩
abbrev zT : Array Value := #[.int .u8 0, .string ⟨#[]⟩, .slice none 0 0, .int .i64 0, .int .i64 0]
set_option maxHeartbeats 4000000 in
set_option maxRecDepth 100000 in
theorem typ_reads (r : Nat) (a : Option Addr) (c : Nat) (xs : List Nat) : Reads 60 (vEl kTy) rTy r a c xs := by
  intro w p h
  obtain ⟨R, HR⟩ : ∃ R, Hid (RRet r a c xs (vEl kTy) (rTy xs p) w = R) := ⟨_, rfl⟩
  rw [HR.out]
  have H0 : Hid (RdAt w r a c xs p) := h
  have f0 : RFr r w (w.alloc (.cells zT 49)) := (Fr.refl _ w).alloc _
  have d0 := h.to f0 (h.own.alloc _) h.le
  have HO0 : Hid (Own (w.alloc (.cells zT 49)) w.heap.size zT 49) := Own.new w zT 49
  have hrl : Hid (r < w.heap.size) := h.own.lt
  have hT := rkind_as d0
  have HF0 : Hid (RFr r w (w.alloc (.cells zT 49))) := f0
  clear h f0 d0
  go_enter Tryz.func60, Tryz.ntmps60
  cases hr : rKind xs p with
  | inl x =>
    rw [hr] at hT
    have HZ := fault_of HR (by unfold rTy; rw [hr]; rfl) HF0.out
    clear hr HF0 HO0 HR hrl H0
    go_wp2_with fail
    refine hT.mono ?_
    rintro e w1 ⟨rfl, hf⟩
    go_wp2
    exact ⟨rfl, HZ.out _ hf⟩
  | inr y =>
    obtain ⟨K, q⟩ := y
    rw [hr] at hT
    have hK := rKind_in hr
    go_wp2_with fail
    refine hT.mono ?_
    rintro e w1 ⟨⟨v, rfl, hv⟩, hd, hf⟩
    obtain rfl : v = .int .u8 (K : Int) := hv
    have f1 := HF0.out.trans hf
    have o0 := HO0.out.fr hf (by have := hrl.out; omega)
    have hT1 : Two w (w1.alloc (.cells #[.int .u8 (K : Int), .string ⟨#[]⟩, .slice none 0 0, .int .i64 0, .int .i64 0] 49)) r a c xs q 49 zT w1.heap.size #[.int .u8 (K : Int), .string ⟨#[]⟩, .slice none 0 0, .int .i64 0, .int .i64 0] :=
      ⟨H0.out.to (f1.alloc _) (hd.own.alloc _) hd.le, f1.alloc _, o0.alloc _, Own.new _ _ _, o0.lt, hrl.out⟩
    have HG : Hid (Two w (w1.alloc (.cells #[.int .u8 (K : Int), .string ⟨#[]⟩, .slice none 0 0, .int .i64 0, .int .i64 0] 49)) r a c xs q 49 zT w1.heap.size #[.int .u8 (K : Int), .string ⟨#[]⟩, .slice none 0 0, .int .i64 0, .int .i64 0]) := hT1
    have HRK : Hid (rKind xs p = .inr (K, q)) := hr
    clear hd hf f1 hT1 o0 HF0 HO0 hT hr
    rcases hK with rfl | rfl | rfl
    · have e0 : rTy xs p = (rText xs q).bind fun a q => (rList 32 rFl xs q).bind fun l r => .inr ((⟨6, a, l, 0, 0⟩ : Ty), r) := by unfold rTy; rw [HRK.out, Rs.bind_inr, if_pos rfl]
      have HE0 : Hid _ := e0
      have hX := rtext_as HG.out.rd
      clear e0 HRK
      go_wp2_with fail
      generalize w1.alloc (.cells #[.int .u8 ((6 : Nat) : Int), .string ⟨#[]⟩, .slice none 0 0, .int .i64 0, .int .i64 0] 49) = W1 at *
      generalize w1.heap.size = G1 at *
      cases hr : rText xs q with
      | inl x =>
        rw [hr] at hX
        have HZ := fault_of HR (by rw [HE0.out, hr]; rfl) HG.out.fr
        clear hr HR hrl H0 HG HE0
        refine hX.mono ?_
        rintro e w2 ⟨rfl, hf⟩
        go_wp2
        exact ⟨rfl, HZ.out _ hf⟩
      | inr y =>
        obtain ⟨nm, q2⟩ := y
        rw [hr] at hX
        have HE1 : Hid (rTy xs p = (rList 32 rFl xs q2).bind fun l r => .inr ((⟨6, nm, l, 0, 0⟩ : Ty), r)) := by rw [Hid, HE0.out, hr]; rfl
        clear hr HE0
        refine hX.mono ?_
        rintro e w2 ⟨⟨v, rfl, hv⟩, hd, hf⟩
        obtain rfl : v = .string nm := hv
        have T2 := HG.out.call hd hf
        have HT3 : Hid (Two w (w2.setCell ⟨G1, 1, none⟩ (.string nm)) r a c xs q2 49 zT G1 #[.int .u8 6, .string nm, .slice none 0 0, .int .i64 0, .int .i64 0]) := T2.set H0.out 1 (.string nm) (by simp)
        obtain ⟨y0, y1, y2, y3, y4, yf⟩ := T2.o1.c5
        have hX := rcount_as HT3.out.rd 32 (by omega)
        clear T2 hd hf HG
        go_wp2_with fail
        generalize w2.setCell ⟨G1, 1, none⟩ (.string nm) = W2 at *
        clear y0 y1 y2 y3 y4 yf
        cases hr : rCount 32 xs q2 with
        | inl x =>
          rw [hr] at hX
          have HZ := fault_of HR (by rw [HE1.out]; unfold rList; rw [hr]; rfl) HT3.out.fr
          clear hr HR hrl H0 HT3 HE1
          refine hX.mono ?_
          rintro e w3 ⟨rfl, hf⟩
          go_wp2
          exact ⟨rfl, HZ.out _ hf⟩
        | inr y =>
          obtain ⟨n, q3⟩ := y
          rw [hr] at hX
          have hn := rCount_in hr
          have HE2 : Hid (rTy xs p = (rSev (rFl xs) n q3).bind fun l r => .inr ((⟨6, nm, l, 0, 0⟩ : Ty), r)) := by rw [Hid, HE1.out]; unfold rList; rw [hr]; rfl
          clear hr HE1
          refine hX.mono ?_
          rintro e w3 ⟨⟨v, rfl, hv⟩, hd, hf⟩
          obtain rfl : v = .int .i64 (n : Int) := hv
          have HT4 : Hid _ := HT3.out.call hd hf
          have hX := sevFl_as HT4.out.rd n (by omega) (field_reads r a c xs)
          have HBS : Hid (w.heap.size ≤ w3.heap.size) := HT4.out.fr.size
          clear hd hf HT3
          go_wp2_with fail
          cases hr : rSev (rFl xs) n q3 with
          | inl x =>
            rw [hr] at hX
            have HZ := fault_of HR (by rw [HE2.out, hr]; rfl) HT4.out.fr
            clear hr HR hrl H0 HT4 HE2
            refine hX.mono ?_
            rintro e w4 ⟨rfl, hf⟩
            go_wp2
            exact ⟨rfl, HZ.out _ hf⟩
          | inr y =>
            obtain ⟨l, q4⟩ := y
            rw [hr] at hX
            have HZ := good_of HR (show rTy xs p = .inr ((⟨6, nm, l, 0, 0⟩ : Ty), q4) by rw [HE2.out, hr]; rfl)
            clear hr HE2 HR
            refine hX.mono ?_
            rintro e w4 ⟨⟨v, rfl, ms, hms, hrow, hnew, -⟩, hd, hf⟩
            obtain rfl : ms = l := by have h2 : ms.map kFl.sp = l := hms; rw [← h2]; exact (List.map_id ms).symm
            obtain ⟨fa, fc, rfl, -⟩ := hrow.shape
            have T5 := HT4.out.call hd hf
            have T6 := T5.set H0.out 2 (.slice fa ms.length fc) (cs' := #[.int .u8 6, .string nm, .slice fa ms.length fc, .int .i64 0, .int .i64 0]) (by simp)
            have R5 : Rwn w4 51 2 w.heap.size (.slice fa ms.length fc) ms.length (flC ms) := ⟨hrow, fun b e => Nat.le_trans HBS.out (hnew b e)⟩
            have R6 := R5.put T5.o1 (by decide) 2 (.slice fa ms.length fc)
            obtain ⟨y0, y1, y2, y3, y4, yf⟩ := T5.o1.c5
            obtain ⟨z0, z1, z2, z3, z4, zf⟩ := T5.o0.c5
            have HFIN : Hid (Own (putT (w4.setCell ⟨G1, 2, none⟩ (.slice fa ms.length fc)) w.heap.size (.int .u8 6) (.string nm) (.slice fa ms.length fc) (.int .i64 0) (.int .i64 0)) w.heap.size #[.int .u8 6, .string nm, .slice fa ms.length fc, .int .i64 0, .int .i64 0] 49) := own_putT T6.o0 _ _ _ _ _
            have hZ : Hid (R (.returned (.agg #[.int .u8 6, .string nm, .slice fa ms.length fc, .int .i64 0, .int .i64 0])) (putT (w4.setCell ⟨G1, 2, none⟩ (.slice fa ms.length fc)) w.heap.size (.int .u8 6) (.string nm) (.slice fa ms.length fc) (.int .i64 0) (.int .i64 0))) :=
              HZ.out _ _ ⟨⟨⟨6, nm, ms, 0, 0⟩, fa, fc⟩, rfl, rfl, R6.putT T6.o0 (by decide) _ _ _ _ _⟩ (T6.fin5 H0.out _ _ _ _ _).1 (T6.fin5 H0.out _ _ _ _ _).2
            have hgg : ¬ G1 = w.heap.size := by have := T5.g1; omega
            have hgg2 : ¬ w.heap.size = G1 := by have := T5.g1; omega
            clear hd hf HT4 T5 T6 R5 R6 hrow hnew HZ hms hX H0 hrl HBS
            generalize w.heap.size = G0 at *
            generalize ms.length = L at *
            dsimp only at *
            go_wp2
            refine bodyPost_cell1 (g := G0) (t := 49) rfl rfl rfl HFIN.out Tryz.underlying49 rfl (by kernel_rfl) ?_
            exact hZ.out
    · have HE0 : Hid (rTy xs p = (rNum xs q).bind fun e q => (rNum xs q).bind fun n r => .inr ((⟨7, ⟨#[]⟩, [], e, n⟩ : Ty), r)) := by unfold Hid rTy; rw [HRK.out, Rs.bind_inr, if_neg (by omega), if_pos rfl]
      have hX := rnumber_as HG.out.rd
      clear HRK
      go_wp2_with fail
      generalize w1.alloc (.cells #[.int .u8 ((7 : Nat) : Int), .string ⟨#[]⟩, .slice none 0 0, .int .i64 0, .int .i64 0] 49) = W1 at *
      generalize w1.heap.size = G1 at *
      cases hr : rNum xs q with
      | inl x =>
        rw [hr] at hX
        have HZ := fault_of HR (by rw [HE0.out, hr]; rfl) HG.out.fr
        clear hr HR hrl H0 HG HE0
        refine hX.mono ?_
        rintro e w2 ⟨rfl, hf⟩
        go_wp2
        exact ⟨rfl, HZ.out _ hf⟩
      | inr y =>
        obtain ⟨el, q2⟩ := y
        rw [hr] at hX
        have HE1 : Hid (rTy xs p = (rNum xs q2).bind fun n r => .inr ((⟨7, ⟨#[]⟩, [], el, n⟩ : Ty), r)) := by rw [Hid, HE0.out, hr]; rfl
        clear hr HE0
        refine hX.mono ?_
        rintro e w2 ⟨⟨v, rfl, hv⟩, hd, hf⟩
        obtain rfl : v = .int .i64 el := hv
        have T2 := HG.out.call hd hf
        have HT3 : Hid (Two w (w2.setCell ⟨G1, 3, none⟩ (.int .i64 el)) r a c xs q2 49 zT G1 #[.int .u8 7, .string ⟨#[]⟩, .slice none 0 0, .int .i64 el, .int .i64 0]) := T2.set H0.out 3 (.int .i64 el) (by simp)
        obtain ⟨y0, y1, y2, y3, y4, yf⟩ := T2.o1.c5
        have hX := rnumber_as HT3.out.rd
        clear T2 hd hf HG
        go_wp2_with fail
        generalize w2.setCell ⟨G1, 3, none⟩ (.int .i64 el) = W2 at *
        clear y0 y1 y2 y3 y4 yf
        cases hr : rNum xs q2 with
        | inl x =>
          rw [hr] at hX
          have HZ := fault_of HR (by rw [HE1.out, hr]; rfl) HT3.out.fr
          clear hr HR hrl H0 HT3 HE1
          refine hX.mono ?_
          rintro e w3 ⟨rfl, hf⟩
          go_wp2
          exact ⟨rfl, HZ.out _ hf⟩
        | inr y =>
          obtain ⟨ln, q3⟩ := y
          rw [hr] at hX
          have HZ := good_of HR (show rTy xs p = .inr ((⟨7, ⟨#[]⟩, [], el, ln⟩ : Ty), q3) by rw [HE1.out, hr]; rfl)
          clear hr HE1 HR
          refine hX.mono ?_
          rintro e w3 ⟨⟨v, rfl, hv⟩, hd, hf⟩
          obtain rfl : v = .int .i64 ln := hv
          have T5 := HT3.out.call hd hf
          have T6 := T5.set H0.out 4 (.int .i64 ln) (cs' := #[.int .u8 7, .string ⟨#[]⟩, .slice none 0 0, .int .i64 el, .int .i64 ln]) (by simp)
          have hZ : Hid (R (.returned (.agg #[.int .u8 7, .string ⟨#[]⟩, .slice none 0 0, .int .i64 el, .int .i64 ln])) (putT (w3.setCell ⟨G1, 4, none⟩ (.int .i64 ln)) w.heap.size (.int .u8 7) (.string ⟨#[]⟩) (.slice none 0 0) (.int .i64 el) (.int .i64 ln))) :=
            HZ.out _ _ ⟨⟨⟨7, ⟨#[]⟩, [], el, ln⟩, none, 0⟩, rfl, rfl, World.ownsRow_nil _ _ _ _, fun b e => by cases e⟩ (T6.fin5 H0.out _ _ _ _ _).1 (T6.fin5 H0.out _ _ _ _ _).2
          have HFIN : Hid (Own (putT (w3.setCell ⟨G1, 4, none⟩ (.int .i64 ln)) w.heap.size (.int .u8 7) (.string ⟨#[]⟩) (.slice none 0 0) (.int .i64 el) (.int .i64 ln)) w.heap.size #[.int .u8 7, .string ⟨#[]⟩, .slice none 0 0, .int .i64 el, .int .i64 ln] 49) := own_putT T6.o0 _ _ _ _ _
          obtain ⟨y0, y1, y2, y3, y4, yf⟩ := T5.o1.c5
          obtain ⟨z0, z1, z2, z3, z4, zf⟩ := T5.o0.c5
          have hgg : ¬ G1 = w.heap.size := by have := T5.g1; omega
          have hgg2 : ¬ w.heap.size = G1 := by have := T5.g1; omega
          clear hd hf HT3 T5 T6 HZ hX H0 hrl
          generalize w.heap.size = G0 at *
          dsimp only at *
          go_wp2
          refine bodyPost_cell1 (g := G0) (t := 49) rfl rfl rfl HFIN.out Tryz.underlying49 rfl (by kernel_rfl) ?_
          exact hZ.out
    · have HE0 : Hid (rTy xs p = (rNum xs q).bind fun e r => .inr ((⟨8, ⟨#[]⟩, [], e, 0⟩ : Ty), r)) := by unfold Hid rTy; rw [HRK.out, Rs.bind_inr, if_neg (by omega), if_neg (by omega)]
      have hX := rnumber_as HG.out.rd
      clear HRK
      go_wp2_with fail
      generalize w1.alloc (.cells #[.int .u8 ((8 : Nat) : Int), .string ⟨#[]⟩, .slice none 0 0, .int .i64 0, .int .i64 0] 49) = W1 at *
      generalize w1.heap.size = G1 at *
      cases hr : rNum xs q with
      | inl x =>
        rw [hr] at hX
        have HZ := fault_of HR (by rw [HE0.out, hr]; rfl) HG.out.fr
        clear hr HR hrl H0 HG HE0
        refine hX.mono ?_
        rintro e w2 ⟨rfl, hf⟩
        go_wp2
        exact ⟨rfl, HZ.out _ hf⟩
      | inr y =>
        obtain ⟨el, q2⟩ := y
        rw [hr] at hX
        have HZ := good_of HR (show rTy xs p = .inr ((⟨8, ⟨#[]⟩, [], el, 0⟩ : Ty), q2) by rw [HE0.out, hr]; rfl)
        clear hr HE0 HR
        refine hX.mono ?_
        rintro e w2 ⟨⟨v, rfl, hv⟩, hd, hf⟩
        obtain rfl : v = .int .i64 el := hv
        have T5 := HG.out.call hd hf
        have T6 := T5.set H0.out 3 (.int .i64 el) (cs' := #[.int .u8 8, .string ⟨#[]⟩, .slice none 0 0, .int .i64 el, .int .i64 0]) (by simp)
        have hZ : Hid (R (.returned (.agg #[.int .u8 8, .string ⟨#[]⟩, .slice none 0 0, .int .i64 el, .int .i64 0])) (putT (w2.setCell ⟨G1, 3, none⟩ (.int .i64 el)) w.heap.size (.int .u8 8) (.string ⟨#[]⟩) (.slice none 0 0) (.int .i64 el) (.int .i64 0))) :=
          HZ.out _ _ ⟨⟨⟨8, ⟨#[]⟩, [], el, 0⟩, none, 0⟩, rfl, rfl, World.ownsRow_nil _ _ _ _, fun b e => by cases e⟩ (T6.fin5 H0.out _ _ _ _ _).1 (T6.fin5 H0.out _ _ _ _ _).2
        have HFIN : Hid (Own (putT (w2.setCell ⟨G1, 3, none⟩ (.int .i64 el)) w.heap.size (.int .u8 8) (.string ⟨#[]⟩) (.slice none 0 0) (.int .i64 el) (.int .i64 0)) w.heap.size #[.int .u8 8, .string ⟨#[]⟩, .slice none 0 0, .int .i64 el, .int .i64 0] 49) := own_putT T6.o0 _ _ _ _ _
        obtain ⟨y0, y1, y2, y3, y4, yf⟩ := T5.o1.c5
        obtain ⟨z0, z1, z2, z3, z4, zf⟩ := T5.o0.c5
        have hgg : ¬ G1 = w.heap.size := by have := T5.g1; omega
        have hgg2 : ¬ w.heap.size = G1 := by have := T5.g1; omega
        clear hd hf HG T5 T6 HZ hX H0 hrl
        generalize w.heap.size = G0 at *
        dsimp only at *
        go_wp2
        refine bodyPost_cell1 (g := G0) (t := 49) rfl rfl rfl HFIN.out Tryz.underlying49 rfl (by kernel_rfl) ?_
        exact hZ.out
end Go.Proofs.YtmmbdpdpkkikjaaGreat
