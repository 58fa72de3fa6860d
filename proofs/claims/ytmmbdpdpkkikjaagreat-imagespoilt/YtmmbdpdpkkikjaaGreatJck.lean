/-
  image.Check's parts: a function that may be.
  image.Check's parts: a function.
  image.Check's parts: a function, an error.
  image.Check's parts: a whole module.
-/
import Derived.Test.YtmmbdpdpkkikjaaGreatJtz
import Derived.Test.YtmmbdpdpkkikjaaGreatJal
namespace Go.Proofs.YtmmbdpdpkkikjaaGreat
open Go.RowKit
set_option linter.unusedVariables false

theorem allR_ok (xs : List Nat) (hb : ∀ c ∈ xs, c < 256) : ∀ (f p : Nat), ∀ x ∈ (allR xs f p).1, x.ok = true := by
  intro f
  induction f with
  | zero => intro p x hx; cases hx
  | succ f ih =>
    intro p x hx
    unfold allR at hx
    by_cases h1 : xs.length ≤ p
    · rw [if_pos h1] at hx; cases hx
    · rw [if_neg h1] at hx
      simp only at hx
      by_cases h2 : (dec xs p).2.2 ≠ 0
      · rw [if_pos h2] at hx; cases hx
      · rw [if_neg h2] at hx
        by_cases h3 : (allR xs f (dec xs p).2.1).2.2 ≠ 0
        · rw [if_pos h3] at hx; cases hx
        · rw [if_neg h3] at hx
          rcases List.mem_cons.1 hx with rfl | hx
          · cases hd : dec xs p with
            | mk X q =>
              obtain ⟨q, er⟩ := q
              rw [hd] at h2
              have h0 : er = 0 := by simpa using h2
              subst h0
              exact (dec_forth xs hb p X q hd).2.2.2.1
          · exact ih _ x hx
theorem may_in' {k : Nm} (hk : k.Ok) {n : Int} (h : k.may n = true) : -9223372036854775808 ≤ n ∧ n ≤ 9223372036854775807 := by
  have := of_decide_eq_true h
  have := hk.l64
  have := hk.h64
  omega
/-- What is an instruction has numbers in bounds. -/
theorem ok_in' {x : In} (h : x.ok = true) : x.op < 256 ∧ (-9223372036854775808 ≤ x.a ∧ x.a ≤ 9223372036854775807) ∧ (-9223372036854775808 ≤ x.b ∧ x.b ≤ 9223372036854775807) ∧ (∀ y ∈ x.arms, (-9223372036854775808 ≤ y.1 ∧ y.1 ≤ 9223372036854775807) ∧ (-9223372036854775808 ≤ y.2 ∧ y.2 ≤ 9223372036854775807)) ∧ x.arms.length ≤ 65535 := by
  unfold In.ok at h
  cases hl : lay x.op with
  | none => rw [hl] at h; cases h
  | some l =>
    rw [hl] at h
    simp only [Lay.has, Bool.and_eq_true] at h
    obtain ⟨h1, h2, h3⟩ := h
    obtain ⟨hok, ho1, ho2⟩ := lay_ok hl
    refine ⟨by omega, may_in' hok.a h1, may_in' hok.b h2, ?_⟩
    unfold Lay.hasArms at h3
    by_cases ha : l.arms = true
    · rw [if_pos ha, Bool.and_eq_true, decide_eq_true_eq, List.all_eq_true] at h3
      refine ⟨fun y hy => ?_, h3.1⟩
      have := h3.2 y hy
      rw [Bool.and_eq_true] at this
      exact ⟨may_in' (okVal _) this.1, may_in' okPlace this.2⟩
    · rw [if_neg ha] at h3
      rw [List.isEmpty_iff.1 h3]
      exact ⟨by simp, by simp⟩
def insMay (m : MoP) (lo : Int) (x : In) : Bool := if (x.op = 7 ∨ x.op = 8) ∧ lo ≤ x.a then false else decide ((takM m x).2 = 0)
def codeMay (m : MoP) (lo : Int) (code : List Nat) : Bool := decide ((allD code).2.2 = 0) && (allD code).1.all (insMay m lo)
def roFit (r : Ro) : Bool := decide (r.params.length ≤ 32) && (decide (r.results.length ≤ 8) && (decide (r.locals ≤ 256) && (decide (r.code.length ≤ 65536) && (decide (r.name.size ≤ 65536) && decide (r.stack ≤ 4096)))))
def roMay (m : MoP) (r : Ro) : Bool := r.params.all (thr m.tys.length) && (r.results.all (thr m.tys.length) && (decide ((r.params.length : Int) ≤ r.locals) && (decide (0 ≤ r.stack) && codeMay m r.locals r.code)))
def roErr (m : MoP) (r : Ro) : Nat := if roFit r = true then (if roMay m r = true then 0 else 130) else 3
set_option maxHeartbeats 2000000 in
set_option maxRecDepth 100000 in
theorem insMay_as {w : World} {m : MoP} (hm : MoIn w m) (hs : Small m 100000) {x : In} {ao : Option Addr} {cp : Nat} (hl : InLies w x ao) (n : Nat) (hn : n = x.arms.length) (hmx : n ≤ 1000000) (lo : Int) (hlo : N64 lo) :
    Calls Tryz.prog 157 #[insV x (.slice ao n cp), .int .i64 lo, .agg m.cs] w fun e w' => e = .returned (.bool (insMay m lo x)) ∧ Below w.heap.size w w' := by
  obtain ⟨R, HR⟩ : ∃ R, Hid (insMay m lo x = R) := ⟨_, rfl⟩
  rw [HR.out]
  have HTK : Hid (∀ W, Below w.heap.size w W → Calls Tryz.prog 160 #[insV x (.slice ao n cp), .agg m.cs] W (TakRet W (takM m x))) := fun W hb => takes_as (hm.below hb) hs (hl.below hb) n hn hmx
  have HR2 : Hid (R = if (x.op = 7 ∨ x.op = 8) ∧ lo ≤ x.a then false else decide ((takM m x).2 = 0)) := by rw [Hid, ← HR.out]; rfl
  clear hm hs hl hn hmx HR
  generalize takM m x = T at *
  unfold MoP.cs insV at *
  generalize m.tys.length = n1 at *
  generalize m.txs.length = n2 at *
  generalize m.fns.length = n3 at *
  generalize x.a = A at *
  obtain ⟨OP, hOP⟩ : ∃ OP : Int, (x.op : Int) = OP := ⟨_, rfl⟩
  have HOP : Hid ((x.op : Int) = OP) := hOP
  rw [hOP] at HTK ⊢
  clear hOP hlo
  have ox := Own.new w #[.int .u8 OP, .int .i64 A, .int .i64 x.b, .slice ao n cp] 59
  have bx := new_below w (.cells #[.int .u8 OP, .int .i64 A, .int .i64 x.b, .slice ao n cp] 59)
  go_enter Tryz.func157, Tryz.ntmps157
  go_upto_region 1 with fail
  have e1 : (w.alloc (.cells #[.int .u8 OP, .int .i64 A, .int .i64 x.b, .slice ao n cp] 59)).heap.size = w.heap.size + 1 := World.size_alloc _ _
  generalize w.alloc (.cells #[.int .u8 OP, .int .i64 A, .int .i64 x.b, .slice ao n cp] 59) = w1 at *
  have om := Own.new w1 #[.slice m.ta n1 m.tc, .slice m.sa n2 m.sc, .slice m.fa n3 m.fc] 26
  have bm := new_below w1 (.cells #[.slice m.ta n1 m.tc, .slice m.sa n2 m.sc, .slice m.fa n3 m.fc] 26)
  have ox1 := ox.below bm
  have b2 := bx.trans (bm.mono bx.size)
  rw [e1] at om
  clear ox bx bm e1
  generalize w1.alloc (.cells #[.slice m.ta n1 m.tc, .slice m.sa n2 m.sc, .slice m.fa n3 m.fc] 26) = w2 at *
  obtain ⟨x0, x1, x2, x3, xf⟩ := own4 ox1
  obtain ⟨m0, m1, m2, mf⟩ := own3 om
  by_cases h7 : OP = 7
  · by_cases hA : lo ≤ A
    · obtain rfl : R = false := by have := HOP.out; rw [HR2.out, if_pos ⟨by omega, hA⟩]
      subst h7
      clear HR2 HOP HTK
      go_wp2
      go_ret
      exact ⟨rfl, b2⟩
    · have HR3 : Hid (R = decide (T.2 = 0)) := by rw [Hid, HR2.out, if_neg (by omega)]
      subst h7
      clear HR2 HOP
      have hC := HTK.out w2 b2
      go_wp2_with fail
      refine hC.mono ?_
      rintro e w3 ⟨ta, tc, pa, pc, rfl, -, -, k3⟩
      have b3 := b2.trans (k3.mono b2.size)
      clear hC x0 x1 x2 x3 xf m0 m1 m2 mf k3 ox1 om b2 HTK
      obtain ⟨⟨T1, T2⟩, T3⟩ := T
      by_cases h0 : T3 = 0
      · subst h0
        obtain rfl : R = true := by rw [HR3.out]; rfl
        clear HR3
        go_wp2
        go_ret
        exact ⟨rfl, b3⟩
      · obtain rfl : R = false := by rw [HR3.out]; simp [h0]
        have hd : ((T3 : Int) == 0) = false := by simp; omega
        clear HR3
        go_wp2
        go_ret
        exact ⟨rfl, b3⟩
  · have q7 : (OP == 7) = false := by simp [h7]
    by_cases h8 : OP = 8
    · by_cases hA : lo ≤ A
      · obtain rfl : R = false := by have := HOP.out; rw [HR2.out, if_pos ⟨by omega, hA⟩]
        subst h8
        clear HR2 HOP HTK h7
        go_wp2
        go_ret
        exact ⟨rfl, b2⟩
      · have HR3 : Hid (R = decide (T.2 = 0)) := by rw [Hid, HR2.out, if_neg (by omega)]
        subst h8
        clear HR2 HOP h7
        have hC := HTK.out w2 b2
        go_wp2_with fail
        refine hC.mono ?_
        rintro e w3 ⟨ta, tc, pa, pc, rfl, -, -, k3⟩
        have b3 := b2.trans (k3.mono b2.size)
        clear hC x0 x1 x2 x3 xf m0 m1 m2 mf k3 ox1 om b2 HTK
        obtain ⟨⟨T1, T2⟩, T3⟩ := T
        by_cases h0 : T3 = 0
        · subst h0
          obtain rfl : R = true := by rw [HR3.out]; rfl
          clear HR3
          go_wp2
          go_ret
          exact ⟨rfl, b3⟩
        · obtain rfl : R = false := by rw [HR3.out]; simp [h0]
          have hd : ((T3 : Int) == 0) = false := by simp; omega
          clear HR3
          go_wp2
          go_ret
          exact ⟨rfl, b3⟩
    · have q8 : (OP == 8) = false := by simp [h8]
      have HR3 : Hid (R = decide (T.2 = 0)) := by have := HOP.out; rw [Hid, HR2.out, if_neg (by omega)]
      clear HR2 HOP h7 h8
      have hC := HTK.out w2 b2
      go_wp2_with fail
      refine hC.mono ?_
      rintro e w3 ⟨ta, tc, pa, pc, rfl, -, -, k3⟩
      have b3 := b2.trans (k3.mono b2.size)
      clear hC x0 x1 x2 x3 xf m0 m1 m2 mf k3 ox1 om b2 HTK
      obtain ⟨⟨T1, T2⟩, T3⟩ := T
      by_cases h0 : T3 = 0
      · subst h0
        obtain rfl : R = true := by rw [HR3.out]; rfl
        clear HR3
        go_wp2
        go_ret
        exact ⟨rfl, b3⟩
      · obtain rfl : R = false := by rw [HR3.out]; simp [h0]
        have hd : ((T3 : Int) == 0) = false := by simp; omega
        clear HR3
        go_wp2
        go_ret
        exact ⟨rfl, b3⟩
set_option maxHeartbeats 2000000 in
set_option maxRecDepth 100000 in
theorem funcFits_as {w : World} (r : RoP) : Calls Tryz.prog 120 #[.agg (roA r)] w fun e w' => e = .returned (.bool (roFit r.r)) ∧ Below w.heap.size w w' := by
  obtain ⟨R, HR⟩ : ∃ R, Hid (roFit r.r = R) := ⟨_, rfl⟩
  rw [HR.out]
  have HR2 : Hid (R = (decide ((r.r.params.length : Int) ≤ 32) && (decide ((r.r.results.length : Int) ≤ 8) && (decide (r.r.locals ≤ 256) && (decide ((r.r.code.length : Int) ≤ 65536) && (decide ((r.r.name.size : Int) ≤ 65536) && decide (r.r.stack ≤ 4096))))))) := by
    rw [Hid, ← HR.out]; unfold roFit
    congr 1
    · exact decide_eq_decide.2 (by omega)
    · congr 1
      · exact decide_eq_decide.2 (by omega)
      · congr 1
        congr 1
        · exact decide_eq_decide.2 (by omega)
        · congr 1
          exact decide_eq_decide.2 (by omega)
  have o0 := Own.new w (roA r) 55
  have b0 := new_below w (.cells (roA r) 55)
  clear HR
  unfold roA at *
  generalize r.r.params.length = n1 at *
  generalize r.r.results.length = n2 at *
  generalize r.r.code.length = n3 at *
  generalize r.r.name = nm at *
  generalize r.r.locals = L at *
  generalize r.r.stack = S at *
  go_enter Tryz.func120, Tryz.ntmps120
  go_upto_region 1 with fail
  generalize w.alloc _ = w1 at *
  obtain ⟨x0, x1, x2, x3, x4, x5, xf⟩ := own6 o0
  clear o0
  cases d0 : decide ((n1 : Int) ≤ 32) with
  | false =>
    obtain rfl : R = false := by rw [HR2.out, d0]; simp
    clear HR2
    go_wp2
    go_ret
    exact ⟨rfl, b0⟩
  | true =>
    cases d1 : decide ((n2 : Int) ≤ 8) with
    | false =>
      obtain rfl : R = false := by rw [HR2.out, d1]; simp
      clear HR2
      go_wp2
      go_ret
      exact ⟨rfl, b0⟩
    | true =>
      cases d2 : decide (L ≤ 256) with
      | false =>
        obtain rfl : R = false := by rw [HR2.out, d2]; simp
        clear HR2
        go_wp2
        go_ret
        exact ⟨rfl, b0⟩
      | true =>
        cases d3 : decide ((n3 : Int) ≤ 65536) with
        | false =>
          obtain rfl : R = false := by rw [HR2.out, d3]; simp
          clear HR2
          go_wp2
          go_ret
          exact ⟨rfl, b0⟩
        | true =>
          cases d4 : decide ((nm.size : Int) ≤ 65536) with
          | false =>
            obtain rfl : R = false := by rw [HR2.out, d4]; simp
            clear HR2
            go_wp2
            go_ret
            exact ⟨rfl, b0⟩
          | true =>
            obtain rfl : R = decide (S ≤ 4096) := by rw [HR2.out, d0, d1, d2, d3, d4]; simp
            clear HR2
            go_wp2
            go_ret
            exact ⟨rfl, b0⟩
end Go.Proofs.YtmmbdpdpkkikjaaGreat
namespace Go.Proofs.YtmmbdpdpkkikjaaGreat
open Go.RowKit
set_option linter.unusedVariables false

theorem getD_map_fst (ps : List (In × Value)) (k : Nat) (h : k < ps.length) : (ps.map Prod.fst).getD k zI = (ps.getD k (zI, undef)).1 := by
  simp [List.getD, h]
theorem allR_len (xs : List Nat) (hb : ∀ c ∈ xs, c < 256) : ∀ (f p : Nat), (allR xs f p).1.length ≤ f := by
  intro f
  induction f with
  | zero => intro p; exact Nat.le_refl _
  | succ f ih =>
    intro p
    unfold allR
    by_cases h1 : xs.length ≤ p
    · rw [if_pos h1]; exact Nat.zero_le _
    · rw [if_neg h1]
      simp only
      by_cases h2 : (dec xs p).2.2 ≠ 0
      · rw [if_pos h2]; exact Nat.zero_le _
      · rw [if_neg h2]
        by_cases h3 : (allR xs f (dec xs p).2.1).2.2 ≠ 0
        · rw [if_pos h3]; exact Nat.zero_le _
        · rw [if_neg h3]; simp only [List.length_cons]; have := ih (dec xs p).2.1; omega
theorem infoR : (Tryz.prog.info? 59).map (·.size) = some 4 := by kernel_rfl
set_option maxHeartbeats 2000000 in
set_option maxRecDepth 100000 in
theorem codeMay_as {w : World} {m : MoP} (hm : MoIn w m) (hs : Small m 100000) {r : RoP} (hr : RoIn w r) (hc : r.r.code.length ≤ 100000) :
    Calls Tryz.prog 149 #[.agg (roA r), .agg m.cs] w fun e w' => e = .returned (.bool (codeMay m r.r.locals r.r.code)) ∧ Below w.heap.size w w' := by
  obtain ⟨R, HR⟩ : ∃ R, Hid (codeMay m r.r.locals r.r.code = R) := ⟨_, rfl⟩
  rw [HR.out]
  have HAL : Hid (∀ W, Below w.heap.size w W → Calls Tryz.prog 156 #[.slice r.ca r.r.code.length r.cc] W (AllRet W (allD r.r.code))) := fun W hb => all_as (hr.code.below hb) rfl (by omega)
  have HIN : Hid (∀ W x ao cp n, Below w.heap.size w W → InLies W x ao → n = x.arms.length → n ≤ 1000000 → Calls Tryz.prog 157 #[insV x (.slice ao n cp), .int .i64 r.r.locals, .agg m.cs] W fun e w' => e = .returned (.bool (insMay m r.r.locals x)) ∧ Below W.heap.size W w') := fun W x ao cp n hb hl hn hx => insMay_as (hm.below hb) hs hl n hn hx _ hr.locals
  have HOK : Hid (∀ x ∈ (allD r.r.code).1, x.ok = true) := allR_ok _ hr.code.1 _ _
  have HR2 : Hid (R = (decide ((allD r.r.code).2.2 = 0) && (allD r.r.code).1.all (insMay m r.r.locals))) := by rw [Hid, ← HR.out]; rfl
  have HLEN : Hid ((allD r.r.code).1.length ≤ 100000) := by
    have := allR_len r.r.code hr.code.1 r.r.code.length 0
    unfold Hid allD; omega
  clear hm hs hr hc HR
  have o0 := Own.new w (roA r) 55
  have b0 := new_below w (.cells (roA r) 55)
  unfold roA MoP.cs at *
  generalize allD r.r.code = AD at *
  generalize insMay m r.r.locals = IM at *
  generalize r.r.params.length = np at *
  generalize r.r.results.length = nr at *
  generalize r.r.code.length = nc at *
  generalize r.r.name = nm at *
  generalize r.r.locals = lo at *
  generalize r.r.stack = st at *
  generalize m.tys.length = n1 at *
  generalize m.txs.length = n2 at *
  generalize m.fns.length = n3 at *
  go_enter Tryz.func149, Tryz.ntmps149
  go_upto_region 1 with fail
  have e1 : (w.alloc (.cells #[.string nm, .slice r.pa np r.pc, .slice r.ra nr r.rc, .int .i64 lo, .int .i64 st, .slice r.ca nc r.cc] 55)).heap.size = w.heap.size + 1 := World.size_alloc _ _
  generalize w.alloc (.cells #[.string nm, .slice r.pa np r.pc, .slice r.ra nr r.rc, .int .i64 lo, .int .i64 st, .slice r.ca nc r.cc] 55) = w1 at *
  have om := Own.new w1 #[.slice m.ta n1 m.tc, .slice m.sa n2 m.sc, .slice m.fa n3 m.fc] 26
  have bm := new_below w1 (.cells #[.slice m.ta n1 m.tc, .slice m.sa n2 m.sc, .slice m.fa n3 m.fc] 26)
  have o2 := o0.below bm
  have b2 := b0.trans (bm.mono b0.size)
  rw [e1] at om
  clear o0 b0 bm e1
  generalize w1.alloc (.cells #[.slice m.ta n1 m.tc, .slice m.sa n2 m.sc, .slice m.fa n3 m.fc] 26) = w2 at *
  obtain ⟨x0, x1, x2, x3, x4, x5, xf⟩ := own6 o2
  obtain ⟨m0, m1, m2, mf⟩ := own3 om
  have hC := HAL.out w2 b2
  obtain ⟨AL, AP, AE⟩ := AD
  go_wp2_with fail
  refine hC.mono ?_
  rintro e w3 ⟨vl, vp, ps, rfl, hps, hrow, -, -, k3⟩
  have o3 := o2.below k3
  have om3 := om.below k3
  have b3 := b2.trans (k3.mono b2.size)
  clear hC x0 x1 x2 x3 x4 x5 xf m0 m1 m2 mf k3 o2 om b2 HAL
  simp only at hps HR2 HOK HLEN
  have HPS : Hid (ps.map Prod.fst = AL) := hps
  have HPL : Hid (ps.length ≤ 100000) := by have := HLEN.out; rw [← hps, List.length_map] at this; exact this
  clear hps HLEN
  by_cases h0 : AE = 0
  · subst h0
    have HR3 : Hid (R = AL.all IM) := by rw [Hid, HR2.out]; simp
    clear HR2
    obtain ⟨al, cl, rfl, -⟩ := hrow.row.shape
    obtain ⟨N, hN⟩ : ∃ N, N = ps.length := ⟨_, rfl⟩
    have HN : Hid (N = ps.length) := hN
    rw [← hN] at hrow ⊢
    clear hN
    have REL : Hid (Own w3 w.heap.size #[.string nm, .slice r.pa np r.pc, .slice r.ra nr r.rc, .int .i64 lo, .int .i64 st, .slice r.ca nc r.cc] 55 ∧ Own w3 (w.heap.size + 1) #[.slice m.ta n1 m.tc, .slice m.sa n2 m.sc, .slice m.fa n3 m.fc] 26 ∧ InsRow w3 0 (.slice al N cl) ps ∧ Below w.heap.size w w3) := ⟨o3, om3, ⟨hrow.row, fun _ _ => Nat.zero_le _, fun y hy => ⟨(hrow.arms y hy).1, fun _ _ => Nat.zero_le _⟩⟩, b3⟩
    clear o3 om3 b3 hrow
    go_upto_region 4 with fail
    go_wp2_with fail
    go_loopw [21] (fun i wr => ∃ k : Nat, k ≤ N ∧ i = .int .i64 (k : Int) ∧ (∀ j, j < k → IM (ps.getD j (zI, undef)).1 = true) ∧ Own wr w.heap.size #[.string nm, .slice r.pa np r.pc, .slice r.ra nr r.rc, .int .i64 lo, .int .i64 st, .slice r.ca nc r.cc] 55 ∧ Own wr (w.heap.size + 1) #[.slice m.ta n1 m.tc, .slice m.sa n2 m.sc, .slice m.fa n3 m.fc] 26 ∧ InsRow wr 0 (.slice al N cl) ps ∧ Below w.heap.size w wr) (fun i _ => N - (intOf i).toNat)
    case atStart => exact ⟨0, Nat.zero_le _, rfl, fun j hj => by omega, REL.out⟩
    case round =>
      clear REL
      obtain ⟨k, hk, rfl, hpre, ho, hom, hrow, hb⟩ := hrel
      have HP : Hid (∀ j, j < k → IM (ps.getD j (zI, undef)).1 = true) := hpre
      clear hpre
      by_cases hlt : k < N
      · have hka : k < ps.length := by rw [← HN.out]; exact hlt
        obtain ⟨y, HY⟩ : ∃ y, Hid (ps.getD k (zI, undef) = y) := ⟨_, rfl⟩
        have hmem : y ∈ ps := by rw [← HY.out]; exact getD_in hka
        obtain ⟨i0, i1, i2, i3⟩ := insC_get ps k hka
        rw [HY.out] at i0 i1 i2 i3
        have hxok : y.1.ok = true := HOK.out y.1 (by rw [← HPS.out]; exact List.mem_map.2 ⟨y, hmem, rfl⟩)
        obtain ⟨q1, q2, q3, q4, q5⟩ := ok_in' hxok
        obtain ⟨ao, cp, hyv, hal⟩ := rw_armLies (hrow.arms y hmem).1 q4
        have hrr := hrow.row
        rw [← HN.out] at hrr
        obtain ⟨g, cap, cur, hge, -⟩ := hrr.block (by omega)
        have c0 := hge ▸ hrr
        cases hge
        have d0 := Rw.cells hrr _ _ i0
        have d1 := Rw.cells hrr _ _ i1
        have d2 := Rw.cells hrr _ _ i2
        have d3 := Rw.cells hrr _ _ i3
        obtain ⟨x, v⟩ := y
        simp only at hyv hal q1 q2 q3 q4 q5 d0 d1 d2 d3 hxok
        subst hyv
        have oX := Own.new wr #[.int .u8 (x.op : Int), .int .i64 x.a, .int .i64 x.b, .slice ao x.arms.length cp] 59
        have bX := new_below wr (.cells #[.int .u8 (x.op : Int), .int .i64 x.a, .int .i64 x.b, .slice ao x.arms.length cp] 59)
        have hal2 := hal.below bX
        have ho2 := ho.below bX
        have hom2 := hom.below bX
        have hrow2 := hrow.below bX
        have hb2 := hb.trans (bX.mono hb.size)
        clear c0 i0 i1 i2 i3 hrr ho hom hrow hb bX hal hmem
        go_upto_region 7 with fail
        clear d0 d1 d2 d3
        generalize wr.alloc (.cells #[.int .u8 (x.op : Int), .int .i64 x.a, .int .i64 x.b, .slice ao x.arms.length cp] 59) = w5 at *
        have hC := HIN.out w5 x ao cp _ hb2 ⟨q1, q2, q3, hal2⟩ rfl (by omega)
        obtain ⟨y0, y1, y2, y3, yf⟩ := own4 oX
        obtain ⟨x0, x1, x2, x3, x4, x5, xf⟩ := own6 ho2
        obtain ⟨m0, m1, m2, mf⟩ := own3 hom2
        obtain ⟨T, HT⟩ : ∃ T, Hid (IM x = T) := ⟨_, rfl⟩
        rw [HT.out] at hC
        clear q1 q2 q3 q4 q5 hxok hal2
        go_wp2_with fail
        refine hC.mono ?_
        rintro e w6 ⟨rfl, k6⟩
        have ho6 := ho2.below k6
        have hom6 := hom2.below k6
        have hrow6 := hrow2.below k6
        have hb6 := hb2.trans (k6.mono hb2.size)
        clear hC x0 x1 x2 x3 x4 x5 xf m0 m1 m2 mf k6 ho2 hom2 hrow2 hb2 y0 y1 y2 y3 yf oX
        cases T with
        | true =>
          have HP2 : Hid (∀ j, j < k + 1 → IM (ps.getD j (zI, undef)).1 = true) := fun j hj => by
            by_cases e : j = k
            · subst e; rw [HY.out]; exact HT.out
            · exact HP.out j (by omega)
          have hkk : k ≤ 100000 := by have := HPL.out; omega
          go_wp2
          go_roundw
          case rel => exact ⟨k + 1, hlt, by go_num, HP2.out, ho6, hom6, hrow6, hb6⟩
          case measure => simp [intOf]; omega
        | false =>
          obtain rfl : false = R := by
            rw [HR3.out, ← HPS.out]
            exact (all_false IM zI (ps.map Prod.fst) k (by rw [List.length_map]; exact hka) (by rw [getD_map_fst ps k hka, HY.out]; exact HT.out)).symm
          go_wp2
          go_ret
          exact ⟨rfl, hb6⟩
      · obtain rfl : true = R := by
          rw [HR3.out, ← HPS.out]
          exact ((all_iff IM zI (ps.map Prod.fst)).2 (fun j hj => by rw [List.length_map] at hj; rw [getD_map_fst ps j hj]; exact HP.out j (by have := HN.out; omega))).symm
        clear ho hom hrow
        go_wp2
        go_ret
        exact ⟨rfl, hb⟩
  · obtain rfl : R = false := by rw [HR2.out]; simp [h0]
    have hd : ((AE : Int) == 0) = false := by simp; omega
    clear HR2
    go_wp2
    go_ret
    exact ⟨rfl, b3⟩
end Go.Proofs.YtmmbdpdpkkikjaaGreat
namespace Go.Proofs.YtmmbdpdpkkikjaaGreat
open Go.RowKit
set_option linter.unusedVariables false

set_option maxHeartbeats 2000000 in
set_option maxRecDepth 100000 in
theorem funcMay_as {w : World} {m : MoP} (hm : MoIn w m) (hs : Small m 100000) {r : RoP} (hr : RoIn w r) (hc : r.r.params.length ≤ 100000 ∧ r.r.results.length ≤ 100000 ∧ r.r.code.length ≤ 100000) :
    Calls Tryz.prog 121 #[.agg (roA r), .agg m.cs] w fun e w' => e = .returned (.bool (roMay m r.r)) ∧ Below w.heap.size w w' := by
  obtain ⟨R, HR⟩ : ∃ R, Hid (roMay m r.r = R) := ⟨_, rfl⟩
  rw [HR.out]
  have H1 : Hid (∀ W, Below w.heap.size w W → Calls Tryz.prog 148 #[.slice r.pa r.r.params.length r.pc, .agg m.cs] W fun e w' => e = .returned (.bool (r.r.params.all (thr m.tys.length))) ∧ Below W.heap.size W w') := fun W hb => areThere_as m hs.ty (hr.params.below hb) rfl hc.1 hr.eachp
  have H2 : Hid (∀ W, Below w.heap.size w W → Calls Tryz.prog 148 #[.slice r.ra r.r.results.length r.rc, .agg m.cs] W fun e w' => e = .returned (.bool (r.r.results.all (thr m.tys.length))) ∧ Below W.heap.size W w') := fun W hb => areThere_as m hs.ty (hr.results.below hb) rfl hc.2.1 hr.eachr
  have H3 : Hid (∀ W, Below w.heap.size w W → Calls Tryz.prog 149 #[.agg (roA r), .agg m.cs] W fun e w' => e = .returned (.bool (codeMay m r.r.locals r.r.code)) ∧ Below W.heap.size W w') := fun W hb => codeMay_as (hm.below hb) hs (hr.below hb) hc.2.2
  have HR2 : Hid (R = (r.r.params.all (thr m.tys.length) && (r.r.results.all (thr m.tys.length) && (decide ((r.r.params.length : Int) ≤ r.r.locals) && (decide (0 ≤ r.r.stack) && codeMay m r.r.locals r.r.code))))) := by rw [Hid, ← HR.out]; rfl
  clear hm hs hr hc HR
  have o0 := Own.new w (roA r) 55
  have b0 := new_below w (.cells (roA r) 55)
  unfold roA MoP.cs at *
  generalize r.r.params.all (thr m.tys.length) = P1 at *
  generalize r.r.results.all (thr m.tys.length) = P2 at *
  generalize codeMay m r.r.locals r.r.code = P5 at *
  generalize r.r.params.length = np at *
  generalize r.r.results.length = nr at *
  generalize r.r.code.length = nc at *
  generalize r.r.name = nm at *
  generalize r.r.locals = lo at *
  generalize r.r.stack = st at *
  generalize m.tys.length = n1 at *
  generalize m.txs.length = n2 at *
  generalize m.fns.length = n3 at *
  go_enter Tryz.func121, Tryz.ntmps121
  go_upto_region 1 with fail
  have e1 : (w.alloc (.cells #[.string nm, .slice r.pa np r.pc, .slice r.ra nr r.rc, .int .i64 lo, .int .i64 st, .slice r.ca nc r.cc] 55)).heap.size = w.heap.size + 1 := World.size_alloc _ _
  generalize w.alloc (.cells #[.string nm, .slice r.pa np r.pc, .slice r.ra nr r.rc, .int .i64 lo, .int .i64 st, .slice r.ca nc r.cc] 55) = w1 at *
  have om := Own.new w1 #[.slice m.ta n1 m.tc, .slice m.sa n2 m.sc, .slice m.fa n3 m.fc] 26
  have bm := new_below w1 (.cells #[.slice m.ta n1 m.tc, .slice m.sa n2 m.sc, .slice m.fa n3 m.fc] 26)
  have o2 := o0.below bm
  have b2 := b0.trans (bm.mono b0.size)
  rw [e1] at om
  clear o0 b0 bm e1
  generalize w1.alloc (.cells #[.slice m.ta n1 m.tc, .slice m.sa n2 m.sc, .slice m.fa n3 m.fc] 26) = w2 at *
  obtain ⟨x0, x1, x2, x3, x4, x5, xf⟩ := own6 o2
  obtain ⟨m0, m1, m2, mf⟩ := own3 om
  have hC := H1.out w2 b2
  go_wp2_with fail
  refine hC.mono ?_
  rintro e w3 ⟨rfl, k⟩
  have o3 := o2.below k
  have om3 := om.below k
  have b3 := b2.trans (k.mono b2.size)
  clear hC x0 x1 x2 x3 x4 x5 xf m0 m1 m2 mf k o2 om b2 H1
  obtain ⟨x0, x1, x2, x3, x4, x5, xf⟩ := own6 o3
  obtain ⟨m0, m1, m2, mf⟩ := own3 om3
  cases P1 with
  | false =>
    obtain rfl : R = false := by rw [HR2.out]; simp
    clear HR2
    go_wp2
    go_ret
    exact ⟨rfl, b3⟩
  | true =>
    have hC := H2.out w3 b3
    go_wp2_with fail
    refine hC.mono ?_
    rintro e w4 ⟨rfl, k⟩
    have o4 := o3.below k
    have om4 := om3.below k
    have b4 := b3.trans (k.mono b3.size)
    clear hC x0 x1 x2 x3 x4 x5 xf m0 m1 m2 mf k o3 om3 b3 H2
    obtain ⟨x0, x1, x2, x3, x4, x5, xf⟩ := own6 o4
    obtain ⟨m0, m1, m2, mf⟩ := own3 om4
    cases P2 with
    | false =>
      obtain rfl : R = false := by rw [HR2.out]; simp
      clear HR2
      go_wp2
      go_ret
      exact ⟨rfl, b4⟩
    | true =>
      cases d3 : decide ((np : Int) ≤ lo) with
      | false =>
        obtain rfl : R = false := by rw [HR2.out, d3]; simp
        clear HR2
        go_wp2
        go_ret
        exact ⟨rfl, b4⟩
      | true =>
        cases d4 : decide (0 ≤ st) with
        | false =>
          obtain rfl : R = false := by rw [HR2.out, d3, d4]; simp
          clear HR2
          go_wp2
          go_ret
          exact ⟨rfl, b4⟩
        | true =>
          obtain rfl : R = P5 := by rw [HR2.out, d3, d4]; simp
          clear HR2
          have hC := H3.out w4 b4
          go_wp2_with fail
          refine hC.mono ?_
          rintro e w5 ⟨rfl, k⟩
          have o5 := o4.below k
          have om5 := om4.below k
          have b5 := b4.trans (k.mono b4.size)
          clear hC x0 x1 x2 x3 x4 x5 xf m0 m1 m2 mf k o4 om4 b4 H3
          obtain ⟨x0, x1, x2, x3, x4, x5, xf⟩ := own6 o5
          obtain ⟨m0, m1, m2, mf⟩ := own3 om5
          clear x0 x1 x2 x3 x4 x5 xf m0 m1 m2 mf
          go_wp2
          go_ret
          exact ⟨rfl, b5⟩
set_option maxHeartbeats 2000000 in
set_option maxRecDepth 100000 in
theorem checkFunc_as {w : World} {m : MoP} (hm : MoIn w m) (hs : Small m 100000) {r : RoP} (hr : RoIn w r) (hc : r.r.params.length ≤ 100000 ∧ r.r.results.length ≤ 100000 ∧ r.r.code.length ≤ 100000) :
    Calls Tryz.prog 89 #[.agg (roA r), .agg m.cs] w fun e w' => e = .returned (.int .i64 (roErr m r.r : Nat)) ∧ Below w.heap.size w w' := by
  obtain ⟨R, HR⟩ : ∃ R, Hid (roErr m r.r = R) := ⟨_, rfl⟩
  rw [HR.out]
  have HFT : Hid (∀ W, Calls Tryz.prog 120 #[.agg (roA r)] W fun e w' => e = .returned (.bool (roFit r.r)) ∧ Below W.heap.size W w') := fun W => funcFits_as r
  have HMB : Hid (∀ W, Below w.heap.size w W → Calls Tryz.prog 121 #[.agg (roA r), .agg m.cs] W fun e w' => e = .returned (.bool (roMay m r.r)) ∧ Below W.heap.size W w') := fun W hb => funcMay_as (hm.below hb) hs (hr.below hb) hc
  have HR2 : Hid (R = if roFit r.r = true then (if roMay m r.r = true then 0 else 130) else 3) := by rw [Hid, ← HR.out]; rfl
  clear HR hr hs hm hc
  have o0 := Own.new w (roA r) 55
  have b0 := new_below w (.cells (roA r) 55)
  unfold roA MoP.cs at *
  generalize roFit r.r = F1 at *
  generalize roMay m r.r = F2 at *
  generalize r.r.params.length = np at *
  generalize r.r.results.length = nr at *
  generalize r.r.code.length = nc at *
  generalize r.r.name = nm at *
  generalize r.r.locals = lo at *
  generalize r.r.stack = st at *
  generalize m.tys.length = n1 at *
  generalize m.txs.length = n2 at *
  generalize m.fns.length = n3 at *
  go_enter Tryz.func89, Tryz.ntmps89
  go_upto_region 1 with fail
  have e1 : (w.alloc (.cells #[.string nm, .slice r.pa np r.pc, .slice r.ra nr r.rc, .int .i64 lo, .int .i64 st, .slice r.ca nc r.cc] 55)).heap.size = w.heap.size + 1 := World.size_alloc _ _
  generalize w.alloc (.cells #[.string nm, .slice r.pa np r.pc, .slice r.ra nr r.rc, .int .i64 lo, .int .i64 st, .slice r.ca nc r.cc] 55) = w1 at *
  have om := Own.new w1 #[.slice m.ta n1 m.tc, .slice m.sa n2 m.sc, .slice m.fa n3 m.fc] 26
  have bm := new_below w1 (.cells #[.slice m.ta n1 m.tc, .slice m.sa n2 m.sc, .slice m.fa n3 m.fc] 26)
  have o2 := o0.below bm
  have b2 := b0.trans (bm.mono b0.size)
  rw [e1] at om
  clear o0 b0 bm e1
  generalize w1.alloc (.cells #[.slice m.ta n1 m.tc, .slice m.sa n2 m.sc, .slice m.fa n3 m.fc] 26) = w2 at *
  obtain ⟨x0, x1, x2, x3, x4, x5, xf⟩ := own6 o2
  obtain ⟨m0, m1, m2, mf⟩ := own3 om
  have hC := HFT.out w2
  go_wp2_with fail
  refine hC.mono ?_
  rintro e w3 ⟨rfl, k3⟩
  have o3 := o2.below k3
  have om3 := om.below k3
  have b3 := b2.trans (k3.mono b2.size)
  clear hC x0 x1 x2 x3 x4 x5 xf m0 m1 m2 mf k3 o2 om b2 HFT
  obtain ⟨x0, x1, x2, x3, x4, x5, xf⟩ := own6 o3
  obtain ⟨m0, m1, m2, mf⟩ := own3 om3
  cases F1 with
  | false =>
    obtain rfl : R = 3 := HR2.out
    clear HR2
    go_wp2
    go_ret
    exact ⟨rfl, b3⟩
  | true =>
    have hC := HMB.out w3 b3
    go_wp2_with fail
    refine hC.mono ?_
    rintro e w4 ⟨rfl, k4⟩
    have b4 := b3.trans (k4.mono b3.size)
    clear hC x0 x1 x2 x3 x4 x5 xf m0 m1 m2 mf k4 o3 om3 b3 HMB
    cases F2 with
    | false =>
      obtain rfl : R = 130 := HR2.out
      clear HR2
      go_wp2
      go_ret
      exact ⟨rfl, b4⟩
    | true =>
      obtain rfl : R = 0 := HR2.out
      clear HR2
      go_wp2
      go_ret
      exact ⟨rfl, b4⟩
end Go.Proofs.YtmmbdpdpkkikjaaGreat
namespace Go.Proofs.YtmmbdpdpkkikjaaGreat
open Go.RowKit
set_option linter.unusedVariables false

/-- The first error of a list. -/
def fE {α : Type} (f : α → Nat) : List α → Nat
  | [] => 0
  | x :: r => if f x = 0 then fE f r else f x
theorem fE_hit {α : Type} (f : α → Nat) (z : α) (e : Nat) (he : e ≠ 0) : ∀ (l : List α) (k : Nat), k < l.length → (∀ j, j < k → f (l.getD j z) = 0) → f (l.getD k z) = e → fE f l = e := by
  intro l
  induction l with
  | nil => intro k h; cases h
  | cons x r ih =>
    intro k hk hp h
    unfold fE
    cases k with
    | zero =>
      have h' : f x = e := h
      rw [h', if_neg he]
    | succ k =>
      have h0 : f x = 0 := hp 0 (by omega)
      rw [if_pos h0]
      exact ih k (by simpa using hk) (fun j hj => hp (j + 1) (by omega)) h
theorem fE_zero {α : Type} (f : α → Nat) (z : α) : ∀ (l : List α), (∀ j, j < l.length → f (l.getD j z) = 0) → fE f l = 0 := by
  intro l
  induction l with
  | nil => intro _; rfl
  | cons x r ih =>
    intro hp
    unfold fE
    have h0 : f x = 0 := hp 0 (by simp)
    rw [if_pos h0]
    exact ih (fun j hj => hp (j + 1) (by simpa using hj))
def txErr (s : ByteArray) : Nat := if 65536 < s.size then 3 else 0
def partsE (m : MoP) : Nat := if 256 < m.tys.length ∨ 32768 < m.txs.length ∨ 256 < m.fns.length then 3 else
  if fE (fun t : TyP => tyErr m.tys.length t.t) m.tys ≠ 0 then fE (fun t : TyP => tyErr m.tys.length t.t) m.tys else
  if fE txErr m.txs ≠ 0 then fE txErr m.txs else fE (fun r : RoP => roErr m r.r) m.fns
theorem txCell {w : World} {a : Option Addr} {xs : List ByteArray} (h : RowAt w a 1 xs.length (txF xs)) {i : Nat} (hi : i < xs.length) (s : ByteArray) (hs : xs.getD i ⟨#[]⟩ = s) : ∃ b off, a = some ⟨b, off, none⟩ ∧ w.cell? ⟨b, off + i, none⟩ = some (.string s) := by
  obtain ⟨b, off, e, hc⟩ := h.at hi
  subst hs
  have := hc 0 (by omega)
  rw [Nat.mul_one] at this
  exact ⟨b, off, e, this⟩
set_option maxHeartbeats 4000000 in
set_option maxRecDepth 100000 in
theorem parts_as {w : World} {m : MoP} (hm : MoIn w m) (hs : Small m 100000) :
    Calls Tryz.prog 49 #[.agg m.cs] w fun e w' => e = .returned (.int .i64 (partsE m : Nat)) ∧ Below w.heap.size w w' := by
  obtain ⟨R, HR⟩ : ∃ R, Hid (partsE m = R) := ⟨_, rfl⟩
  rw [HR.out]
  have HT1 : Hid (∀ W, Below w.heap.size w W → RowAt W m.ta 5 m.tys.length (tyF m.tys)) := fun W hb => hm.tyr.below hb
  have HX1 : Hid (∀ W, Below w.heap.size w W → RowAt W m.sa 1 m.txs.length (txF m.txs)) := fun W hb => hm.txr.below hb
  have HF1 : Hid (∀ W, Below w.heap.size w W → RowAt W m.fa 6 m.fns.length (roF m.fns)) := fun W hb => hm.fnr.below hb
  obtain ⟨n1, hn1⟩ : ∃ n, n = m.tys.length := ⟨_, rfl⟩
  obtain ⟨n2, hn2⟩ : ∃ n, n = m.txs.length := ⟨_, rfl⟩
  obtain ⟨n3, hn3⟩ : ∃ n, n = m.fns.length := ⟨_, rfl⟩
  have HT2 : Hid (∀ t ∈ m.tys, ∀ W, Below w.heap.size w W → Calls Tryz.prog 88 #[.agg (tyA t), .agg #[.slice m.ta n1 m.tc, .slice m.sa n2 m.sc, .slice m.fa n3 m.fc]] W fun e w' => e = .returned (.int .i64 (tyErr m.tys.length t.t : Nat)) ∧ Below W.heap.size W w') := fun t ht W hb => by
    rw [hn1, hn2, hn3]
    exact checkType_as m hs.ty ((hm.ty t ht).below hb) (hs.fl t ht)
  have HF2 : Hid (∀ r ∈ m.fns, ∀ W, Below w.heap.size w W → Calls Tryz.prog 89 #[.agg (roA r), .agg #[.slice m.ta n1 m.tc, .slice m.sa n2 m.sc, .slice m.fa n3 m.fc]] W fun e w' => e = .returned (.int .i64 (roErr m r.r : Nat)) ∧ Below W.heap.size W w') := fun r hr W hb => by
    rw [hn1, hn2, hn3]
    exact checkFunc_as (hm.below hb) hs ((hm.fn r hr).below hb) (hs.ro r hr)
  have HN1 : Hid (n1 = m.tys.length ∧ n1 ≤ 100000) := ⟨hn1, by rw [hn1]; exact hs.ty⟩
  have HN2 : Hid (n2 = m.txs.length ∧ n2 ≤ 100000) := ⟨hn2, by rw [hn2]; exact hs.tx⟩
  have HN3 : Hid (n3 = m.fns.length ∧ n3 ≤ 100000) := ⟨hn3, by rw [hn3]; exact hs.fn⟩
  have HR2 : Hid (R = if (256 < (n1 : Int) ∨ 32768 < (n2 : Int) ∨ 256 < (n3 : Int)) then 3 else if fE (fun t : TyP => tyErr m.tys.length t.t) m.tys ≠ 0 then fE (fun t : TyP => tyErr m.tys.length t.t) m.tys else
      if fE txErr m.txs ≠ 0 then fE txErr m.txs else fE (fun r : RoP => roErr m r.r) m.fns) := by
    rw [Hid, ← HR.out]; unfold partsE
    exact ite_congr (propext (by omega)) (fun _ => rfl) (fun _ => rfl)
  clear HR hm hs
  unfold MoP.cs at *
  rw [← hn1, ← hn2, ← hn3]
  have o0 := Own.new w #[.slice m.ta n1 m.tc, .slice m.sa n2 m.sc, .slice m.fa n3 m.fc] 26
  have b0 := new_below w (.cells #[.slice m.ta n1 m.tc, .slice m.sa n2 m.sc, .slice m.fa n3 m.fc] 26)
  clear hn1 hn2 hn3
  go_enter Tryz.func49, Tryz.ntmps49
  go_upto_region 1 with fail
  generalize w.alloc _ = w1 at *
  obtain ⟨m0, m1, m2, mf⟩ := own3 o0
  cases d1 : decide ((256 : Int) < n1) with
  | true =>
    obtain rfl : R = 3 := by rw [HR2.out, if_pos (.inl (of_decide_eq_true d1))]
    clear HR2
    go_wp2
    go_ret
    exact ⟨rfl, b0⟩
  | false =>
  cases d2 : decide ((32768 : Int) < n2) with
  | true =>
    obtain rfl : R = 3 := by rw [HR2.out, if_pos (.inr (.inl (of_decide_eq_true d2)))]
    clear HR2
    go_wp2
    go_ret
    exact ⟨rfl, b0⟩
  | false =>
  cases d3 : decide ((256 : Int) < n3) with
  | true =>
    obtain rfl : R = 3 := by rw [HR2.out, if_pos (.inr (.inr (of_decide_eq_true d3)))]
    clear HR2
    go_wp2
    go_ret
    exact ⟨rfl, b0⟩
  | false =>
  have HR3 : Hid (R = if fE (fun t : TyP => tyErr m.tys.length t.t) m.tys ≠ 0 then fE (fun t : TyP => tyErr m.tys.length t.t) m.tys else
      if fE txErr m.txs ≠ 0 then fE txErr m.txs else fE (fun r : RoP => roErr m r.r) m.fns) := by
    rw [Hid, HR2.out, if_neg (by have := of_decide_eq_false d1; have := of_decide_eq_false d2; have := of_decide_eq_false d3; omega)]
  clear HR2
  have REL : Hid (Own w1 w.heap.size #[.slice m.ta n1 m.tc, .slice m.sa n2 m.sc, .slice m.fa n3 m.fc] 26 ∧ Below w.heap.size w w1) := ⟨o0, b0⟩
  go_upto_region 4 with fail
  clear m0 m1 m2 mf o0 b0 d1 d2 d3
  go_wp2_with fail
  go_loopw [30] (fun i wr => ∃ k : Nat, k ≤ n1 ∧ i = .int .i64 (k : Int) ∧ (∀ j, j < k → tyErr m.tys.length (m.tys.getD j zTP).t = 0) ∧ Own wr w.heap.size #[.slice m.ta n1 m.tc, .slice m.sa n2 m.sc, .slice m.fa n3 m.fc] 26 ∧ Below w.heap.size w wr) (fun i _ => n1 - (intOf i).toNat)
  case atStart => exact ⟨0, Nat.zero_le _, rfl, fun j hj => by omega, REL.out⟩
  case round =>
    clear REL
    obtain ⟨k, hk, rfl, hpre, ho, hb⟩ := hrel
    have HP : Hid (∀ j, j < k → tyErr m.tys.length (m.tys.getD j zTP).t = 0) := hpre
    clear hpre
    by_cases hlt : k < n1
    · have hka : k < m.tys.length := by rw [← HN1.out.1]; exact hlt
      obtain ⟨t, HV⟩ : ∃ t, Hid (m.tys.getD k zTP = t) := ⟨_, rfl⟩
      have hmem : t ∈ m.tys := by rw [← HV.out]; exact getD_in hka
      obtain ⟨b, off, hta, c0, c1, c2, c3, c4⟩ := tyCells (HT1.out _ hb) hka t HV.out
      have hCC := HT2.out t hmem
      have oT := Own.new wr (tyA t) 49
      have bT := new_below wr (.cells (tyA t) 49)
      have ho2 := ho.below bT
      have hb2 := hb.trans (bT.mono hb.size)
      obtain ⟨E, HE⟩ : ∃ E, Hid (tyErr m.tys.length t.t = E) := ⟨_, rfl⟩
      rw [HE.out] at hCC
      unfold tyA at *
      rw [hta]
      have HTA : Hid (m.ta = some ⟨b, off, none⟩) := hta
      clear ho hb bT hmem hta
      go_upto_region 6 with fail
      clear c0 c1 c2 c3 c4
      generalize wr.alloc _ = w5 at *
      have hC := hCC w5 hb2
      obtain ⟨y0, y1, y2, y3, y4, yf⟩ := own5' oT
      obtain ⟨m0, m1, m2, mf⟩ := own3 ho2
      clear hCC
      go_wp2_with fail
      refine hC.mono ?_
      rintro e w6 ⟨rfl, k6⟩
      have ho6 := ho2.below k6
      have hb6 := hb2.trans (k6.mono hb2.size)
      clear hC y0 y1 y2 y3 y4 yf m0 m1 m2 mf k6 ho2 hb2 oT
      by_cases h0 : E = 0
      · subst h0
        have HP2 : Hid (∀ j, j < k + 1 → tyErr m.tys.length (m.tys.getD j zTP).t = 0) := fun j hj => by
          by_cases e : j = k
          · subst e; rw [HV.out]; exact HE.out
          · exact HP.out j (by omega)
        have hkk : k ≤ 100000 := by have := HN1.out.2; omega
        go_wp2
        rw [← HTA.out]
        go_roundw
        case rel => exact ⟨k + 1, hlt, by go_num, HP2.out, ho6, hb6⟩
        case measure => simp [intOf]; omega
      · have hfe : fE (fun t : TyP => tyErr m.tys.length t.t) m.tys = E := fE_hit _ zTP E h0 m.tys k hka HP.out (by rw [HV.out]; exact HE.out)
        obtain rfl : R = E := by rw [HR3.out, hfe, if_pos h0]
        have hd : ((R : Int) == 0) = false := by simp; omega
        clear HR3 hfe
        go_wp2
        go_ret
        exact ⟨rfl, hb6⟩
    · have hz : fE (fun t : TyP => tyErr m.tys.length t.t) m.tys = 0 := fE_zero _ zTP m.tys (fun j hj => HP.out j (by have := HN1.out.1; omega))
      have HR4 : Hid (R = if fE txErr m.txs ≠ 0 then fE txErr m.txs else fE (fun r : RoP => roErr m r.r) m.fns) := by rw [Hid, HR3.out, hz, if_neg (by simp)]
      clear HR3 hz HP
      have REL : Hid (Own wr w.heap.size #[.slice m.ta n1 m.tc, .slice m.sa n2 m.sc, .slice m.fa n3 m.fc] 26 ∧ Below w.heap.size w wr) := ⟨ho, hb⟩
      obtain ⟨m0, m1, m2, mf⟩ := own3 ho
      clear ho hb
      go_upto_region 11 with fail
      clear m0 m1 m2 mf
      go_wp2_with fail
      go_loopw [44] (fun i wr => ∃ k : Nat, k ≤ n2 ∧ i = .int .i64 (k : Int) ∧ (∀ j, j < k → txErr (m.txs.getD j ⟨#[]⟩) = 0) ∧ Own wr w.heap.size #[.slice m.ta n1 m.tc, .slice m.sa n2 m.sc, .slice m.fa n3 m.fc] 26 ∧ Below w.heap.size w wr) (fun i _ => n2 - (intOf i).toNat)
      case atStart => exact ⟨0, Nat.zero_le _, rfl, fun j hj => by omega, REL.out⟩
      case round =>
        clear REL
        obtain ⟨k, hk, rfl, hpre, ho, hb⟩ := hrel
        have HP : Hid (∀ j, j < k → txErr (m.txs.getD j ⟨#[]⟩) = 0) := hpre
        clear hpre
        by_cases hlt : k < n2
        · have hka : k < m.txs.length := by rw [← HN2.out.1]; exact hlt
          obtain ⟨t, HV⟩ : ∃ t, Hid (m.txs.getD k ⟨#[]⟩ = t) := ⟨_, rfl⟩
          obtain ⟨b, off, hta, c0⟩ := txCell (HX1.out _ hb) hka t HV.out
          rw [hta]
          have HTA : Hid (m.sa = some ⟨b, off, none⟩) := hta
          clear hta
          cases hd : decide ((65536 : Int) < t.size) with
          | true =>
            have h3 : txErr t = 3 := by unfold txErr; rw [if_pos (by have := of_decide_eq_true hd; omega)]
            have hfe : fE txErr m.txs = 3 := fE_hit _ ⟨#[]⟩ 3 (by omega) m.txs k hka HP.out (by rw [HV.out]; exact h3)
            obtain rfl : R = 3 := by rw [HR4.out, hfe, if_pos (by omega)]
            clear HR4 hfe h3 ho
            go_wp2
            go_ret
            exact ⟨rfl, hb⟩
          | false =>
            have h3 : txErr t = 0 := by unfold txErr; rw [if_neg (by have := of_decide_eq_false hd; omega)]
            have HP2 : Hid (∀ j, j < k + 1 → txErr (m.txs.getD j ⟨#[]⟩) = 0) := fun j hj => by
              by_cases e : j = k
              · subst e; rw [HV.out]; exact h3
              · exact HP.out j (by omega)
            have hkk : k ≤ 100000 := by have := HN2.out.2; omega
            clear h3
            go_wp2
            rw [← HTA.out]
            go_roundw
            case rel => exact ⟨k + 1, hlt, by go_num, HP2.out, ho, hb⟩
            case measure => simp [intOf]; omega
        · have hz : fE txErr m.txs = 0 := fE_zero _ ⟨#[]⟩ m.txs (fun j hj => HP.out j (by have := HN2.out.1; omega))
          have HR5 : Hid (R = fE (fun r : RoP => roErr m r.r) m.fns) := by rw [Hid, HR4.out, hz, if_neg (by simp)]
          clear HR4 hz HP
          have REL : Hid (Own wr w.heap.size #[.slice m.ta n1 m.tc, .slice m.sa n2 m.sc, .slice m.fa n3 m.fc] 26 ∧ Below w.heap.size w wr) := ⟨ho, hb⟩
          obtain ⟨m0, m1, m2, mf⟩ := own3 ho
          clear ho hb
          go_upto_region 17 with fail
          clear m0 m1 m2 mf
          go_wp2_with fail
          go_loopw [55] (fun i wr => ∃ k : Nat, k ≤ n3 ∧ i = .int .i64 (k : Int) ∧ (∀ j, j < k → roErr m (m.fns.getD j zRP).r = 0) ∧ Own wr w.heap.size #[.slice m.ta n1 m.tc, .slice m.sa n2 m.sc, .slice m.fa n3 m.fc] 26 ∧ Below w.heap.size w wr) (fun i _ => n3 - (intOf i).toNat)
          case atStart => exact ⟨0, Nat.zero_le _, rfl, fun j hj => by omega, REL.out⟩
          case round =>
            clear REL
            obtain ⟨k, hk, rfl, hpre, ho, hb⟩ := hrel
            have HP : Hid (∀ j, j < k → roErr m (m.fns.getD j zRP).r = 0) := hpre
            clear hpre
            by_cases hlt : k < n3
            · have hka : k < m.fns.length := by rw [← HN3.out.1]; exact hlt
              obtain ⟨t, HV⟩ : ∃ t, Hid (m.fns.getD k zRP = t) := ⟨_, rfl⟩
              have hmem : t ∈ m.fns := by rw [← HV.out]; exact getD_in hka
              obtain ⟨b, off, hta, c0, c1, c2, c3, c4, c5⟩ := roCells (HF1.out _ hb) hka t HV.out
              have hCC := HF2.out t hmem
              have oT := Own.new wr (roA t) 55
              have bT := new_below wr (.cells (roA t) 55)
              have ho2 := ho.below bT
              have hb2 := hb.trans (bT.mono hb.size)
              obtain ⟨E, HE⟩ : ∃ E, Hid (roErr m t.r = E) := ⟨_, rfl⟩
              rw [HE.out] at hCC
              unfold roA at *
              rw [hta]
              have HTA : Hid (m.fa = some ⟨b, off, none⟩) := hta
              clear ho hb bT hmem hta
              go_upto_region 19 with fail
              clear c0 c1 c2 c3 c4 c5
              generalize wr.alloc _ = w5 at *
              have hC := hCC w5 hb2
              obtain ⟨y0, y1, y2, y3, y4, y5, yf⟩ := own6 oT
              obtain ⟨m0, m1, m2, mf⟩ := own3 ho2
              clear hCC
              go_wp2_with fail
              refine hC.mono ?_
              rintro e w6 ⟨rfl, k6⟩
              have ho6 := ho2.below k6
              have hb6 := hb2.trans (k6.mono hb2.size)
              clear hC y0 y1 y2 y3 y4 y5 yf m0 m1 m2 mf k6 ho2 hb2 oT
              by_cases h0 : E = 0
              · subst h0
                have HP2 : Hid (∀ j, j < k + 1 → roErr m (m.fns.getD j zRP).r = 0) := fun j hj => by
                  by_cases e : j = k
                  · subst e; rw [HV.out]; exact HE.out
                  · exact HP.out j (by omega)
                have hkk : k ≤ 100000 := by have := HN3.out.2; omega
                go_wp2
                rw [← HTA.out]
                go_roundw
                case rel => exact ⟨k + 1, hlt, by go_num, HP2.out, ho6, hb6⟩
                case measure => simp [intOf]; omega
              · have hfe : fE (fun r : RoP => roErr m r.r) m.fns = E := fE_hit _ zRP E h0 m.fns k hka HP.out (by rw [HV.out]; exact HE.out)
                obtain rfl : R = E := by rw [HR5.out, hfe]
                have hd : ((R : Int) == 0) = false := by simp; omega
                clear HR5 hfe
                go_wp2
                go_ret
                exact ⟨rfl, hb6⟩
            · obtain rfl : R = 0 := by rw [HR5.out]; exact fE_zero _ zRP m.fns (fun j hj => HP.out j (by have := HN3.out.1; omega))
              clear HR5 HP ho
              go_wp2
              go_ret
              exact ⟨rfl, hb⟩
end Go.Proofs.YtmmbdpdpkkikjaaGreat
