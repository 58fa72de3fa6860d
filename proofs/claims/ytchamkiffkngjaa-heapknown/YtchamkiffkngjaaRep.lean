/-
  slices.Repeat of one word; the landed heap's Fill.
-/
import Derived.Test.YtchamkiffkngjaaHs
import Derived.Laws.CopyOwn
import Derived.OwnWalk
namespace Go.Proofs.Ytchamkiffkngjaa
open Go.RowKit
set_option linter.unusedVariables false

theorem mulS (w : World) (n : Nat) (hn : n ≤ 65536) : Calls Try.prog 29 #[.int .u64 1, .int .u64 (n : Int)] w fun e w' => e = .returned (.tuple #[.int .u64 0, .int .u64 (n : Int)]) ∧ w = w' := by
  have h : Calls Try.prog 29 #[.int .u64 (1 : Nat), .int .u64 (n : Nat)] w fun e w' => e = .returned (.tuple #[.int .u64 ((1 * n / 18446744073709551616 : Nat) : Int), .int .u64 ((1 * n % 18446744073709551616 : Nat) : Int)]) ∧ w' = w := Any.bits_Mul Try.lays212 1 n (by omega) (by omega) w
  have e1 : 1 * n / 18446744073709551616 = 0 := by omega
  have e2 : 1 * n % 18446744073709551616 = n := by omega
  rw [e1, e2] at h
  refine h.mono ?_
  rintro e w' ⟨rfl, rfl⟩
  exact ⟨rfl, rfl⟩
/-- A row whose first k cells are X. -/
def RepAt (w : World) (g n k : Nat) (X : Value) : Prop := ∃ cur : List Value, w.heap[g]? = some (.cells cur.toArray 24 (0, 0)) ∧ cur.length = n ∧ cur.take k = List.replicate k X
theorem splice_rep {cur : List Value} {n k : Nat} {X : Value} (hl : cur.length = n) (hk : k ≤ n) (hc : cur.take k = List.replicate k X) : (splice cur k (List.replicate (Nat.min k (n - k)) X)).length = n ∧ (splice cur k (List.replicate (Nat.min k (n - k)) X)).take (k + Nat.min k (n - k)) = List.replicate (k + Nat.min k (n - k)) X := by
  have hm : Nat.min k (n - k) ≤ n - k := Nat.min_le_right _ _
  generalize Nat.min k (n - k) = j at *
  refine ⟨by rw [length_splice _ _ _ (by rw [List.length_replicate]; omega), hl], ?_⟩
  unfold splice
  rw [hc, ← List.append_assoc, List.replicate_append_replicate, List.take_left' (by rw [List.length_replicate])]
theorem step_cp {ops : Array Oper} {o : Oper} {a : Act} {w : World} {K : Act → World → Prop} {Q : Exit → Act → World → Prop} {E : Prop} (hgd : o.guard = none) (d s : Operand)
    (ho : o.op = .call { callee := .builtin .copy, args := #[d, s], argTypes := #[30, 30] }) (g L2 n : Nat) (X : Value) (dp sp : Option Addr) (dl dc sl sc : Nat) (hd : a.eval d = .slice dp dl dc) (hs : a.eval s = .slice sp sl sc) (hdp : dp = some ⟨g, L2, none⟩) (hsp : sp = some ⟨g, 0, none⟩) (hdl : dl = n - L2) (hsl : sl = L2)
    (hr : RepAt w g n L2 X) (hX : X.oneCell' = true) (hk : L2 ≤ n) (B : Nat) (w0 : World) (hb : Below B w0 w) (hBg : B ≤ g)
    (h : ∀ w', Hid (RepAt w' g n (L2 + Nat.min L2 (n - L2)) X) → Hid (Below B w0 w') → K (a.put o.dst (goInt (Nat.min L2 (n - L2)))) w') :
    if Region.wanted o (yielded ops a.tmps) = true then Oper.wp Try.prog o a w K Q else E := by
  obtain ⟨cur, h1, h2, h3⟩ := hr
  subst hdp hsp hdl
  rw [hsl] at hs
  have hm : Nat.min L2 (n - L2) ≤ n - L2 := Nat.min_le_right _ _
  have hm2 : Nat.min L2 (n - L2) ≤ L2 := Nat.min_le_left _ _
  refine step_copy_splice hgd d s 30 30 ho 24 Try.underlying30 (by kernel_rfl) _ _ _ _ _ _ hd hs g L2 cur 24 h1 (List.replicate (Nat.min L2 (n - L2)) X) (by rw [List.length_replicate]) (fun _ => ⟨rfl, ⟨g, 0, none⟩, rfl, fun j v hv => ?_⟩) (by rw [List.length_replicate]; omega) (fun v hv => by rw [List.eq_of_mem_replicate hv]; exact hX) B w0 hb hBg (fun w' hg' hb' => ?_)
  · rw [addr_add, (show Own w g cur.toArray 24 from h1).cell]
    obtain ⟨hj, rfl⟩ := List.getElem?_eq_some_iff.1 hv
    rw [List.getElem_replicate]
    rw [List.length_replicate] at hj
    have : (cur.take L2)[j]? = some X := by rw [h3, List.getElem?_replicate, if_pos (by omega)]
    rw [List.getElem?_take, if_pos (by omega)] at this
    simpa using this
  · obtain ⟨q1, q2⟩ := splice_rep h2 hk h3
    have hh := h w' (show RepAt _ _ _ _ _ from ⟨_, hg'.out, q1, q2⟩) hb'
    rwa [List.length_replicate]
theorem info_u64 : (Try.prog.info? 24).map (fun i => (i.zero, i.size, i.bytes)) = some (some (.int .u64 0), 1, 8) := by kernel_rfl
theorem wpList_cp1 {ops : Array Oper} {rest : List Oper} {o : Oper} {a : Act} {w : World} {Q : Exit → Act → World → Prop} (hgd : o.guard = none) (d s : Operand)
    (ho : o.op = .call { callee := .builtin .copy, args := #[d, s], argTypes := #[30, 30] }) (g n c1 b c2 : Nat) (X : Value) (hd : a.eval d = .slice (some ⟨g, 0, none⟩) n c1) (hs : a.eval s = .slice (some ⟨b, 0, none⟩) 1 c2)
    (hr : RepAt w g n 0 X) (hX : X.oneCell' = true) (hbx : w.cell? ⟨b, 0, none⟩ = some X) (B : Nat) (w0 : World) (hb : Below B w0 w) (hBg : B ≤ g)
    (h : ∀ w', Hid (RepAt w' g n (Nat.min 1 n) X) → Hid (Below B w0 w') → wpList Try.prog ops Q rest (a.put o.dst (goInt (Nat.min 1 n))) w') :
    wpList Try.prog ops Q (o :: rest) a w := by
  obtain ⟨cur, h1, h2, h3⟩ := hr
  have hm : Nat.min 1 n ≤ n := Nat.min_le_right _ _
  have hm2 : Nat.min 1 n ≤ 1 := Nat.min_le_left _ _
  refine wpList_copy_splice hgd d s 30 30 ho 24 Try.underlying30 (by kernel_rfl) _ _ _ _ _ _ hd hs g 0 cur 24 h1 (List.replicate (Nat.min 1 n) X) (by rw [List.length_replicate]) (fun _ => ⟨rfl, ⟨b, 0, none⟩, rfl, fun j v hv => ?_⟩) (by rw [List.length_replicate]; omega) (fun v hv => by rw [List.eq_of_mem_replicate hv]; exact hX) B w0 hb hBg (fun w' hg' hb' => ?_)
  · obtain ⟨hj, rfl⟩ := List.getElem?_eq_some_iff.1 hv
    rw [List.getElem_replicate]
    rw [List.length_replicate] at hj
    have : j = 0 := by omega
    subst this
    rw [addr_add]; exact hbx
  · have hh := h w' (show RepAt _ _ _ _ _ from ⟨_, hg'.out, by rw [length_splice _ _ _ (by rw [List.length_replicate]; omega), h2], by unfold splice; simp⟩) hb'
    rwa [List.length_replicate]
theorem RepAt.drewN {w : World} {g n k : Nat} {X : Value} (h : RepAt w g n k X) (q : Nat) : RepAt (w.drewN q) g n k X := h
theorem RepAt.drew {w : World} {g n k : Nat} {X : Value} (h : RepAt w g n k X) : RepAt w.drew g n k X := h
def RL (w : World) (g n : Nat) (X : Value) (iv : Value) (wr : World) : Prop := ∃ k : Nat, (n ≠ 0 → 1 ≤ k) ∧ k ≤ n ∧ iv = .int .i64 (k : Int) ∧ RepAt wr g n k X ∧ Below w.heap.size w wr
set_option maxRecDepth 100000 in
set_option maxHeartbeats 1000000 in
theorem repeatS (w : World) (b n : Nat) (x : Int) (hb : Own w b #[.int .u64 x] 24) (hn : n ≤ 65536) : Calls Try.prog 26 #[.slice (some ⟨b, 0, none⟩) 1 1, .int .i64 (n : Int)] w fun e w' => e = .returned (.slice (some ⟨w.heap.size, 0, none⟩) n n) ∧ RepAt w' w.heap.size n n (.int .u64 x) ∧ Below w.heap.size w w' := by
  have hmul := mulS w n hn
  obtain ⟨i8, hi, hz0, hz1, hz2⟩ := info_parts info_u64
  have hbl := hb.lt
  have HM : Hid (∀ w', w'.ownsRow 0 24 1 (.slice (some ⟨w.heap.size, 0, none⟩) n n) n (madeCells (Value.int .u64 0).cells (n * 1)).toList → w.grownBy w' none → RepAt w' w.heap.size n 0 (.int .u64 x) ∧ Below w.heap.size w w') := by
    intro w' h1 h2
    refine ⟨?_, ⟨h2.os, h2.tape, h2.output, h2.size, fun k hk => h2.block k hk (by simp)⟩⟩
    rcases h1.2 with ⟨e, _⟩ | ⟨g, cap, cur, e, _, hg, _, _, h5, _⟩
    · cases e
    · cases e
      exact ⟨cur.toList, by simpa using hg, by rw [Array.length_toList]; omega, rfl⟩
  have hb8 : i8.bytes * n ≤ 281474976710656 := by rw [hz2]; omega
  have hmx : n ≤ maxLen := by unfold maxLen; omega
  have h4z : (0 : Nat) ≤ w.heap.size := Nat.zero_le _
  go_enter Try.func26, Try.ntmps26
  go_upto_region 7 with (first | (go_at_call 29; refine hmul.mono ?_; rintro e w1 ⟨rfl, rfl⟩) | (at_make; refine wpList_make_full w (by rfl) (.tmp 29) (.tmp 29) 30 (by rfl) 0 24 i8 (.int .u64 0) 1 Try.underlying30 hi hz0 hz1 .i64 .i64 (n : Int) (n : Int) n (by rfl) (by rfl) rfl rfl hb8 hmx h4z ?_; intro w1 m1 m2; have HR : Hid _ := HM.out w1 m1 m2; have hbx : w1.cell? ⟨b, 0, none⟩ = some (.int .u64 x) := (own1 (hb.below HR.out.2)).1; clear m1 m2))
  go_wp2_with (refine wpList_cp1 (by rfl) (.tmp 31) (.tmp 32) (by rfl) w.heap.size n n b 1 (.int .u64 x) (by rfl) (by rfl) HR.out.1 (by rfl) hbx w.heap.size w HR.out.2 (Nat.le_refl _) ?_; intro w2 H1 H2; clear hbx HR)
  clear HM hmul hb
  obtain ⟨k0, hk0⟩ : ∃ k, Hid (Nat.min 1 n = k) := ⟨_, rfl⟩
  rw [hk0.out] at H1
  rw [hk0.out]
  have hk1 : n ≠ 0 → 1 ≤ k0 := fun h => by rw [← hk0.out]; exact Nat.le_min.2 ⟨Nat.le_refl _, by omega⟩
  have hk2 : k0 ≤ n := by rw [← hk0.out]; exact Nat.min_le_right _ _
  go_loopw [8] (fun iv wr => RL w w.heap.size n (.int .u64 x) iv wr) (fun i _ => n - (intOf i).toNat)
  case atStart => exact ⟨k0, hk1, hk2, rfl, H1.out, H2.out⟩
  case round =>
    clear H1 H2 hk1 hk2 hk0
    obtain ⟨k, hk1, hk2, rfl, hr, hB⟩ := hrel
    by_cases hlt : k < n
    · have hkp : 1 ≤ k := hk1 (by omega)
      have hB2 := hB.drew
      have hr2 := hr.drew
      have hkn : k ≤ n := hk2
      have hnk : n ≠ k := by omega
      obtain ⟨j, hj⟩ : ∃ j, Hid (Nat.min k (n - k) = j) := ⟨_, rfl⟩
      have hj1 : 1 ≤ j := by rw [← hj.out]; exact Nat.le_min.2 ⟨hkp, by omega⟩
      have hj2 : k + j ≤ n := by have : j ≤ n - k := by rw [← hj.out]; exact Nat.min_le_right _ _
                                 omega
      clear hk1
      go_wp2_with fail
      go_region_law (refine step_cp (by rfl) (.tmp 41) (.tmp 44) (by rfl) w.heap.size k n (.int .u64 x) (some ⟨w.heap.size, k, none⟩) (some ⟨w.heap.size, 0, none⟩) (n - k) (n - k) k n (by kernel_rfl) (by kernel_rfl) rfl rfl rfl rfl hr2 (by rfl) hkn w.heap.size w hB2 (Nat.le_refl _) ?_; intro w3 R1 R2; rw [hj.out] at R1 ⊢)
      have hwr : IntKind.i64.wrap ((k : Int) + (j : Int)) = ((k + j : Nat) : Int) := by
        rw [IntWalk.i64_left, IntWalk.wrap64_in _ (by omega)]; omega
      rw [hwr]
      go_simp
      go_wp2_with fail
      go_roundw
      case rel => exact ⟨k + j, fun _ => by omega, hj2, rfl, R1.out, R2.out⟩
      case measure => simp [intOf]; omega
    · have hkn : k = n := by omega
      subst hkn
      have HH : Hid (RepAt wr w.heap.size k k (.int .u64 x) ∧ Below w.heap.size w wr) := ⟨hr, hB⟩
      clear hr hB
      go_wp2_with fail
      go_ret
      exact ⟨rfl, HH.out⟩
theorem RepAt.rw {w : World} {g n : Nat} {x : Int} (h : RepAt w g n n (.int .u64 x)) (hn : n ≤ 65536) : Rw w 24 1 (.slice (some ⟨g, 0, none⟩) n n) (List.replicate n x).length (wordV (List.replicate n x)) := by
  obtain ⟨cur, h1, h2, h3⟩ := h
  rw [List.length_replicate]
  have e : wordV (List.replicate n x) = List.replicate n (.int .u64 x) := by unfold wordV; rw [List.map_replicate]
  rw [e]
  refine ⟨by rw [List.length_replicate, Nat.mul_one], .inr ⟨g, n, cur.toArray, rfl, Nat.zero_le _, h1, Nat.le_refl _, by unfold maxLen; omega, by simpa using h2, ?_⟩⟩
  rw [Nat.mul_one]; simpa using h3
def M.fillR (m : M) (n : Int) : Int := if n < 0 ∨ 65536 < n then 0 else m.madeR (1 + n.toNat)
def M.fillT (m : M) (n : Int) : Int := if n < 0 ∨ 65536 < n then 3 else m.madeT (1 + n.toNat)
def M.filled (m : M) (t n x : Int) : M := if n < 0 ∨ 65536 < n then m else m.made (tFix t n.toNat x) (1 + n.toNat)
theorem tFix_inv {t x : Int} {n u : Nat} (h : n ≤ u) (hx : 0 ≤ x ∧ x < 18446744073709551616) : TInv (tFix t n x) u := ⟨by simp [tFix], by simp only [tFix, List.length_replicate]; exact h, by simp [tFix], (show (0 : Nat) ≤ maxLen from Nat.zero_le _), by simp [tFix], fun y hy => by rw [List.eq_of_mem_replicate hy]; exact hx⟩
set_option maxRecDepth 100000 in
set_option maxHeartbeats 1000000 in
theorem fillS {w : World} {p : Nat} {m : M} {F : Nat → Prop} (h : HAt w p m F) (hn : m.ths.length ≤ 100000) (t n x : Int) (hn1 : -9223372036854775808 ≤ n) (hn2 : n < 9223372036854775808) (hx : 0 ≤ x ∧ x < 18446744073709551616) :
    Calls Try.prog 14 #[ptr p, .int .i64 t, .int .i64 n, .int .u64 x] w fun e w' => e = .returned (.tuple #[.int .u64 (m.fillR n), .int .i64 (m.fillT n)]) ∧ HRet w p (m.filled t n x) F w' := by
  unfold M.fillR M.fillT M.filled
  by_cases hout : n < 0 ∨ 65536 < n
  · rw [if_pos hout, if_pos hout, if_pos hout]
    have HR : Hid (HRet w p m F w) := HRet.same h (Below.refl _ _)
    clear h
    rcases hout with q | q
    all_goals
      go_enter Try.func14, Try.ntmps14
      go_wp2_with fail
    · go_ret2
      exact ⟨rfl, HR.out⟩
    · by_cases q2 : n < 0
      · omega
      · first | (go_ret2; exact ⟨rfl, HR.out⟩) | (go_wp2_with fail; go_ret2; exact ⟨rfl, HR.out⟩)
  rw [if_neg hout, if_neg hout, if_neg hout]
  obtain ⟨k, rfl⟩ : ∃ k : Nat, n = (k : Int) := ⟨n.toNat, by omega⟩
  have hk : k ≤ 65536 := by omega
  have ek : ((k : Int)).toNat = k := by omega
  rw [ek]
  have hp := payS h (1 + k) (by omega)
  have ec : ((1 + k : Nat) : Int) = 1 + (k : Int) := by omega
  rw [ec] at hp
  clear ec ek hout hn1 hn2
  by_cases hpay : m.used + (1 + k) ≤ m.limit
  · obtain ⟨e1, e2, e3, e4⟩ := made_paid (tFix t k x) hpay
    rw [e1, e2, e3]
    rw [e4] at hp
    have hpu := paid_used hpay
    have HC : Hid (∀ w1, HRet w p (m.paid (1 + k)) F w1 → Calls Try.prog 26 #[.slice (some ⟨w1.heap.size, 0, none⟩) 1 1, .int .i64 (k : Int)] (w1.alloc (.cells #[.int .u64 x] 24)) fun e w' => ∃ g, e = .returned (.slice (some ⟨g, 0, none⟩) k k) ∧ Calls Try.prog 19 #[ptr p, .iface 50 (ptr w'.heap.size)] (w'.alloc (.cells #[.int .i64 t, .slice (some ⟨g, 0, none⟩) k k] 57)) fun e w'' => e = .returned (.int .u64 ((m.ths.length : Int) + 1)) ∧ HRet w p ((m.paid (1 + k)).keep (tFix t k x)) F w'') := by
      intro w1 hr
      obtain ⟨F1, a1, a2, a3⟩ := hr
      refine (repeatS (w1.alloc (.cells #[.int .u64 x] 24)) w1.heap.size k x (Own.new w1 #[.int .u64 x] 24) hk).mono ?_
      rintro e w2 ⟨rfl, k1, k2⟩
      have hs1 := World.size_alloc w1 (.cells #[.int .u64 x] 24)
      have k3 : Below w1.heap.size w1 w2 := ((Below.refl _ w1).alloc (Nat.le_refl _) _).trans (k2.mono (by omega))
      refine ⟨_, rfl, ?_⟩
      rw [hs1] at k1 ⊢
      have k4 : Below w1.heap.size w1 (w2.alloc (.cells #[.int .i64 t, .slice (some ⟨w1.heap.size + 1, 0, none⟩) k k] 57)) := k3.trans (((Below.refl _ w2).alloc (Nat.le_refl _) _).mono k3.size)
      have hs := k3.size
      have hti : ThIn (w2.alloc (.cells #[.int .i64 t, .slice (some ⟨w1.heap.size + 1, 0, none⟩) k k] 57)) w2.heap.size (.slice (some ⟨w1.heap.size + 1, 0, none⟩) k k) (tFix t k x) := ⟨Own.new w2 #[.int .i64 t, .slice (some ⟨w1.heap.size + 1, 0, none⟩) k k] 57, (k1.rw hk).alloc _⟩
      have hq := keepS (a1.below k4) (by rw [(paid_ths m _).1]; omega) (tFix t k x) w2.heap.size (.slice (some ⟨w1.heap.size + 1, 0, none⟩) k k) hti (fun q => by have := a1.bd _ q; omega) (fun g hg q => by have := a1.bd _ q; simp [Value.ownBlock] at hg; omega) (tFix_inv (by rw [hpu]; omega) hx)
      rw [(paid_ths m _).1] at hq
      refine hq.mono ?_
      rintro e w' ⟨rfl, hk⟩
      exact ⟨rfl, ret_kept a2 a3 k4 hs (fun g hg => by simp [Value.ownBlock] at hg; omega) hk⟩
    clear h hpay e1 e2 e3 e4 hpu
    go_enter Try.func14, Try.ntmps14
    go_wp2_with (first | (go_at_call 21; refine hp.mono ?_; rintro e w1 ⟨rfl, hr⟩; have hc := HC.out w1 hr; clear hr) | (go_at_call 26; refine hc.mono ?_; rintro e w2 ⟨g, rfl, hk⟩) | (go_at_call 19; refine hk.mono ?_; rintro e w3 ⟨rfl, hr⟩; have HR : Hid _ := hr; clear hr))
    go_ret2
    exact ⟨rfl, HR.out⟩
  · obtain ⟨e1, e2, e3, e4, e5⟩ := made_not (tFix t k x) hpay
    rw [e1, e2, e3]
    rw [e4, e5] at hp
    clear h hpay e1 e2 e3 e4 e5
    go_enter Try.func14, Try.ntmps14
    go_wp2_with (go_at_call 21; refine hp.mono ?_; rintro e w1 ⟨rfl, hr⟩; have HR : Hid _ := hr; clear hr)
    go_ret2
    exact ⟨rfl, HR.out⟩
theorem hsFill {A W : World} {p : Nat} {m : M} (h : Hs A W p m) (hn : m.ths.length ≤ 100000) (t n x : Int) (hn1 : -9223372036854775808 ≤ n) (hn2 : n < 9223372036854775808) (hx : 0 ≤ x ∧ x < 18446744073709551616) : Calls Try.prog 14 #[ptr p, .int .i64 t, .int .i64 n, .int .u64 x] W fun e w' => e = .returned (.tuple #[.int .u64 (m.fillR n), .int .i64 (m.fillT n)]) ∧ Hs A w' p (m.filled t n x) := by
  obtain ⟨F, k1, k2, k3⟩ := h
  refine (fillS k1 hn t n x hn1 hn2 hx).mono ?_
  rintro e w' ⟨rfl, hr⟩
  exact ⟨rfl, Hs.next k2 k3 hr⟩
end Go.Proofs.Ytchamkiffkngjaa
