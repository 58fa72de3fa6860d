import Derived.Test.YtmhnbklchnnbaaaGreatDoorQ43
import Derived.Test.YtmhnbklchnnbaaaGreatDoorRcLent
import Derived.Deep.RegionHeld3
set_option maxHeartbeats 8000000
set_option maxRecDepth 100000
namespace Go.Proofs.YtmhnbklchnnbaaaGreatDoor
open Go.RowKit
set_option linter.unusedVariables false
set_option linter.unusedSimpArgs false
theorem ex40 (t : Tree) (hw : wideTr t) (H9 : IsAs 9 t) (hK : t.kind = 40) : ExAs t := by
  intro w k a b n v hN
  obtain ⟨ao, m, cap, rfl, hF⟩ := Fl.of hN hw
  have HF : Hid (Fl w t k a b n ao m cap) := hF
  have hk := hF.kind
  have hm1 := hF.2.2.2.1
  have hm2 := hF.2.2.2.2
  have o0 := Own.new w #[.int .u8 k, .int .i64 a, .string b, .int .u64 n, .slice ao m cap] 25
  have hb0 : Below w.heap.size w (w.alloc (.cells #[.int .u8 k, .int .i64 a, .string b, .int .u64 n, .slice ao m cap] 25)) := (Below.refl _ _).alloc (Nat.le_refl _) _
  obtain ⟨q9, hq9⟩ : ∃ q, vR 9 t = q := ⟨_, rfl⟩
  have C9 : ∀ W : World, Below w.heap.size w W → Calls Tryz.prog 14 #[.agg #[.int .u8 k, .int .i64 a, .string b, .int .u64 n, .slice ao m cap], .int .i64 9] W fun en w' => en = .returned (.bool q9) ∧ Below W.heap.size W w' := fun W hW => by have := H9 W k a b n (.slice ao m cap) (HF.out.below hW).1; rw [hq9] at this; exact this
  have HS : Hid (vR 2 t = q9) := by unfold Hid; rw [← hq9, vR_9, vR_2, v21 15 t (by decide), v21 21 t (by decide), hK]; rfl
  have hk2 : k = 40 := by omega
  subst hk2
  clear hF hN hk hq9 hK
  go_enter Tryz.func27, Tryz.ntmps27
  go_wp2_with fail
  refine (C9 _ hb0).mono ?_
  rintro en w1 ⟨rfl, hb1'⟩
  have o1 := o0.below hb1'
  have hb1 := hb0.trans (hb1'.mono hb0.size)
  obtain ⟨p10, p11, p12, p13, p14, p15⟩ := o1.five
  have hl1 := o1.lt
  clear hb1'
  go_wp2
  go_ret
  exact ⟨ret_bool (by rw [HS.out] <;> rfl), hb1⟩
theorem ex47 (t : Tree) (hw : wideTr t) (H : KidsAs t) (hK : t.kind = 47) : ExAs t := by
  intro w k a b n v hN
  obtain ⟨ao, m, cap, rfl, hF⟩ := Fl.of hN hw
  have HF : Hid (Fl w t k a b n ao m cap) := hF
  have hk := hF.kind
  have hm1 := hF.2.2.2.1
  have hm2 := hF.2.2.2.2
  have o0 := Own.new w #[.int .u8 k, .int .i64 a, .string b, .int .u64 n, .slice ao m cap] 25
  have hb0 : Below w.heap.size w (w.alloc (.cells #[.int .u8 k, .int .i64 a, .string b, .int .u64 n, .slice ao m cap] 25)) := (Below.refl _ _).alloc (Nat.le_refl _) _
  obtain ⟨qb, hqb⟩ : ∃ q, bareB t.text n = q := ⟨_, rfl⟩
  have CB : ∀ W : World, Calls Tryz.prog 26 #[.agg #[.int .u8 k, .int .i64 a, .string b, .int .u64 n, .slice ao m cap]] W fun en w' => en = .returned (.bool qb) ∧ Below W.heap.size W w' := fun W => by have := zbare_as W k a n b (.slice ao m cap) rfl t.text HF.out.txt; rw [hqb] at this; exact this
  have hk2 : k = 47 := by omega
  by_cases hm : 1 ≤ m
  · obtain ⟨M, t0, ks, hks, hM, rfl⟩ : ∃ (M : Nat) (t0 : Tree) (ks : List Tree), t.kids = t0 :: ks ∧ ks.length = M ∧ m = M + 1 := split_first HF.out.len hm
    obtain ⟨g, o, aj0, cj0, rfl, hg, hK0⟩ := HF.out.kid2 0 t0 (by rw [hks]; rfl)
    have HK0 : Hid (∀ W, Below w.heap.size w W → W.cell? ⟨g, o, none⟩ = some (.int .u8 (t0.kind : Int)) ∧ W.cell? ⟨g, o + 1, none⟩ = some (.int .i64 t0.at_) ∧ W.cell? ⟨g, o + 2, none⟩ = some (.string (strN t0.text)) ∧ W.cell? ⟨g, o + 3, none⟩ = some (.int .u64 (t0.n : Int)) ∧ W.cell? ⟨g, o + 4, none⟩ = some (.slice aj0 t0.kids.length cj0) ∧ g < W.heap.size) := fun W hW => by have := (hK0 W hW).1; exact this
    obtain ⟨q0, hq0⟩ : ∃ q, vR 1 t0 = q := ⟨_, rfl⟩
    have C0 : ∀ W : World, Below w.heap.size w W → Calls Tryz.prog 14 #[.agg #[.int .u8 (t0.kind : Int), .int .i64 t0.at_, .string (strN t0.text), .int .u64 (t0.n : Int), .slice aj0 t0.kids.length cj0], .int .i64 1] W fun en w' => en = .returned (.bool q0) ∧ Below W.heap.size W w' := fun W hW => by have := H 1 (by omega) (by omega) t0 (by rw [hks]; simp) W _ _ _ _ _ (hK0 W hW).2.1; rw [hq0] at this; exact this
    obtain ⟨qa, hqa⟩ : ∃ q, ks.all (vR 2) = q := ⟨_, rfl⟩
    have CA : ∀ W : World, Below w.heap.size w W → Calls Tryz.prog 29 #[.slice (some ⟨g, o + 5, none⟩) M (cap - 1), .int .i64 2] W fun en w' => en = .returned (.bool qa) ∧ Below W.heap.size W w' := fun W hW => zall_as 2 ks (fun u hu => H 2 (by omega) (by omega) u (by rw [hks]; simp [hu])) W _ (by have := HF.out.kids; rw [hks, List.length_cons] at this; have h := kidsR_tail this; rw [hM] at h; exact h.below hW) qa hqa
    have HS : Hid (vR 2 t = (qb && (q0 && qa))) := by
      unfold Hid
      rw [← hqb, ← hq0, ← hqa, HF.out.num]
      obtain ⟨kd, at_, x, nn, kk⟩ := t
      simp only [] at hks hK
      subst hK hks
      exact e47 t0 ks at_ x nn (by omega)
    have hi1 : (1 : Int) ≤ ((M : Int) + 1) := by omega
    have hi2 : (0 : Int) ≤ (M : Int) := by omega
    subst hk2
    by_cases hc1 : cap = 1
    · obtain rfl : M = 0 := by omega
      obtain rfl : ks = [] := List.eq_nil_of_length_eq_zero hM
      have CB0 : ∀ W : World, Below w.heap.size w W → Calls Tryz.prog 29 #[.slice (some ⟨g, o, none⟩) 0 0, .int .i64 2] W fun en w' => en = .returned (.bool qa) ∧ Below W.heap.size W w' := fun W hW => zall_as 2 [] (fun u hu => by cases hu) W _ ⟨_, 0, rfl, Nat.le_refl _, by omega, .inl rfl⟩ qa hqa
      subst hc1
      clear hF hN hk hK hqb hq0 hqa hK0 hM hm CA
      go_enter Tryz.func27, Tryz.ntmps27
      obtain ⟨f00, f01, f02, f03, f04, f05⟩ := HK0.out _ hb0
      go_wp2_with fail
      refine (CB _).mono ?_
      rintro en w1 ⟨rfl, hb1'⟩
      have o1 := o0.below hb1'
      have hb1 := hb0.trans (hb1'.mono hb0.size)
      obtain ⟨p10, p11, p12, p13, p14, p15⟩ := o1.five
      have hl1 := o1.lt
      obtain ⟨f00, f01, f02, f03, f04, f05⟩ := HK0.out _ hb1
      clear hb1'
      cases qb with
      | false =>
        go_wp2
        go_ret
        exact ⟨ret_bool (by rw [HS.out] <;> rfl), hb1⟩
      | true =>
        go_wp2_with fail
        refine (C0 _ hb1).mono ?_
        rintro en w2 ⟨rfl, hb2'⟩
        have o2 := o1.below hb2'
        have hb2 := hb1.trans (hb2'.mono hb1.size)
        obtain ⟨p20, p21, p22, p23, p24, p25⟩ := o2.five
        have hl2 := o2.lt
        obtain ⟨f00, f01, f02, f03, f04, f05⟩ := HK0.out _ hb2
        clear hb2'
        cases q0 with
        | false =>
          go_wp2
          go_ret
          exact ⟨ret_bool (by rw [HS.out] <;> rfl), hb2⟩
        | true =>
          go_wp2_with fail
          refine (CB0 _ hb2).mono ?_
          rintro en w3 ⟨rfl, hb3'⟩
          have o3 := o2.below hb3'
          have hb3 := hb2.trans (hb3'.mono hb2.size)
          obtain ⟨p30, p31, p32, p33, p34, p35⟩ := o3.five
          have hl3 := o3.lt
          obtain ⟨f00, f01, f02, f03, f04, f05⟩ := HK0.out _ hb3
          clear hb3'
          cases qa with
          | false =>
            go_wp2
            go_ret
            exact ⟨ret_bool (by rw [HS.out] <;> rfl), hb3⟩
          | true =>
            go_wp2
            go_ret
            exact ⟨ret_bool (by rw [HS.out] <;> rfl), hb3⟩
    · clear hF hN hk hK hqb hq0 hqa hK0 hM hm
      go_enter Tryz.func27, Tryz.ntmps27
      obtain ⟨f00, f01, f02, f03, f04, f05⟩ := HK0.out _ hb0
      go_wp2_with fail
      refine (CB _).mono ?_
      rintro en w1 ⟨rfl, hb1'⟩
      have o1 := o0.below hb1'
      have hb1 := hb0.trans (hb1'.mono hb0.size)
      obtain ⟨p10, p11, p12, p13, p14, p15⟩ := o1.five
      have hl1 := o1.lt
      obtain ⟨f00, f01, f02, f03, f04, f05⟩ := HK0.out _ hb1
      clear hb1'
      cases qb with
      | false =>
        go_wp2
        go_ret
        exact ⟨ret_bool (by rw [HS.out] <;> rfl), hb1⟩
      | true =>
        go_wp2_with fail
        refine (C0 _ hb1).mono ?_
        rintro en w2 ⟨rfl, hb2'⟩
        have o2 := o1.below hb2'
        have hb2 := hb1.trans (hb2'.mono hb1.size)
        obtain ⟨p20, p21, p22, p23, p24, p25⟩ := o2.five
        have hl2 := o2.lt
        obtain ⟨f00, f01, f02, f03, f04, f05⟩ := HK0.out _ hb2
        clear hb2'
        cases q0 with
        | false =>
          go_wp2
          go_ret
          exact ⟨ret_bool (by rw [HS.out] <;> rfl), hb2⟩
        | true =>
          go_wp2_with fail
          refine (CA _ hb2).mono ?_
          rintro en w3 ⟨rfl, hb3'⟩
          have o3 := o2.below hb3'
          have hb3 := hb2.trans (hb3'.mono hb2.size)
          obtain ⟨p30, p31, p32, p33, p34, p35⟩ := o3.five
          have hl3 := o3.lt
          obtain ⟨f00, f01, f02, f03, f04, f05⟩ := HK0.out _ hb3
          clear hb3'
          cases qa with
          | false =>
            go_wp2
            go_ret
            exact ⟨ret_bool (by rw [HS.out] <;> rfl), hb3⟩
          | true =>
            go_wp2
            go_ret
            exact ⟨ret_bool (by rw [HS.out] <;> rfl), hb3⟩
  · have HS : Hid (vR 2 t = false) := by
      unfold Hid
      rw [vR_2, valid_core]
      have h1 : (t.kind : Int) = 47 := by omega
      have h2 : ¬ (1 ≤ (t.kids.length : Int)) := by have := HF.out.len; omega
      exact core_less _ _ (by rw [h1]; exact h2)
    have hm3 : ¬ ((1 : Int) ≤ (m : Int)) := by omega
    subst hk2
    clear hF hN hk hK hqb hm
    go_enter Tryz.func27, Tryz.ntmps27
    go_wp2_with fail
    refine (CB _).mono ?_
    rintro en w1 ⟨rfl, hb1'⟩
    have o1 := o0.below hb1'
    have hb1 := hb0.trans (hb1'.mono hb0.size)
    obtain ⟨p10, p11, p12, p13, p14, p15⟩ := o1.five
    have hl1 := o1.lt
    clear hb1'
    cases qb with
    | true =>
      go_wp2
      go_ret
      exact ⟨ret_bool (by rw [HS.out] <;> rfl), hb1⟩
    | false =>
      go_wp2
      go_ret
      exact ⟨ret_bool (by rw [HS.out] <;> rfl), hb1⟩
theorem exNo (t : Tree) (hw : wideTr t) (hK : isExprI t.kind = false) : ExAs t := by
  intro w k a b n v hN
  obtain ⟨ao, m, cap, rfl, hF⟩ := Fl.of hN hw
  have HF : Hid (Fl w t k a b n ao m cap) := hF
  have hk := hF.kind
  have hm1 := hF.2.2.2.1
  have hm2 := hF.2.2.2.2
  have o0 := Own.new w #[.int .u8 k, .int .i64 a, .string b, .int .u64 n, .slice ao m cap] 25
  have hb0 : Below w.heap.size w (w.alloc (.cells #[.int .u8 k, .int .i64 a, .string b, .int .u64 n, .slice ao m cap] 25)) := (Below.refl _ _).alloc (Nat.le_refl _) _
  have HS : Hid (vR 2 t = false) := eNo t hK
  rw [← hk] at hK
  have hK2 : (40 ≤ k ∧ k ≤ 57 → k = 54) ∧ ¬ (60 ≤ k ∧ k ≤ 77) := by simp [isExprI] at hK; omega
  have z40 : (k == 40) = false := by simp; omega
  have z41 : (k == 41) = false := by simp; omega
  have z42 : (k == 42) = false := by simp; omega
  have z43 : (k == 43) = false := by simp; omega
  have z44 : (k == 44) = false := by simp; omega
  have z45 : (k == 45) = false := by simp; omega
  have z46 : (k == 46) = false := by simp; omega
  have z47 : (k == 47) = false := by simp; omega
  have z48 : (k == 48) = false := by simp; omega
  have z49 : (k == 49) = false := by simp; omega
  have z50 : (k == 50) = false := by simp; omega
  have z51 : (k == 51) = false := by simp; omega
  have z52 : (k == 52) = false := by simp; omega
  have z53 : (k == 53) = false := by simp; omega
  have z55 : (k == 55) = false := by simp; omega
  have z56 : (k == 56) = false := by simp; omega
  have z57 : (k == 57) = false := by simp; omega
  by_cases h60 : (60 : Int) ≤ k
  · have h77 : ¬ k ≤ (77 : Int) := by omega
    clear hF hN hk hK hK2
    go_enter Tryz.func27, Tryz.ntmps27
    go_wp2
    go_ret
    exact ⟨ret_bool (by rw [HS.out] <;> rfl), hb0⟩
  · clear hF hN hk hK hK2
    go_enter Tryz.func27, Tryz.ntmps27
    go_wp2
    go_ret
    exact ⟨ret_bool (by rw [HS.out] <;> rfl), hb0⟩
def KpRel (w : World) (ka kb : Array Value) (m : Nat) (iv : Value) (wr : World) : Prop := ∃ j : Nat, j ≤ m ∧ iv = .int .i64 (j : Int) ∧ Own wr w.heap.size ka 25 ∧ Own wr (w.heap.size + 1) kb 25 ∧ Below w.heap.size w wr
def KpRel2 (w : World) (ka kb : Array Value) (m g : Nat) (iv : Value) (wr : World) : Prop := ∃ j : Nat, j + g = m + 2 ∧ m ≤ j ∧ iv = .int .i64 (j : Int) ∧ Own wr w.heap.size ka 25 ∧ Own wr (w.heap.size + 1) kb 25 ∧ Below w.heap.size w wr
theorem kkept_as : ∀ (N : Nat) (t : Tree), cntT t ≤ N → ∀ (w : World) (k x : Int) (s : ByteArray) (n : Int) (v v' : Value), LentK w (fun g => g < w.heap.size) v t.kids → NodeR w t k x s n v' →
    Calls Tryz.prog 8 #[.agg #[.int .u8 k, .int .i64 x, .string s, .int .u64 n, v], .agg #[.int .u8 k, .int .i64 x, .string s, .int .u64 n, v']] w fun en w' => en = .returned (.bool true) ∧ Below w.heap.size w w' := by
  intro N
  induction N with
  | zero => intro t h; rw [cnt_parts] at h; omega
  | succ N ih =>
    intro t hN w kk xa ss nn v v' hL hNd
    have HI : Hid (∀ (t : Tree), cntT t ≤ N → ∀ (w : World) (k x : Int) (s : ByteArray) (n : Int) (v v' : Value), LentK w (fun g => g < w.heap.size) v t.kids → NodeR w t k x s n v' →
      Calls Tryz.prog 8 #[.agg #[.int .u8 k, .int .i64 x, .string s, .int .u64 n, v], .agg #[.int .u8 k, .int .i64 x, .string s, .int .u64 n, v']] w fun en w' => en = .returned (.bool true) ∧ Below w.heap.size w w') := ih
    clear ih
    obtain ⟨bo, cap', rfl, hd1, hd2, _⟩ := id hNd.2.2.2.2
    obtain ⟨g1, cap, rfl, hc1, hc2, hg1, hparts, hmarks⟩ := LentK.cells hL (wr := w) (fun g hg => ⟨rfl, hg⟩)
    have HB : Hid (KidsR w (.slice bo t.kids.length cap') t.kids) := hNd.2.2.2.2
    have HP : Hid (∀ (i : Nat) (t' : Tree), t.kids[i]? = some t' → ∃ u, w.cell? ⟨g1, i * 5, none⟩ = some (.int .u8 (t'.kind : Int)) ∧ w.cell? ⟨g1, i * 5 + 1, none⟩ = some (.int .i64 t'.at_) ∧ w.cell? ⟨g1, i * 5 + 2, none⟩ = some (.string (strN t'.text)) ∧ w.cell? ⟨g1, i * 5 + 3, none⟩ = some (.int .u64 (t'.n : Int)) ∧ w.cell? ⟨g1, i * 5 + 4, none⟩ = some u ∧ LentK w (fun g => g < w.heap.size) u t'.kids) := hparts
    have HMK : Hid (∀ (i : Nat), t.kids.length ≤ i → i < t.kids.length + 2 → w.cell? ⟨g1, i * 5, none⟩ = some (.int .u8 177) ∧ w.cell? ⟨g1, i * 5 + 1, none⟩ = some (.int .i64 0) ∧ w.cell? ⟨g1, i * 5 + 2, none⟩ = some (.string ⟨#[]⟩) ∧ w.cell? ⟨g1, i * 5 + 3, none⟩ = some (.int .u64 0) ∧ w.cell? ⟨g1, i * 5 + 4, none⟩ = some (.slice none 0 0)) := hmarks
    have HC : Hid (cntT.cntL t.kids ≤ N) := by unfold Hid; rw [cnt_parts] at hN; omega
    obtain ⟨m, hm⟩ : ∃ m, t.kids.length = m := ⟨_, rfl⟩
    rw [hm] at hc1 hd1 ⊢
    have HM : Hid (t.kids.length = m) := hm
    have hmm : m ≤ 9223372036854775807 := by omega
    have hmi : (m : Int) + 2 ≤ (cap : Int) := by omega
    clear hL hNd hparts hmarks hm hN
    have o1 := (Own.new w #[.int .u8 kk, .int .i64 xa, .string ss, .int .u64 nn, .slice (some ⟨g1, 0, none⟩) m cap] 25).alloc (.cells #[.int .u8 kk, .int .i64 xa, .string ss, .int .u64 nn, .slice bo m cap'] 25)
    have o2 := Own.new (w.alloc (.cells #[.int .u8 kk, .int .i64 xa, .string ss, .int .u64 nn, .slice (some ⟨g1, 0, none⟩) m cap] 25)) #[.int .u8 kk, .int .i64 xa, .string ss, .int .u64 nn, .slice bo m cap'] 25
    rw [World.size_alloc] at o2
    have hb2 : Below w.heap.size w ((w.alloc (.cells #[.int .u8 kk, .int .i64 xa, .string ss, .int .u64 nn, .slice (some ⟨g1, 0, none⟩) m cap] 25)).alloc (.cells #[.int .u8 kk, .int .i64 xa, .string ss, .int .u64 nn, .slice bo m cap'] 25)) := ((Below.refl _ _).alloc (Nat.le_refl _) _).alloc (by rw [World.size_alloc]; omega) _
    go_enter Tryz.func8, Tryz.ntmps8
    go_wp2_with fail
    go_loopw [5] (fun iv wr => KpRel w #[.int .u8 kk, .int .i64 xa, .string ss, .int .u64 nn, .slice (some ⟨g1, 0, none⟩) m cap] #[.int .u8 kk, .int .i64 xa, .string ss, .int .u64 nn, .slice bo m cap'] m iv wr) (fun iv _ => m - (intOf iv).toNat)
    case atStart => exact ⟨0, Nat.zero_le _, rfl, o1, o2, hb2⟩
    case round =>
      clear o1 o2 hb2
      obtain ⟨j, hj, rfl, o1, o2, hb2⟩ := hrel
      obtain ⟨a0, a1, a2, a3, a4, af⟩ := o1.five
      obtain ⟨c0, c1, c2, c3, c4, cf⟩ := o2.five
      have hl1 := o1.lt
      have hl2 := o2.lt
      by_cases hjl : j < m
      · have hja : j < t.kids.length := by rw [HM.out]; exact hjl
        obtain ⟨ta, hta⟩ : ∃ ta, t.kids[j]? = some ta := ⟨_, List.getElem?_eq_getElem hja⟩
        obtain ⟨u1, e0, e1, e2, e3, e4, hlk⟩ := HP.out j ta hta
        have f0 := (hb2.cell (p := ⟨g1, j * 5, none⟩) hg1).trans e0
        have f1 := (hb2.cell (p := ⟨g1, j * 5 + 1, none⟩) hg1).trans e1
        have f2 := (hb2.cell (p := ⟨g1, j * 5 + 2, none⟩) hg1).trans e2
        have f3 := (hb2.cell (p := ⟨g1, j * 5 + 3, none⟩) hg1).trans e3
        have f4 := (hb2.cell (p := ⟨g1, j * 5 + 4, none⟩) hg1).trans e4
        obtain ⟨gq, cq, curq, ysq, rfl, _⟩ := id hlk
        obtain ⟨g2, q2, bj, dj, rfl, hg2, i0, i1, i2, i3, i4, hk2⟩ := kids_cells HB.out hb2 j ta hta
        have hct : cntT ta ≤ N := Nat.le_trans (cnt_get hta) HC.out
        have hsz := hb2.size
        have CL : ∀ W, Below w.heap.size w W → Calls Tryz.prog 8 #[.agg #[.int .u8 (ta.kind : Int), .int .i64 ta.at_, .string (strN ta.text), .int .u64 (ta.n : Int), .slice (some ⟨gq, 0, none⟩) ta.kids.length cq], .agg #[.int .u8 (ta.kind : Int), .int .i64 ta.at_, .string (strN ta.text), .int .u64 (ta.n : Int), .slice bj ta.kids.length dj]] W fun en w' => en = .returned (.bool true) ∧ Below W.heap.size W w' :=
          fun W hW => HI.out ta hct W _ _ _ _ _ _ (LentK.on (fun g hg => ⟨hW.block g hg, Nat.lt_of_lt_of_le hg hW.size⟩) hlk) ⟨rfl, rfl, rfl, rfl, hk2.below hW⟩
        have hjq : (j : Int) < (m : Int) := by omega
        have hb2d : Below w.heap.size w wr.drew := ⟨hb2.os, hb2.tape, hb2.output, hb2.size, hb2.block⟩
        have hg1r : g1 < wr.heap.size := Nat.lt_of_lt_of_le hg1 hsz
        clear hlk hk2 hct hta hja e0 e1 e2 e3 e4
        go_wp2_with fail
        go_region_held3 (fun w' => w'.cell? ⟨w.heap.size, 4, none⟩ = some (.slice (some ⟨g1, 0, none⟩) m cap) ∧ w'.cell? ⟨w.heap.size + 1, 4, none⟩ = some (.slice (some ⟨g2, q2, none⟩) m cap') ∧ w'.cell? ⟨g1, j * 5, none⟩ = some (.int .u8 (ta.kind : Int)) ∧ w'.cell? ⟨g1, j * 5 + 1, none⟩ = some (.int .i64 ta.at_) ∧ w'.cell? ⟨g1, j * 5 + 2, none⟩ = some (.string (strN ta.text)) ∧ w'.cell? ⟨g1, j * 5 + 3, none⟩ = some (.int .u64 (ta.n : Int)) ∧ w'.cell? ⟨g1, j * 5 + 4, none⟩ = some (.slice (some ⟨gq, 0, none⟩) ta.kids.length cq) ∧ w'.cell? ⟨g2, q2 + j * 5, none⟩ = some (.int .u8 (ta.kind : Int)) ∧ w'.cell? ⟨g2, q2 + j * 5 + 1, none⟩ = some (.int .i64 ta.at_) ∧ w'.cell? ⟨g2, q2 + j * 5 + 2, none⟩ = some (.string (strN ta.text)) ∧ w'.cell? ⟨g2, q2 + j * 5 + 3, none⟩ = some (.int .u64 (ta.n : Int)) ∧ w'.cell? ⟨g2, q2 + j * 5 + 4, none⟩ = some (.slice bj ta.kids.length dj)) (go_keep) (first | (go_at_call 8; refine (CL _ hb2d).mono ?_; rintro en w7 ⟨rfl, hb7⟩; have o17 := o1.drew.below hb7; have o27 := o2.drew.below hb7; obtain ⟨r0, r1, r2, r3, r4, rf⟩ := o17.five; obtain ⟨z0, z1, z2, z3, z4, zf⟩ := o27.five; have tf0 := (hb7.cell (p := ⟨g1, j * 5, none⟩) (by rw [World.size_drew]; show g1 < _; omega)).trans f0; have tf1 := (hb7.cell (p := ⟨g1, j * 5 + 1, none⟩) (by rw [World.size_drew]; show g1 < _; omega)).trans f1; have tf2 := (hb7.cell (p := ⟨g1, j * 5 + 2, none⟩) (by rw [World.size_drew]; show g1 < _; omega)).trans f2; have tf3 := (hb7.cell (p := ⟨g1, j * 5 + 3, none⟩) (by rw [World.size_drew]; show g1 < _; omega)).trans f3; have tf4 := (hb7.cell (p := ⟨g1, j * 5 + 4, none⟩) (by rw [World.size_drew]; show g1 < _; omega)).trans f4; have ti0 := (hb7.cell (p := ⟨g2, q2 + j * 5, none⟩) (by rw [World.size_drew]; show g2 < _; omega)).trans i0; have ti1 := (hb7.cell (p := ⟨g2, q2 + j * 5 + 1, none⟩) (by rw [World.size_drew]; show g2 < _; omega)).trans i1; have ti2 := (hb7.cell (p := ⟨g2, q2 + j * 5 + 2, none⟩) (by rw [World.size_drew]; show g2 < _; omega)).trans i2; have ti3 := (hb7.cell (p := ⟨g2, q2 + j * 5 + 3, none⟩) (by rw [World.size_drew]; show g2 < _; omega)).trans i3; have ti4 := (hb7.cell (p := ⟨g2, q2 + j * 5 + 4, none⟩) (by rw [World.size_drew]; show g2 < _; omega)).trans i4))
        all_goals
          have hb8 : Below w.heap.size w w7 := hb2d.trans (hb7.mono (by rw [World.size_drew]; exact hsz))
          go_wp2
          go_roundw
          case rel => exact ⟨j + 1, by omega, by go_num, o17, o27, hb8⟩
          case measure => simp [intOf]; omega
      · have hjq : ¬ ((j : Int) < (m : Int)) := by omega
        have hi4 : (0 : Int) ≤ (m : Int) + 2 := by omega
        go_wp2_with fail
        go_loopg [7] 2 (fun g iv wr2 => KpRel2 w #[.int .u8 kk, .int .i64 xa, .string ss, .int .u64 nn, .slice (some ⟨g1, 0, none⟩) m cap] #[.int .u8 kk, .int .i64 xa, .string ss, .int .u64 nn, .slice bo m cap'] m g iv wr2)
        case atStart => exact ⟨m, by omega, Nat.le_refl _, rfl, o1, o2, hb2⟩
        case round =>
          clear o1 o2 hb2 a0 a1 a2 a3 a4 af c0 c1 c2 c3 c4 cf hl1 hl2
          obtain ⟨i, hig, him, rfl, o1, o2, hb2⟩ := hrel
          by_cases hil : i < m + 2
          · obtain ⟨e0, e1, e2, e3, e4⟩ := HMK.out i (by rw [HM.out]; exact him) (by rw [HM.out]; exact hil)
            have f0 := (hb2.cell (p := ⟨g1, i * 5, none⟩) hg1).trans e0
            have f1 := (hb2.cell (p := ⟨g1, i * 5 + 1, none⟩) hg1).trans e1
            have f2 := (hb2.cell (p := ⟨g1, i * 5 + 2, none⟩) hg1).trans e2
            have f3 := (hb2.cell (p := ⟨g1, i * 5 + 3, none⟩) hg1).trans e3
            have f4 := (hb2.cell (p := ⟨g1, i * 5 + 4, none⟩) hg1).trans e4
            have hg1r : g1 < wr.heap.size := Nat.lt_of_lt_of_le hg1 hb2.size
            have hiq : (i : Int) < (m : Int) + 2 := by omega
            have hi0 : (0 : Int) ≤ (i : Int) := by omega
            have hgk : 1 ≤ gk := by omega
            clear e0 e1 e2 e3 e4
            go_wp2
            go_roundg (gk - 1)
            case rel => exact ⟨i + 1, by omega, by omega, by go_num, o1, o2, hb2⟩
            case measure => omega
          · have hiq : ¬ ((i : Int) < (m : Int) + 2) := by omega
            go_wp2
            go_ret
            exact ⟨rfl, hb2⟩
end Go.Proofs.YtmhnbklchnnbaaaGreatDoor
