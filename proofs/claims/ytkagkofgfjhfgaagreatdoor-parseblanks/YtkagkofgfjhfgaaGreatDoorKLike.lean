/-
  CONTRACTS of the statements' own SameNode and LikeNode: of trees that are alike they answer true.
-/
import Derived.Test.YtkagkofgfjhfgaaGreatDoorJCkRead
import Derived.Test.YtkagkofgfjhfgaaGreatDoorSim
import Derived.Deep.RegionHeld3
namespace Go.Proofs.YtkagkofgfjhfgaaGreatDoor
open Go.RowKit
set_option linter.unusedVariables false

/-- What of a place is held against another: all, or nothing. -/
def pf (p : Bool) : Int → Int := if p then id else fun _ => 0
def eqv (p : Bool) (a b : Tree) : Prop := mapTr (pf p) a = mapTr (pf p) b
theorem eqv_parts {p : Bool} {a b : Tree} (h : eqv p a b) : a.kind = b.kind ∧ (p = true → a.at_ = b.at_) ∧ a.text = b.text ∧ a.n = b.n ∧ a.kids.length = b.kids.length ∧ ∀ (i : Nat) (x y : Tree), a.kids[i]? = some x → b.kids[i]? = some y → eqv p x y := by
  obtain ⟨k, at1, tx, n, ks⟩ := a
  obtain ⟨k', at2, tx', n', ks'⟩ := b
  unfold eqv at h
  rw [mapTr_mk, mapTr_mk] at h
  injection h with h1 h2 h3 h4 h5
  refine ⟨h1, fun hp => ?_, h3, h4, ?_, fun i x y hx hy => ?_⟩
  · subst hp; exact h2
  · have := congrArg List.length h5; simpa using this
  · have := congrArg (·[i]?) h5
    simp only [List.getElem?_map, hx, hy, Option.map_some, Option.some.injEq] at this
    exact this
theorem eqv_refl (p : Bool) (a : Tree) : eqv p a a := rfl
def LikeRel (w : World) (ka kb : Array Value) (m : Nat) (iv : Value) (wr : World) : Prop := ∃ j : Nat, j ≤ m ∧ iv = .int .i64 (j : Int) ∧ Own wr w.heap.size ka 25 ∧ Own wr (w.heap.size + 1) kb 25 ∧ Below w.heap.size w wr
theorem kids_cells {w wr : World} {ts : List Tree} {ao : Option Addr} {cap : Nat} (h : KidsR w (.slice ao ts.length cap) ts) (hb : Below w.heap.size w wr) (j : Nat) (t : Tree) (hj : ts[j]? = some t) : ∃ g o aj cj, ao = some ⟨g, o, none⟩ ∧ g < w.heap.size ∧ wr.cell? ⟨g, o + j * 5, none⟩ = some (.int .u8 (t.kind : Int)) ∧ wr.cell? ⟨g, o + j * 5 + 1, none⟩ = some (.int .i64 t.at_) ∧ wr.cell? ⟨g, o + j * 5 + 2, none⟩ = some (.string (strN t.text)) ∧ wr.cell? ⟨g, o + j * 5 + 3, none⟩ = some (.int .u64 (t.n : Int)) ∧ wr.cell? ⟨g, o + j * 5 + 4, none⟩ = some (.slice aj t.kids.length cj) ∧ KidsR w (.slice aj t.kids.length cj) t.kids := by
  obtain ⟨aq, cq, eq, _, _, hk4⟩ := h
  cases eq
  rcases hk4 with hk4 | ⟨g2, o2, cs2, fr2, rfl, hg2, hcr⟩
  · rw [hk4] at hj; simp at hj
  · obtain ⟨aj, cj, d0, d1, d2, d3, d4, hkk⟩ := cellsR_at _ _ _ hcr j _ hj
    have hg2b : g2 < w.heap.size := (Array.getElem?_eq_some_iff.1 hg2).1
    have hg2w : wr.heap[g2]? = some (.cells cs2 25 fr2) := (hb.block g2 hg2b).trans hg2
    exact ⟨g2, o2, aj, cj, rfl, hg2b, (cell_of_row _ g2 (o2 + j * 5) _ _ _ hg2w).trans d0, (cell_of_row _ g2 (o2 + j * 5 + 1) _ _ _ hg2w).trans d1, (cell_of_row _ g2 (o2 + j * 5 + 2) _ _ _ hg2w).trans d2, (cell_of_row _ g2 (o2 + j * 5 + 3) _ _ _ hg2w).trans d3, (cell_of_row _ g2 (o2 + j * 5 + 4) _ _ _ hg2w).trans d4, hkk⟩
theorem cnt_get {ts : List Tree} {i : Nat} {t : Tree} (h : ts[i]? = some t) : cntT t ≤ cntT.cntL ts := by
  induction ts generalizing i with
  | nil => simp at h
  | cons t0 ts ih =>
    rw [cntT.cntL]
    cases i with
    | zero => cases h; omega
    | succ i => have := ih h; omega
set_option maxRecDepth 100000 in
set_option maxHeartbeats 4000000 in
theorem klike_as (p : Bool) : ∀ (N : Nat) (a b : Tree), cntT a ≤ N → eqv p a b → ∀ (w : World) (k x : Int) (s : ByteArray) (n : Int) (v : Value) (k' x' : Int) (s' : ByteArray) (n' : Int) (v' : Value), NodeR w a k x s n v → NodeR w b k' x' s' n' v' →
    Calls Tryz.prog 22 #[.agg #[.int .u8 k, .int .i64 x, .string s, .int .u64 n, v], .agg #[.int .u8 k', .int .i64 x', .string s', .int .u64 n', v'], .bool p] w fun en w' => en = .returned (.bool true) ∧ Below w.heap.size w w' := by
  intro N
  induction N with
  | zero => intro a b h; rw [cnt_one] at h; omega
  | succ N ih =>
    intro a b hN he w k x s n v k' x' s' n' v' ha hb
    have HI : Hid (∀ (a b : Tree), cntT a ≤ N → eqv p a b → ∀ (w : World) (k x : Int) (s : ByteArray) (n : Int) (v : Value) (k' x' : Int) (s' : ByteArray) (n' : Int) (v' : Value), NodeR w a k x s n v → NodeR w b k' x' s' n' v' →
      Calls Tryz.prog 22 #[.agg #[.int .u8 k, .int .i64 x, .string s, .int .u64 n, v], .agg #[.int .u8 k', .int .i64 x', .string s', .int .u64 n', v'], .bool p] w fun en w' => en = .returned (.bool true) ∧ Below w.heap.size w w') := ih
    clear ih
    obtain ⟨e1, e2, e3, e4, e5, e6⟩ := eqv_parts he
    obtain ⟨rfl, rfl, rfl, rfl, hka⟩ := ha
    obtain ⟨rfl, rfl, rfl, rfl, hkb⟩ := hb
    obtain ⟨ao, cap, rfl, _⟩ := id hka
    obtain ⟨bo, cap', rfl, _⟩ := id hkb
    rw [← e1, ← e3, ← e4]
    have HA : Hid (KidsR w (.slice ao a.kids.length cap) a.kids) := hka
    have HB : Hid (KidsR w (.slice bo b.kids.length cap') b.kids) := hkb
    have HE : Hid (∀ (i : Nat) (x y : Tree), a.kids[i]? = some x → b.kids[i]? = some y → eqv p x y) := e6
    have HC : Hid (cntT.cntL a.kids ≤ N) := by unfold Hid; rw [cnt_one] at hN; omega
    have HL : Hid (a.kids.length = b.kids.length) := e5
    obtain ⟨m, hm⟩ : ∃ m, a.kids.length = m := ⟨_, rfl⟩
    have hmb : b.kids.length = m := by rw [← e5, hm]
    rw [hm, hmb]
    have HM : Hid (a.kids.length = m) := hm
    obtain ⟨kk, hkk⟩ : ∃ kk : Int, (a.kind : Int) = kk := ⟨_, rfl⟩
    obtain ⟨ss, hss⟩ : ∃ ss, strN a.text = ss := ⟨_, rfl⟩
    obtain ⟨nn, hnn⟩ : ∃ nn : Int, (a.n : Int) = nn := ⟨_, rfl⟩
    obtain ⟨xa, hxa⟩ : ∃ xa : Int, a.at_ = xa := ⟨_, rfl⟩
    obtain ⟨xb, hxb⟩ : ∃ xb : Int, b.at_ = xb := ⟨_, rfl⟩
    have hpx : p = true → xa = xb := fun hp => by rw [← hxa, ← hxb]; exact e2 hp
    rw [hkk, hss, hnn, hxa, hxb]
    have hmm : m ≤ 9223372036854775807 := by obtain ⟨_, _, q, q1, q2, _⟩ := hka; cases q; omega
    clear he e1 e2 e3 e4 e5 e6 hka hkb hm hmb hkk hss hnn hxa hxb hN
    have hpp : (p && (xa != xb)) = false := by
      cases p with
      | false => rfl
      | true => simp [hpx rfl]
    have hne : (xa != xb) = true → p = false := by intro h; cases p with | false => rfl | true => rw [h] at hpp; cases hpp
    have o1 := (Own.new w #[.int .u8 kk, .int .i64 xa, .string ss, .int .u64 nn, .slice ao m cap] 25).alloc (.cells #[.int .u8 kk, .int .i64 xb, .string ss, .int .u64 nn, .slice bo m cap'] 25)
    have o2 := Own.new (w.alloc (.cells #[.int .u8 kk, .int .i64 xa, .string ss, .int .u64 nn, .slice ao m cap] 25)) #[.int .u8 kk, .int .i64 xb, .string ss, .int .u64 nn, .slice bo m cap'] 25
    rw [World.size_alloc] at o2
    have hb2 : Below w.heap.size w ((w.alloc (.cells #[.int .u8 kk, .int .i64 xa, .string ss, .int .u64 nn, .slice ao m cap] 25)).alloc (.cells #[.int .u8 kk, .int .i64 xb, .string ss, .int .u64 nn, .slice bo m cap'] 25)) := ((Below.refl _ _).alloc (Nat.le_refl _) _).alloc (by rw [World.size_alloc]; omega) _
    have main : ∀ q : Bool, (xa != xb) = q → Calls Tryz.prog 22 #[.agg #[.int .u8 kk, .int .i64 xa, .string ss, .int .u64 nn, .slice ao m cap], .agg #[.int .u8 kk, .int .i64 xb, .string ss, .int .u64 nn, .slice bo m cap'], .bool p] w fun en w' => en = .returned (.bool true) ∧ Below w.heap.size w w' := by
      intro q hq
      cases p
      all_goals
        cases q
        all_goals first
          | (exfalso; exact Bool.noConfusion (hne hq))
          | (
            clear hpp hne hpx
            go_enter Tryz.func22, Tryz.ntmps22
            go_wp2_with fail
            go_loopw [7] (fun iv wr => LikeRel w #[.int .u8 kk, .int .i64 xa, .string ss, .int .u64 nn, .slice ao m cap] #[.int .u8 kk, .int .i64 xb, .string ss, .int .u64 nn, .slice bo m cap'] m iv wr) (fun iv _ => m - (intOf iv).toNat)
            case atStart => exact ⟨0, Nat.zero_le _, rfl, o1, o2, hb2⟩
            case round =>
              clear o1 o2 hb2
              obtain ⟨j, hj, rfl, o1, o2, hb2⟩ := hrel
              obtain ⟨a0, a1, a2, a3, a4, af⟩ := o1.five
              obtain ⟨c0, c1, c2, c3, c4, cf⟩ := o2.five
              have hl1 := o1.lt
              have hl2 := o2.lt
              by_cases hjl : j < m
              · have hja : j < a.kids.length := by rw [HM.out]; exact hjl
                have hjb : j < b.kids.length := by rw [← HL.out]; exact hja
                obtain ⟨ta, hta⟩ : ∃ ta, a.kids[j]? = some ta := ⟨_, List.getElem?_eq_getElem hja⟩
                obtain ⟨tb, htb⟩ : ∃ tb, b.kids[j]? = some tb := ⟨_, List.getElem?_eq_getElem hjb⟩
                have HK1 := HA.out
                have HK2 := HB.out
                obtain ⟨g1, q1, aj, cj, rfl, hg1, f0, f1, f2, f3, f4, hk1⟩ := kids_cells HK1 hb2 j ta hta
                obtain ⟨g2, q2, bj, dj, rfl, hg2, i0, i1, i2, i3, i4, hk2⟩ := kids_cells HK2 hb2 j tb htb
                have hev := HE.out j ta tb hta htb
                have hct : cntT ta ≤ N := Nat.le_trans (cnt_get hta) HC.out
                have hsz := hb2.size
                have CL : ∀ W, Below w.heap.size w W → Calls Tryz.prog 22 #[.agg #[.int .u8 (ta.kind : Int), .int .i64 ta.at_, .string (strN ta.text), .int .u64 (ta.n : Int), .slice aj ta.kids.length cj], .agg #[.int .u8 (tb.kind : Int), .int .i64 tb.at_, .string (strN tb.text), .int .u64 (tb.n : Int), .slice bj tb.kids.length dj], _] W fun en w' => en = .returned (.bool true) ∧ Below W.heap.size W w' :=
                  fun W hW => HI.out ta tb hct hev W _ _ _ _ _ _ _ _ _ _ ⟨rfl, rfl, rfl, rfl, hk1.below hW⟩ ⟨rfl, rfl, rfl, rfl, hk2.below hW⟩
                have hjq : (j : Int) < (m : Int) := by omega
                have hb2d : Below w.heap.size w wr.drew := ⟨hb2.os, hb2.tape, hb2.output, hb2.size, hb2.block⟩
                clear HK1 HK2 hk1 hk2 hev hct hta htb hja hjb
                go_wp2_with fail
                go_region_held3 (fun w' => w'.cell? ⟨w.heap.size, 4, none⟩ = some (.slice (some ⟨g1, q1, none⟩) m cap) ∧ w'.cell? ⟨w.heap.size + 1, 4, none⟩ = some (.slice (some ⟨g2, q2, none⟩) m cap') ∧ w'.cell? ⟨g1, q1 + j * 5, none⟩ = some (.int .u8 (ta.kind : Int)) ∧ w'.cell? ⟨g1, q1 + j * 5 + 1, none⟩ = some (.int .i64 ta.at_) ∧ w'.cell? ⟨g1, q1 + j * 5 + 2, none⟩ = some (.string (strN ta.text)) ∧ w'.cell? ⟨g1, q1 + j * 5 + 3, none⟩ = some (.int .u64 (ta.n : Int)) ∧ w'.cell? ⟨g1, q1 + j * 5 + 4, none⟩ = some (.slice aj ta.kids.length cj) ∧ w'.cell? ⟨g2, q2 + j * 5, none⟩ = some (.int .u8 (tb.kind : Int)) ∧ w'.cell? ⟨g2, q2 + j * 5 + 1, none⟩ = some (.int .i64 tb.at_) ∧ w'.cell? ⟨g2, q2 + j * 5 + 2, none⟩ = some (.string (strN tb.text)) ∧ w'.cell? ⟨g2, q2 + j * 5 + 3, none⟩ = some (.int .u64 (tb.n : Int)) ∧ w'.cell? ⟨g2, q2 + j * 5 + 4, none⟩ = some (.slice bj tb.kids.length dj)) (go_keep) (first | (go_at_call 22; refine (CL _ hb2d).mono ?_; rintro en w7 ⟨rfl, hb7⟩; have o17 := o1.drew.below hb7; have o27 := o2.drew.below hb7; obtain ⟨r0, r1, r2, r3, r4, rf⟩ := o17.five; obtain ⟨z0, z1, z2, z3, z4, zf⟩ := o27.five; have tf0 := (hb7.cell (p := ⟨g1, q1 + j * 5, none⟩) (by rw [World.size_drew]; show g1 < _; omega)).trans f0; have tf1 := (hb7.cell (p := ⟨g1, q1 + j * 5 + 1, none⟩) (by rw [World.size_drew]; show g1 < _; omega)).trans f1; have tf2 := (hb7.cell (p := ⟨g1, q1 + j * 5 + 2, none⟩) (by rw [World.size_drew]; show g1 < _; omega)).trans f2; have tf3 := (hb7.cell (p := ⟨g1, q1 + j * 5 + 3, none⟩) (by rw [World.size_drew]; show g1 < _; omega)).trans f3; have tf4 := (hb7.cell (p := ⟨g1, q1 + j * 5 + 4, none⟩) (by rw [World.size_drew]; show g1 < _; omega)).trans f4; have ti0 := (hb7.cell (p := ⟨g2, q2 + j * 5, none⟩) (by rw [World.size_drew]; show g2 < _; omega)).trans i0; have ti1 := (hb7.cell (p := ⟨g2, q2 + j * 5 + 1, none⟩) (by rw [World.size_drew]; show g2 < _; omega)).trans i1; have ti2 := (hb7.cell (p := ⟨g2, q2 + j * 5 + 2, none⟩) (by rw [World.size_drew]; show g2 < _; omega)).trans i2; have ti3 := (hb7.cell (p := ⟨g2, q2 + j * 5 + 3, none⟩) (by rw [World.size_drew]; show g2 < _; omega)).trans i3; have ti4 := (hb7.cell (p := ⟨g2, q2 + j * 5 + 4, none⟩) (by rw [World.size_drew]; show g2 < _; omega)).trans i4))
                all_goals
                  have hb8 : Below w.heap.size w w7 := hb2d.trans (hb7.mono (by rw [World.size_drew]; exact hsz))
                  go_wp2
                  go_roundw
                  case rel => exact ⟨j + 1, by omega, by go_num, o17, o27, hb8⟩
                  case measure => simp [intOf]; omega
              · have hjq : ¬ ((j : Int) < (m : Int)) := by omega
                go_wp2
                go_ret
                exact ⟨rfl, hb2⟩)
    exact main _ rfl
set_option maxRecDepth 100000 in
theorem kLikeNode_as {a b : Tree} (he : eqv false a b) (w : World) (k x : Int) (s : ByteArray) (n : Int) (v : Value) (k' x' : Int) (s' : ByteArray) (n' : Int) (v' : Value) (ha : NodeR w a k x s n v) (hb : NodeR w b k' x' s' n' v') :
    Calls Tryz.prog 16 #[.agg #[.int .u8 k, .int .i64 x, .string s, .int .u64 n, v], .agg #[.int .u8 k', .int .i64 x', .string s', .int .u64 n', v']] w fun en w' => en = .returned (.bool true) ∧ Below w.heap.size w w' := by
  obtain ⟨ao, cap, rfl, _⟩ := id ha.2.2.2.2
  obtain ⟨bo, cap', rfl, _⟩ := id hb.2.2.2.2
  have hb2 : Below w.heap.size w ((w.alloc (.cells #[.int .u8 k, .int .i64 x, .string s, .int .u64 n, .slice ao a.kids.length cap] 25)).alloc (.cells #[.int .u8 k', .int .i64 x', .string s', .int .u64 n', .slice bo b.kids.length cap'] 25)) := ((Below.refl _ _).alloc (Nat.le_refl _) _).alloc (by rw [World.size_alloc]; omega) _
  have CL := klike_as false _ a b (Nat.le_refl _) he _ _ _ _ _ _ _ _ _ _ _ (ha.below hb2) (hb.below hb2)
  clear ha hb
  go_enter Tryz.func16, Tryz.ntmps16
  go_wp2_with fail
  refine CL.mono ?_
  rintro en w1 ⟨rfl, hb3⟩
  go_wp2
  go_ret
  exact ⟨rfl, hb2.trans (hb3.mono hb2.size)⟩
set_option maxRecDepth 100000 in
theorem kSameNode_as {a b : Tree} (he : eqv true a b) (w : World) (k x : Int) (s : ByteArray) (n : Int) (v : Value) (k' x' : Int) (s' : ByteArray) (n' : Int) (v' : Value) (ha : NodeR w a k x s n v) (hb : NodeR w b k' x' s' n' v') :
    Calls Tryz.prog 12 #[.agg #[.int .u8 k, .int .i64 x, .string s, .int .u64 n, v], .agg #[.int .u8 k', .int .i64 x', .string s', .int .u64 n', v']] w fun en w' => en = .returned (.bool true) ∧ Below w.heap.size w w' := by
  have hxx : x = x' := by rw [ha.2.1, hb.2.1]; exact (eqv_parts he).2.1 rfl
  subst hxx
  obtain ⟨ao, cap, rfl, _⟩ := id ha.2.2.2.2
  obtain ⟨bo, cap', rfl, _⟩ := id hb.2.2.2.2
  have hb2 : Below w.heap.size w ((w.alloc (.cells #[.int .u8 k, .int .i64 x, .string s, .int .u64 n, .slice ao a.kids.length cap] 25)).alloc (.cells #[.int .u8 k', .int .i64 x, .string s', .int .u64 n', .slice bo b.kids.length cap'] 25)) := ((Below.refl _ _).alloc (Nat.le_refl _) _).alloc (by rw [World.size_alloc]; omega) _
  have CL := klike_as true _ a b (Nat.le_refl _) he _ _ _ _ _ _ _ _ _ _ _ (ha.below hb2) (hb.below hb2)
  clear ha hb
  go_enter Tryz.func12, Tryz.ntmps12
  go_wp2_with fail
  refine CL.mono ?_
  rintro en w1 ⟨rfl, hb3⟩
  go_wp2
  go_ret
  exact ⟨rfl, hb2.trans (hb3.mono hb2.size)⟩
end Go.Proofs.YtkagkofgfjhfgaaGreatDoor
