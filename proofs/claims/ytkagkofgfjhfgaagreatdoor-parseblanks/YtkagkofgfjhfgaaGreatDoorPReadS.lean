/-
  CONTRACTS of the landed parser's read, Source, Expr, Type: what a text is read as.
-/
import Derived.Test.YtkagkofgfjhfgaaGreatDoorJPart3
import Derived.Test.YtkagkofgfjhfgaaGreatDoorJXEnd
import Derived.Test.YtkagkofgfjhfgaaGreatDoorJMath
namespace Go.Proofs.YtkagkofgfjhfgaaGreatDoor
open Go.RowKit
set_option linter.unusedVariables false

/-- A text read as one part. -/
def readS (m : P Tree) (l : List Nat) : Option (Except (Nat × Nat) Tree) := match tokens l with
  | .error e => some (.error e)
  | .ok ts => readP m l.length ts
/-- What a reading answers. -/
def ReadIs (w : World) (R : Except (Nat × Nat) Tree) (en : Ending) (w' : World) : Prop := Below w.heap.size w w' ∧ match R with
  | .error (p, e) => en = .returned (.tuple #[.agg #[.int .u8 0, .int .i64 0, .string ⟨#[]⟩, .int .u64 0, .slice none 0 0], .int .i64 (p : Int), .int .i64 (e : Int)])
  | .ok t => ∃ k a b n v, en = .returned (.tuple #[.agg #[.int .u8 k, .int .i64 a, .string b, .int .u64 n, v], .int .i64 0, .int .i64 0]) ∧ NodeIs w' w.heap.size t k a b n v
theorem esc_enz {r : List Nat} {e : Nat} (h : escN r = .error e) : e ≠ 0 := by
  unfold escN at h
  repeat' (first | (cases h; decide; done) | (cases h; done) | split at h)
theorem text_enz : ∀ (f : Nat) (l : List Nat) (p : Option Nat) (e : Nat), textN f l = .error (p, e) → e ≠ 0 := by
  intro f
  induction f with
  | zero => intro l p e h; simp [textN] at h; omega
  | succ f ih =>
    intro l p e h
    cases l with
    | nil => simp [textN] at h; omega
    | cons c r =>
      unfold textN at h
      split at h
      · cases h; decide
      · split at h
        · cases h
        · split at h
          · cases hr : textN f r with
            | error x =>
              obtain ⟨q, e2⟩ := x
              have := ih _ _ _ hr
              rw [hr] at h
              cases q <;> cases h <;> exact this
            | ok x => obtain ⟨o1, n1⟩ := x; rw [hr] at h; cases h
          · cases he : escN r with
            | error e2 =>
              have := esc_enz he
              rw [he] at h
              simp only at h
              split at h
              · cases h; decide
              · cases h; exact this
            | ok x =>
              obtain ⟨b, k⟩ := x
              rw [he] at h
              simp only at h
              cases hr : textN f (r.drop (k - 1)) with
              | error x =>
                obtain ⟨q, e2⟩ := x
                have := ih _ _ _ hr
                rw [hr] at h
                cases q <;> cases h <;> exact this
              | ok x => obtain ⟨o1, n1⟩ := x; rw [hr] at h; cases h
theorem one_enz (l : List Nat) (p e : Nat) (h : oneN l = .error (p, e)) : e ≠ 0 := by
  cases l with
  | nil => simp [oneN] at h; omega
  | cons c r =>
    unfold oneN at h
    simp only at h
    split at h
    · cases h
    · split at h
      · split at h
        · cases h
        · cases h; decide
      · split at h
        · cases hr : textN (r.length + 1) r with
          | error x =>
            obtain ⟨q, e2⟩ := x
            have := text_enz _ _ _ _ hr
            rw [hr] at h
            cases q <;> cases h <;> exact this
          | ok x => obtain ⟨o1, n1⟩ := x; rw [hr] at h; cases h
        · cases hs : signX (c :: r) with
          | none => rw [hs] at h; cases h; decide
          | some x => rw [hs] at h; cases h
theorem toks_enz : ∀ (f k at0 : Nat) (l : List Nat) (p e : Nat), toksN f k at0 l = .error (p, e) → e ≠ 0 := by
  intro f
  induction f with
  | zero => intro k at0 l p e h; simp [toksN] at h
  | succ f ih =>
    intro k at0 l p e h
    unfold toksN at h
    simp only at h
    split at h
    · cases h
    · split at h
      · cases h; decide
      · cases ho : oneN (l.drop (blankN false l)) with
        | error x =>
          obtain ⟨q, e2⟩ := x
          have := one_enz _ _ _ ho
          rw [ho] at h
          cases h; exact this
        | ok x =>
          obtain ⟨kd, tx, n, len⟩ := x
          rw [ho] at h
          simp only at h
          cases hr : toksN f (k + 1) (at0 + blankN false l + len) (l.drop (blankN false l + len)) with
          | error x => rw [hr] at h; cases h; exact ih _ _ _ _ _ hr
          | ok us => rw [hr] at h; cases h
theorem tokens_enz (l : List Nat) (p e : Nat) (h : tokens l = .error (p, e)) : e ≠ 0 := by
  unfold tokens at h
  split at h
  · cases h; decide
  · exact toks_enz _ _ _ _ _ _ h
set_option maxRecDepth 100000 in
set_option maxHeartbeats 4000000 in
theorem pread_as {fn : Nat} {m : P Tree} {c : Nat} (hc : c ≤ 1000000000) (hfn : FnIs fn) (HP : PartAs fn m c) (s : ByteArray) (h : s.size ≤ 1048576) (R : Except (Nat × Nat) Tree) (HR : Hid (readS m (bytesN s) = some R)) (w : World) (hL : Laid w) :
    Calls Tryz.prog 17 #[.string s, .func (.func fn) #[] #[]] w (ReadIs w R) := by
  cases htk : tokens (bytesN s) with
  | error x =>
    obtain ⟨p, e⟩ := x
    have HRR : Hid (R = .error (p, e)) := by have := HR.out; unfold readS at this; rw [htk] at this; exact (Option.some.inj this).symm
    have hne : ((e : Int) != 0) = true := by have := tokens_enz _ _ _ htk; simp; omega
    have HT : Hid (tokens (bytesN s) = .error (p, e)) := htk
    clear htk HR
    go_enter Tryz.func17, Tryz.ntmps17
    go_wp2_with fail
    refine (xtokens_any s h _ HT _ (hL.on ((Below.refl _ _).alloc (Nat.le_refl _) _))).mono ?_
    rintro en w1 hg
    obtain ⟨rfl, hb⟩ : en = .returned (.tuple #[.slice none 0 0, .int .i64 (p : Int), .int .i64 (e : Int)]) ∧ Below _ _ w1 := hg
    have o := (Own.new w #[.int .u8 0, .int .i64 0, .string ⟨#[]⟩, .int .u64 0, .slice none 0 0] 25).below hb
    obtain ⟨o0, o1, o2, o3, o4, of⟩ := o.five
    have hb2 : Below w.heap.size w w1 := ((Below.refl _ _).alloc (Nat.le_refl _) _).trans (hb.mono (by rw [World.size_alloc]; omega))
    go_wp2_with (refine wpList_put5 rfl (.tmp 4) (.tmp 20) rfl rfl w.heap.size rfl rfl o ⟨rfl, rfl, rfl, rfl, rfl⟩ ?_; intro wz oz gz)
    refine bodyPost_cell3 (t := 25) rfl rfl rfl oz Tryz.underlying25 rfl (by kernel_rfl) ?_
    refine ⟨hb2.trans ⟨gz.os, gz.tape, gz.output, gz.size, fun k hk => gz.block k (Nat.lt_of_lt_of_le hk hb2.size) (by intro q; have := Option.some.inj q; omega)⟩, ?_⟩
    rw [HRR.out]
    rfl
  | ok ts =>
    have HT : Hid (tokens (bytesN s) = .ok ts) := htk
    obtain ⟨hgl, hgt⟩ := tokens_good _ _ htk (bytesN_lt s)
    have hRd : readP m s.size ts = some R := by have := HR.out; unfold readS at this; rw [htk, bytesN_length] at this; exact this
    unfold readP at hRd
    match hm : m s.size 0 ⟨ts, 0, 0⟩, hRd with
    | some (t, s'), hRd =>
    have HR2 : Hid ((let s1 := if s'.rest.isEmpty then s' else refS s.size s'; if s1.wrong = 0 then Except.ok t else .error (s1.place, s1.wrong)) = R) := Option.some.inj hRd
    clear htk HR hRd
    have hfn2 : ∀ (a : Array Value) (w : World), (callFunc fn a).run Tryz.prog w = .ok (.enter fn a) w := hfn
    go_enter Tryz.func17, Tryz.ntmps17
    go_wp2_with fail
    refine (xtokens_any s h _ HT _ (hL.on ((Below.refl _ _).alloc (Nat.le_refl _) _))).mono ?_
    rintro en w1 hg
    obtain ⟨v, rfl, hown, hb⟩ : ∃ v, en = .returned (.tuple #[v, .int .i64 0, .int .i64 0]) ∧ w1.ownsRow _ 39 5 v ts.length (rowT ts) ∧ Below _ _ w1 := hg
    have o := (Own.new w #[.int .u8 0, .int .i64 0, .string ⟨#[]⟩, .int .u64 0, .slice none 0 0] 25).below hb
    have hb2 : Below w.heap.size w w1 := ((Below.refl _ _).alloc (Nat.le_refl _) _).trans (hb.mono (by rw [World.size_alloc]; omega))
    have hsw := hb2.size
    have hol := o.lt
    have hTI : ToksIn w1 w1.heap.size v ts := by
      rcases hown.2 with ⟨rfl, h0⟩ | ⟨g, cap, cur, rfl, hg, ho, r1, r2, r3, r4⟩
      · exact ⟨none, 0, by rw [h0], by omega, by omega, by omega, hgt, .inl (List.eq_nil_of_length_eq_zero h0)⟩
      · refine ⟨_, cap, rfl, r1, by unfold maxLen at r2; omega, by omega, hgt, .inr ⟨g, 0, cur, (0, 0), rfl, (Array.getElem?_eq_some_iff.1 ho).1, ho, fun j hj => ?_⟩⟩
        rw [Nat.zero_add, ← r4, List.getElem?_take, if_pos hj, Array.getElem?_toList]
    obtain ⟨ao, cap, rfl⟩ : ∃ ao cap, v = .slice ao ts.length cap := by obtain ⟨ao, cap, q, _⟩ := hTI; exact ⟨ao, cap, q⟩
    have hz : (s.size : Int) ≤ 1048576 := by omega
    clear hown HT
    go_upto_region 5 with fail
    have hR : RdAt (w1.alloc (.cells #[.slice ao ts.length cap, .int .i64 (s.size : Int), .int .i64 0, .int .i64 0, .int .i64 0] 64)) w1.heap.size s.size 0 ⟨ts, 0, 0⟩ := ⟨_, Own.new w1 _ _, hTI.on fun g hg => Below.heap_alloc w1 _ g hg⟩
    replace o := o.alloc (.cells #[.slice ao ts.length cap, .int .i64 (s.size : Int), .int .i64 0, .int .i64 0, .int .i64 0] 64)
    have hb3 : Below w.heap.size w (w1.alloc (.cells #[.slice ao ts.length cap, .int .i64 (s.size : Int), .int .i64 0, .int .i64 0, .int .i64 0] 64)) := hb2.alloc hsw _
    have hs2 : w1.heap.size < (w1.alloc (.cells #[.slice ao ts.length cap, .int .i64 (s.size : Int), .int .i64 0, .int .i64 0, .int .i64 0] 64)).heap.size := by rw [World.size_alloc]; omega
    generalize hw : w1.alloc (.cells #[.slice ao ts.length cap, .int .i64 (s.size : Int), .int .i64 0, .int .i64 0, .int .i64 0] 64) = w2 at hR o hb3 hs2 ⊢
    clear hw hTI hb hb2
    have hK := Kp.refl w1.heap.size w2
    obtain ⟨r, hr⟩ : ∃ r, w1.heap.size = r := ⟨_, rfl⟩
    rw [hr] at hR hK hs2 hsw hol ⊢
    clear hr
    have hrl := hR.lt
    go_wp2_with fail
    refine (HP _ _ _ _ _ _ _ hR (by omega) (by omega) hm).mono ?_
    rintro en w3 ⟨k1, a1, b1, n1x, v1, rfl, n1, hR2, hK2⟩
    obtain ⟨ao_n1, cap_n1, rfl⟩ := n1.2.2.2.2.shape
    have hs3 := (((Kp.refl r w2)).trans hK2).size
    replace o := (o).kp hK2 (by omega)
    replace hK := (hK).trans hK2
    replace hR := hR2
    clear hK2 hR2
    have n1i := KI.refl w2.heap.size w3.heap.size w3
    go_upto_region 6 with fail
    have hznd := hR.lt
    have hknd := hK.size
    have nd := Own.new w3 #[.int .u8 k1, .int .i64 a1, .string b1, .int .u64 n1x, .slice ao_n1 t.kids.length cap_n1] 25
    replace hR := hR.alloc (.cells #[.int .u8 k1, .int .i64 a1, .string b1, .int .u64 n1x, .slice ao_n1 t.kids.length cap_n1] 25)
    replace hK := hK.alloc (.cells #[.int .u8 k1, .int .i64 a1, .string b1, .int .u64 n1x, .slice ao_n1 t.kids.length cap_n1] 25)
    replace o := o.alloc (.cells #[.int .u8 k1, .int .i64 a1, .string b1, .int .u64 n1x, .slice ao_n1 t.kids.length cap_n1] 25)
    replace n1i := n1i.alloc (by omega) (.cells #[.int .u8 k1, .int .i64 a1, .string b1, .int .u64 n1x, .slice ao_n1 t.kids.length cap_n1] 25)
    generalize hw : w3.alloc (.cells #[.int .u8 k1, .int .i64 a1, .string b1, .int .u64 n1x, .slice ao_n1 t.kids.length cap_n1] 25) = w4 at hR hK nd o n1i ⊢
    clear hw
    have hs4 := nd.lt
    go_wp2_with fail
    refine (pdone_as hR).mono ?_
    rintro en _ ⟨rfl, rfl⟩
    cases hie : s'.rest.isEmpty with
    | false =>
      have HR3 : Hid ((if (refS s.size s').wrong = 0 then Except.ok t else .error ((refS s.size s').place, (refS s.size s').wrong)) = R) := by have := HR2.out; rw [hie] at this; exact this
      clear hie HR2
      go_wp2_with fail
      refine (prefuse_as hR (by omega)).mono ?_
      rintro en w5 ⟨⟨_, rfl⟩, hR2, hK2⟩
      have hs5 := (((Kp.refl r w4)).trans hK2).size
      replace o := (o).kp hK2 (by omega)
      replace nd := (nd).kp hK2 (by omega)
      replace n1i := n1i.kp (by omega) (((Kp.refl r _)).trans hK2) (by omega)
      replace hK := (hK).trans hK2
      replace hR := hR2
      clear hK2 hR2
      obtain ⟨vv, hv1, hv2⟩ := id hR
      obtain ⟨y0, y1, y2, y3, y4, yf⟩ := hv1.five
      clear hv1 hv2
      by_cases hw0 : (refS s.size s').wrong = 0
      · rw [hw0] at y3
        have HR4 : Hid (Except.ok t = R) := by have := HR3.out; rw [if_pos hw0] at this; exact this
        clear hw0
        obtain ⟨nd0, nd1, nd2, nd3, nd4, ndf⟩ := nd.five
        go_wp2_with (refine wpList_put5 rfl (.tmp 4) (.tmp 53) rfl rfl w.heap.size rfl rfl o ⟨rfl, rfl, rfl, rfl, rfl⟩ ?_; intro wz oz gz)
        refine bodyPost_cell3 (t := 25) rfl rfl rfl oz Tryz.underlying25 rfl (by kernel_rfl) ?_
        have hb4 := Below.kp hb3 (by omega) hK
        refine ⟨hb4.trans ⟨gz.os, gz.tape, gz.output, gz.size, fun k hk => gz.block k (Nat.lt_of_lt_of_le hk hb4.size) (by intro q; have := Option.some.inj q; omega)⟩, ?_⟩
        rw [← HR4.out]
        exact ⟨_, _, _, _, _, rfl, (n1.ki (n1i.grown (by omega) gz (by omega)) (Nat.le_refl _)).mono (by omega)⟩
      · have HR4 : Hid (Except.error ((refS s.size s').place, (refS s.size s').wrong) = R) := by have := HR3.out; rw [if_neg hw0] at this; exact this
        have hwn : (((refS s.size s').wrong : Int) != 0) = true := by simp; omega
        obtain ⟨wi, hwi⟩ : ∃ wi : Int, ((refS s.size s').wrong : Int) = wi := ⟨_, rfl⟩
        obtain ⟨pi, hpi⟩ : ∃ pi : Int, ((refS s.size s').place : Int) = pi := ⟨_, rfl⟩
        have HWI : Hid (((refS s.size s').wrong : Int) = wi) := hwi
        have HPI : Hid (((refS s.size s').place : Int) = pi) := hpi
        rw [hwi] at y3 hwn
        rw [hpi] at y4
        clear hwi hpi hw0
        have hob := o.lt
        obtain ⟨o0, o1, o2, o3, o4, of⟩ := o.five
        go_wp2_with fail
        go_region
        all_goals
          go_wp2
          refine bodyPost_cell3 (t := 25) rfl rfl rfl (o.drew.set5 _ _ _ _ _) Tryz.underlying25 rfl (by kernel_rfl) ?_
          have hb4 := Below.kp hb3 (by omega) hK.drew
          refine ⟨set5_below hb4 (Nat.le_refl _), ?_⟩
          rw [← HR4.out]
          show _ = Ending.returned (.tuple #[.agg _, .int .i64 ((refS s.size s').place : Int), .int .i64 ((refS s.size s').wrong : Int)])
          rw [HWI.out, HPI.out]
          rfl
    | true =>
      have HR3 : Hid ((if s'.wrong = 0 then Except.ok t else .error (s'.place, s'.wrong)) = R) := by have := HR2.out; rw [hie] at this; exact this
      clear hie HR2
      obtain ⟨vv, hv1, hv2⟩ := id hR
      obtain ⟨y0, y1, y2, y3, y4, yf⟩ := hv1.five
      clear hv1 hv2
      by_cases hw0 : s'.wrong = 0
      · rw [hw0] at y3
        have HR4 : Hid (Except.ok t = R) := by have := HR3.out; rw [if_pos hw0] at this; exact this
        clear hw0
        obtain ⟨nd0, nd1, nd2, nd3, nd4, ndf⟩ := nd.five
        go_wp2_with (refine wpList_put5 rfl (.tmp 4) (.tmp 53) rfl rfl w.heap.size rfl rfl o ⟨rfl, rfl, rfl, rfl, rfl⟩ ?_; intro wz oz gz)
        refine bodyPost_cell3 (t := 25) rfl rfl rfl oz Tryz.underlying25 rfl (by kernel_rfl) ?_
        have hb4 := Below.kp hb3 (by omega) hK
        refine ⟨hb4.trans ⟨gz.os, gz.tape, gz.output, gz.size, fun k hk => gz.block k (Nat.lt_of_lt_of_le hk hb4.size) (by intro q; have := Option.some.inj q; omega)⟩, ?_⟩
        rw [← HR4.out]
        exact ⟨_, _, _, _, _, rfl, (n1.ki (n1i.grown (by omega) gz (by omega)) (Nat.le_refl _)).mono (by omega)⟩
      · have HR4 : Hid (Except.error (s'.place, s'.wrong) = R) := by have := HR3.out; rw [if_neg hw0] at this; exact this
        have hwn : ((s'.wrong : Int) != 0) = true := by simp; omega
        obtain ⟨wi, hwi⟩ : ∃ wi : Int, (s'.wrong : Int) = wi := ⟨_, rfl⟩
        obtain ⟨pi, hpi⟩ : ∃ pi : Int, (s'.place : Int) = pi := ⟨_, rfl⟩
        have HWI : Hid ((s'.wrong : Int) = wi) := hwi
        have HPI : Hid ((s'.place : Int) = pi) := hpi
        rw [hwi] at y3 hwn
        rw [hpi] at y4
        clear hwi hpi hw0
        have hob := o.lt
        obtain ⟨o0, o1, o2, o3, o4, of⟩ := o.five
        go_wp2_with fail
        go_region
        all_goals
          go_wp2
          refine bodyPost_cell3 (t := 25) rfl rfl rfl (o.drew.set5 _ _ _ _ _) Tryz.underlying25 rfl (by kernel_rfl) ?_
          have hb4 := Below.kp hb3 (by omega) hK.drew
          refine ⟨set5_below hb4 (Nat.le_refl _), ?_⟩
          rw [← HR4.out]
          show _ = Ending.returned (.tuple #[.agg _, .int .i64 (s'.place : Int), .int .i64 (s'.wrong : Int)])
          rw [HWI.out, HPI.out]
          rfl
set_option maxRecDepth 100000 in
set_option maxHeartbeats 1000000 in
theorem pSource_as {m : P Tree} {c : Nat} (hc : c ≤ 1000000000) (HP : PartAs 18 m c) (s : ByteArray) (h : s.size ≤ 1048576) (R : Except (Nat × Nat) Tree) (HR : Hid (readS m (bytesN s) = some R)) (w : World) (hL : Laid w) :
    Calls Tryz.prog 7 #[.string s] w (ReadIs w R) := by
  have hf := fn_program
  go_enter Tryz.func7, Tryz.ntmps7
  go_wp2_with fail
  refine (pread_as hc hf HP s h R HR _ (hL.on ((Below.refl _ _).alloc (Nat.le_refl _) _))).mono ?_
  rintro en w1 ⟨hb, hg⟩
  have o := (Own.new w #[.int .u8 0, .int .i64 0, .string ⟨#[]⟩, .int .u64 0, .slice none 0 0] 25).below hb
  have hb2 : Below w.heap.size w w1 := ((Below.refl _ _).alloc (Nat.le_refl _) _).trans (hb.mono (by rw [World.size_alloc]; omega))
  have hsx := hb.size
  rw [World.size_alloc] at hsx
  cases R with
  | error x =>
    obtain ⟨p, e⟩ := x
    obtain rfl : en = .returned (.tuple #[.agg #[.int .u8 0, .int .i64 0, .string ⟨#[]⟩, .int .u64 0, .slice none 0 0], .int .i64 (p : Int), .int .i64 (e : Int)]) := hg
    go_wp2_with (refine wpList_put5 rfl (.tmp 2) (.tmp 7) rfl rfl w.heap.size rfl rfl o ⟨rfl, rfl, rfl, rfl, rfl⟩ ?_; intro wz oz gz)
    refine bodyPost_cell3 (t := 25) rfl rfl rfl oz Tryz.underlying25 rfl (by kernel_rfl) ?_
    exact ⟨hb2.trans ⟨gz.os, gz.tape, gz.output, gz.size, fun k hk => gz.block k (Nat.lt_of_lt_of_le hk hb2.size) (by intro q; have := Option.some.inj q; omega)⟩, rfl⟩
  | ok t =>
    obtain ⟨k, a, b, n, v, rfl, hN⟩ : ∃ k a b n v, en = .returned (.tuple #[.agg #[.int .u8 k, .int .i64 a, .string b, .int .u64 n, v], .int .i64 0, .int .i64 0]) ∧ NodeIs w1 _ t k a b n v := hg
    rw [World.size_alloc] at hN
    go_wp2_with (refine wpList_put5 rfl (.tmp 2) (.tmp 7) rfl rfl w.heap.size rfl rfl o ⟨rfl, rfl, rfl, rfl, hN.2.2.2.2.one1⟩ ?_; intro wz oz gz)
    refine bodyPost_cell3 (t := 25) rfl rfl rfl oz Tryz.underlying25 rfl (by kernel_rfl) ?_
    exact ⟨hb2.trans ⟨gz.os, gz.tape, gz.output, gz.size, fun k hk => gz.block k (Nat.lt_of_lt_of_le hk hb2.size) (by intro q; have := Option.some.inj q; omega)⟩, _, _, _, _, _, rfl, (hN.row fun x => x.grown gz (by omega)).mono (by omega)⟩
set_option maxRecDepth 100000 in
set_option maxHeartbeats 1000000 in
theorem pExpr_as {m : P Tree} {c : Nat} (hc : c ≤ 1000000000) (HP : PartAs 19 m c) (s : ByteArray) (h : s.size ≤ 1048576) (R : Except (Nat × Nat) Tree) (HR : Hid (readS m (bytesN s) = some R)) (w : World) (hL : Laid w) :
    Calls Tryz.prog 8 #[.string s] w (ReadIs w R) := by
  have hf := fn_expr
  go_enter Tryz.func8, Tryz.ntmps8
  go_wp2_with fail
  refine (pread_as hc hf HP s h R HR _ (hL.on ((Below.refl _ _).alloc (Nat.le_refl _) _))).mono ?_
  rintro en w1 ⟨hb, hg⟩
  have o := (Own.new w #[.int .u8 0, .int .i64 0, .string ⟨#[]⟩, .int .u64 0, .slice none 0 0] 25).below hb
  have hb2 : Below w.heap.size w w1 := ((Below.refl _ _).alloc (Nat.le_refl _) _).trans (hb.mono (by rw [World.size_alloc]; omega))
  have hsx := hb.size
  rw [World.size_alloc] at hsx
  cases R with
  | error x =>
    obtain ⟨p, e⟩ := x
    obtain rfl : en = .returned (.tuple #[.agg #[.int .u8 0, .int .i64 0, .string ⟨#[]⟩, .int .u64 0, .slice none 0 0], .int .i64 (p : Int), .int .i64 (e : Int)]) := hg
    go_wp2_with (refine wpList_put5 rfl (.tmp 2) (.tmp 7) rfl rfl w.heap.size rfl rfl o ⟨rfl, rfl, rfl, rfl, rfl⟩ ?_; intro wz oz gz)
    refine bodyPost_cell3 (t := 25) rfl rfl rfl oz Tryz.underlying25 rfl (by kernel_rfl) ?_
    exact ⟨hb2.trans ⟨gz.os, gz.tape, gz.output, gz.size, fun k hk => gz.block k (Nat.lt_of_lt_of_le hk hb2.size) (by intro q; have := Option.some.inj q; omega)⟩, rfl⟩
  | ok t =>
    obtain ⟨k, a, b, n, v, rfl, hN⟩ : ∃ k a b n v, en = .returned (.tuple #[.agg #[.int .u8 k, .int .i64 a, .string b, .int .u64 n, v], .int .i64 0, .int .i64 0]) ∧ NodeIs w1 _ t k a b n v := hg
    rw [World.size_alloc] at hN
    go_wp2_with (refine wpList_put5 rfl (.tmp 2) (.tmp 7) rfl rfl w.heap.size rfl rfl o ⟨rfl, rfl, rfl, rfl, hN.2.2.2.2.one1⟩ ?_; intro wz oz gz)
    refine bodyPost_cell3 (t := 25) rfl rfl rfl oz Tryz.underlying25 rfl (by kernel_rfl) ?_
    exact ⟨hb2.trans ⟨gz.os, gz.tape, gz.output, gz.size, fun k hk => gz.block k (Nat.lt_of_lt_of_le hk hb2.size) (by intro q; have := Option.some.inj q; omega)⟩, _, _, _, _, _, rfl, (hN.row fun x => x.grown gz (by omega)).mono (by omega)⟩
set_option maxRecDepth 100000 in
set_option maxHeartbeats 1000000 in
theorem pType_as {m : P Tree} {c : Nat} (hc : c ≤ 1000000000) (HP : PartAs 20 m c) (s : ByteArray) (h : s.size ≤ 1048576) (R : Except (Nat × Nat) Tree) (HR : Hid (readS m (bytesN s) = some R)) (w : World) (hL : Laid w) :
    Calls Tryz.prog 9 #[.string s] w (ReadIs w R) := by
  have hf := fn_typeOf
  go_enter Tryz.func9, Tryz.ntmps9
  go_wp2_with fail
  refine (pread_as hc hf HP s h R HR _ (hL.on ((Below.refl _ _).alloc (Nat.le_refl _) _))).mono ?_
  rintro en w1 ⟨hb, hg⟩
  have o := (Own.new w #[.int .u8 0, .int .i64 0, .string ⟨#[]⟩, .int .u64 0, .slice none 0 0] 25).below hb
  have hb2 : Below w.heap.size w w1 := ((Below.refl _ _).alloc (Nat.le_refl _) _).trans (hb.mono (by rw [World.size_alloc]; omega))
  have hsx := hb.size
  rw [World.size_alloc] at hsx
  cases R with
  | error x =>
    obtain ⟨p, e⟩ := x
    obtain rfl : en = .returned (.tuple #[.agg #[.int .u8 0, .int .i64 0, .string ⟨#[]⟩, .int .u64 0, .slice none 0 0], .int .i64 (p : Int), .int .i64 (e : Int)]) := hg
    go_wp2_with (refine wpList_put5 rfl (.tmp 2) (.tmp 7) rfl rfl w.heap.size rfl rfl o ⟨rfl, rfl, rfl, rfl, rfl⟩ ?_; intro wz oz gz)
    refine bodyPost_cell3 (t := 25) rfl rfl rfl oz Tryz.underlying25 rfl (by kernel_rfl) ?_
    exact ⟨hb2.trans ⟨gz.os, gz.tape, gz.output, gz.size, fun k hk => gz.block k (Nat.lt_of_lt_of_le hk hb2.size) (by intro q; have := Option.some.inj q; omega)⟩, rfl⟩
  | ok t =>
    obtain ⟨k, a, b, n, v, rfl, hN⟩ : ∃ k a b n v, en = .returned (.tuple #[.agg #[.int .u8 k, .int .i64 a, .string b, .int .u64 n, v], .int .i64 0, .int .i64 0]) ∧ NodeIs w1 _ t k a b n v := hg
    rw [World.size_alloc] at hN
    go_wp2_with (refine wpList_put5 rfl (.tmp 2) (.tmp 7) rfl rfl w.heap.size rfl rfl o ⟨rfl, rfl, rfl, rfl, hN.2.2.2.2.one1⟩ ?_; intro wz oz gz)
    refine bodyPost_cell3 (t := 25) rfl rfl rfl oz Tryz.underlying25 rfl (by kernel_rfl) ?_
    exact ⟨hb2.trans ⟨gz.os, gz.tape, gz.output, gz.size, fun k hk => gz.block k (Nat.lt_of_lt_of_le hk hb2.size) (by intro q; have := Option.some.inj q; omega)⟩, _, _, _, _, _, rfl, (hN.row fun x => x.grown gz (by omega)).mono (by omega)⟩
end Go.Proofs.YtkagkofgfjhfgaaGreatDoor
