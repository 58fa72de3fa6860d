import Derived.Test.YtmhnbklchnnbaaaGreatDoorJPart3
import Derived.Test.YtmhnbklchnnbaaaGreatDoorJXEnd
import Derived.Test.YtmhnbklchnnbaaaGreatDoorQ6
import Derived.Test.YtmhnbklchnnbaaaGreatDoorJCkFits
import Derived.Test.YtmhnbklchnnbaaaGreatDoorQ17
set_option maxHeartbeats 4000000
set_option maxRecDepth 100000
namespace Go.Proofs.YtmhnbklchnnbaaaGreatDoor
open Go.RowKit
set_option linter.unusedVariables false
def readS (m : P Tree) (l : List Nat) : Option (Except (Nat × Nat) Tree) := match tokens l with
  | .error e => some (.error e)
  | .ok ts => readP m l.length ts
def ReadIs (w : World) (R : Except (Nat × Nat) Tree) (en : Ending) (w' : World) : Prop := Below w.heap.size w w' ∧ match R with
  | .error (p, e) => en = .returned (.tuple #[.agg #[.int .u8 0, .int .i64 0, .string ⟨#[]⟩, .int .u64 0, .slice none 0 0], .int .i64 (p : Int), .int .i64 (e : Int)])
  | .ok t => ∃ k a b n v, en = .returned (.tuple #[.agg #[.int .u8 k, .int .i64 a, .string b, .int .u64 n, v], .int .i64 0, .int .i64 0]) ∧ NodeIs w' w.heap.size t k a b n v
theorem esc_enz {r : List Nat} {e : Nat} (h : escN r = .error e) : e ≠ 0 := by
  unfold escN at h
  repeat' (first | (cases h; decide; done) | (cases h; done) | split at h)
theorem text_enz : ∀ (f : Nat) (l : List Nat) (p : Option Nat) (e : Nat), textN f l = .error (p, e) → e ≠ 0 := by
  intro f
  induction f with
  | zero => intro l p e h; simp [textN] at h; omega
  | succ f ih =>
    intro l p e h
    cases l with
    | nil => simp [textN] at h; omega
    | cons c r =>
      unfold textN at h
      split at h
      · cases h; decide
      · split at h
        · cases h
        · split at h
          · cases hr : textN f r with
            | error x =>
              obtain ⟨q, e2⟩ := x
              have := ih _ _ _ hr
              rw [hr] at h
              cases q <;> cases h <;> exact this
            | ok x => obtain ⟨o1, n1⟩ := x; rw [hr] at h; cases h
          · cases he : escN r with
            | error e2 =>
              have := esc_enz he
              rw [he] at h
              simp only at h
              split at h
              · cases h; decide
              · cases h; exact this
            | ok x =>
              obtain ⟨b, k⟩ := x
              rw [he] at h
              simp only at h
              cases hr : textN f (r.drop (k - 1)) with
              | error x =>
                obtain ⟨q, e2⟩ := x
                have := ih _ _ _ hr
                rw [hr] at h
                cases q <;> cases h <;> exact this
              | ok x => obtain ⟨o1, n1⟩ := x; rw [hr] at h; cases h
theorem one_enz (l : List Nat) (p e : Nat) (h : oneN l = .error (p, e)) : e ≠ 0 := by
  cases l with
  | nil => simp [oneN] at h; omega
  | cons c r =>
    unfold oneN at h
    simp only at h
    split at h
    · cases h
    · split at h
      · split at h
        · cases h
        · cases h; decide
      · split at h
        · cases hr : textN (r.length + 1) r with
          | error x =>
            obtain ⟨q, e2⟩ := x
            have := text_enz _ _ _ _ hr
            rw [hr] at h
            cases q <;> cases h <;> exact this
          | ok x => obtain ⟨o1, n1⟩ := x; rw [hr] at h; cases h
        · cases hs : signX (c :: r) with
          | none => rw [hs] at h; cases h; decide
          | some x => rw [hs] at h; cases h
theorem toks_enz : ∀ (f k at0 : Nat) (l : List Nat) (p e : Nat), toksN f k at0 l = .error (p, e) → e ≠ 0 := by
  intro f
  induction f with
  | zero => intro k at0 l p e h; simp [toksN] at h
  | succ f ih =>
    intro k at0 l p e h
    unfold toksN at h
    simp only at h
    split at h
    · cases h
    · split at h
      · cases h; decide
      · cases ho : oneN (l.drop (blankN false l)) with
        | error x =>
          obtain ⟨q, e2⟩ := x
          have := one_enz _ _ _ ho
          rw [ho] at h
          cases h; exact this
        | ok x =>
          obtain ⟨kd, tx, n, len⟩ := x
          rw [ho] at h
          simp only at h
          cases hr : toksN f (k + 1) (at0 + blankN false l + len) (l.drop (blankN false l + len)) with
          | error x => rw [hr] at h; cases h; exact ih _ _ _ _ _ hr
          | ok us => rw [hr] at h; cases h
theorem tokens_enz (l : List Nat) (p e : Nat) (h : tokens l = .error (p, e)) : e ≠ 0 := by
  unfold tokens at h
  split at h
  · cases h; decide
  · exact toks_enz _ _ _ _ _ _ h
theorem pread_as {fn : Nat} {m : P Tree} {c : Nat} (hc : c ≤ 1000000000) (hfn : FnIs fn) (HP : PartAs fn m c) (s : ByteArray) (h : s.size ≤ 1048576) (R : Except (Nat × Nat) Tree) (HR : Hid (readS m (bytesN s) = some R)) (w : World) (hL : Laid w) :
    Calls Tryz.prog 35 #[.string s, .func (.func fn) #[] #[]] w (ReadIs w R) := by
  cases htk : tokens (bytesN s) with
  | error x =>
    obtain ⟨p, e⟩ := x
    have HRR : Hid (R = .error (p, e)) := by have := HR.out; unfold readS at this; rw [htk] at this; exact (Option.some.inj this).symm
    have hne : ((e : Int) != 0) = true := by have := tokens_enz _ _ _ htk; simp; omega
    have HT : Hid (tokens (bytesN s) = .error (p, e)) := htk
    clear htk HR
    go_enter Tryz.func35, Tryz.ntmps35
    go_wp2_with fail
    refine (xtokens_any s h _ HT _ (hL.on ((Below.refl _ _).alloc (Nat.le_refl _) _))).mono ?_
    rintro en w1 hg
    obtain ⟨rfl, hb⟩ : en = .returned (.tuple #[.slice none 0 0, .int .i64 (p : Int), .int .i64 (e : Int)]) ∧ Below _ _ w1 := hg
    have o := (Own.new w #[.int .u8 0, .int .i64 0, .string ⟨#[]⟩, .int .u64 0, .slice none 0 0] 25).below hb
    obtain ⟨o0, o1, o2, o3, o4, of⟩ := o.five
    have hb2 : Below w.heap.size w w1 := ((Below.refl _ _).alloc (Nat.le_refl _) _).trans (hb.mono (by rw [World.size_alloc]; omega))
    go_wp2_with (refine wpList_put5 rfl (.tmp 4) (.tmp 20) rfl rfl w.heap.size rfl rfl o ⟨rfl, rfl, rfl, rfl, rfl⟩ ?_; intro wz oz gz)
    refine bodyPost_cell3 (t := 25) rfl rfl rfl oz Tryz.underlying25 rfl (by kernel_rfl) ?_
    refine ⟨hb2.trans ⟨gz.os, gz.tape, gz.output, gz.size, fun k hk => gz.block k (Nat.lt_of_lt_of_le hk hb2.size) (by intro q; have := Option.some.inj q; omega)⟩, ?_⟩
    rw [HRR.out]
    rfl
  | ok ts =>
    have HT : Hid (tokens (bytesN s) = .ok ts) := htk
    obtain ⟨hgl, hgt⟩ := tokens_good _ _ htk (bytesN_lt s)
    have hRd : readP m s.size ts = some R := by have := HR.out; unfold readS at this; rw [htk, bytesN_length] at this; exact this
    unfold readP at hRd
    match hm : m s.size 0 ⟨ts, 0, 0⟩, hRd with
    | some (t, s'), hRd =>
    have HR2 : Hid ((let s1 := if s'.rest.isEmpty then s' else refS s.size s'; if s1.wrong = 0 then Except.ok t else .error (s1.place, s1.wrong)) = R) := Option.some.inj hRd
    clear htk HR hRd
    have hfn2 : ∀ (a : Array Value) (w : World), (callFunc fn a).run Tryz.prog w = .ok (.enter fn a) w := hfn
    go_enter Tryz.func35, Tryz.ntmps35
    go_wp2_with fail
    refine (xtokens_any s h _ HT _ (hL.on ((Below.refl _ _).alloc (Nat.le_refl _) _))).mono ?_
    rintro en w1 hg
    obtain ⟨v, rfl, hown, hb⟩ : ∃ v, en = .returned (.tuple #[v, .int .i64 0, .int .i64 0]) ∧ w1.ownsRow _ 77 5 v ts.length (rowT ts) ∧ Below _ _ w1 := hg
    have o := (Own.new w #[.int .u8 0, .int .i64 0, .string ⟨#[]⟩, .int .u64 0, .slice none 0 0] 25).below hb
    have hb2 : Below w.heap.size w w1 := ((Below.refl _ _).alloc (Nat.le_refl _) _).trans (hb.mono (by rw [World.size_alloc]; omega))
    have hsw := hb2.size
    have hol := o.lt
    have hTI : ToksIn w1 w1.heap.size v ts := by
      rcases hown.2 with ⟨rfl, h0⟩ | ⟨g, cap, cur, rfl, hg, ho, r1, r2, r3, r4⟩
      · exact ⟨none, 0, by rw [h0], by omega, by omega, by omega, hgt, .inl (List.eq_nil_of_length_eq_zero h0)⟩
      · refine ⟨_, cap, rfl, r1, by unfold maxLen at r2; omega, by omega, hgt, .inr ⟨g, 0, cur, (0, 0), rfl, (Array.getElem?_eq_some_iff.1 ho).1, ho, fun j hj => ?_⟩⟩
        rw [Nat.zero_add, ← r4, List.getElem?_take, if_pos hj, Array.getElem?_toList]
    obtain ⟨ao, cap, rfl⟩ : ∃ ao cap, v = .slice ao ts.length cap := by obtain ⟨ao, cap, q, _⟩ := hTI; exact ⟨ao, cap, q⟩
    have hz : (s.size : Int) ≤ 1048576 := by omega
    clear hown HT
    go_upto_region 5 with fail
    have hR : RdAt (w1.alloc (.cells #[.slice ao ts.length cap, .int .i64 (s.size : Int), .int .i64 0, .int .i64 0, .int .i64 0] 67)) w1.heap.size s.size 0 ⟨ts, 0, 0⟩ := ⟨_, Own.new w1 _ _, hTI.on fun g hg => Below.heap_alloc w1 _ g hg⟩
    replace o := o.alloc (.cells #[.slice ao ts.length cap, .int .i64 (s.size : Int), .int .i64 0, .int .i64 0, .int .i64 0] 67)
    have hb3 : Below w.heap.size w (w1.alloc (.cells #[.slice ao ts.length cap, .int .i64 (s.size : Int), .int .i64 0, .int .i64 0, .int .i64 0] 67)) := hb2.alloc hsw _
    have hs2 : w1.heap.size < (w1.alloc (.cells #[.slice ao ts.length cap, .int .i64 (s.size : Int), .int .i64 0, .int .i64 0, .int .i64 0] 67)).heap.size := by rw [World.size_alloc]; omega
    generalize hw : w1.alloc (.cells #[.slice ao ts.length cap, .int .i64 (s.size : Int), .int .i64 0, .int .i64 0, .int .i64 0] 67) = w2 at hR o hb3 hs2 ⊢
    clear hw hTI hb hb2
    have hK := Kp.refl w1.heap.size w2
    obtain ⟨r, hr⟩ : ∃ r, w1.heap.size = r := ⟨_, rfl⟩
    rw [hr] at hR hK hs2 hsw hol ⊢
    clear hr
    have hrl := hR.lt
    go_wp2_with fail
    refine (HP _ _ _ _ _ _ _ hR (by omega) (by omega) hm).mono ?_
    rintro en w3 ⟨k1, a1, b1, n1x, v1, rfl, n1, hR2, hK2⟩
    obtain ⟨ao_n1, cap_n1, rfl⟩ := n1.2.2.2.2.shape
    have hs3 := (((Kp.refl r w2)).trans hK2).size
    replace o := (o).kp hK2 (by omega)
    replace hK := (hK).trans hK2
    replace hR := hR2
    clear hK2 hR2
    have n1i := KI.refl w2.heap.size w3.heap.size w3
    go_upto_region 6 with fail
    have hznd := hR.lt
    have hknd := hK.size
    have nd := Own.new w3 #[.int .u8 k1, .int .i64 a1, .string b1, .int .u64 n1x, .slice ao_n1 t.kids.length cap_n1] 25
    replace hR := hR.alloc (.cells #[.int .u8 k1, .int .i64 a1, .string b1, .int .u64 n1x, .slice ao_n1 t.kids.length cap_n1] 25)
    replace hK := hK.alloc (.cells #[.int .u8 k1, .int .i64 a1, .string b1, .int .u64 n1x, .slice ao_n1 t.kids.length cap_n1] 25)
    replace o := o.alloc (.cells #[.int .u8 k1, .int .i64 a1, .string b1, .int .u64 n1x, .slice ao_n1 t.kids.length cap_n1] 25)
    replace n1i := n1i.alloc (by omega) (.cells #[.int .u8 k1, .int .i64 a1, .string b1, .int .u64 n1x, .slice ao_n1 t.kids.length cap_n1] 25)
    generalize hw : w3.alloc (.cells #[.int .u8 k1, .int .i64 a1, .string b1, .int .u64 n1x, .slice ao_n1 t.kids.length cap_n1] 25) = w4 at hR hK nd o n1i ⊢
    clear hw
    have hs4 := nd.lt
    go_wp2_with fail
    refine (pdone_as hR).mono ?_
    rintro en _ ⟨rfl, rfl⟩
    cases hie : s'.rest.isEmpty with
    | false =>
      have HR3 : Hid ((if (refS s.size s').wrong = 0 then Except.ok t else .error ((refS s.size s').place, (refS s.size s').wrong)) = R) := by have := HR2.out; rw [hie] at this; exact this
      clear hie HR2
      go_wp2_with fail
      refine (prefuse_as hR (by omega)).mono ?_
      rintro en w5 ⟨⟨_, rfl⟩, hR2, hK2⟩
      have hs5 := (((Kp.refl r w4)).trans hK2).size
      replace o := (o).kp hK2 (by omega)
      replace nd := (nd).kp hK2 (by omega)
      replace n1i := n1i.kp (by omega) (((Kp.refl r _)).trans hK2) (by omega)
      replace hK := (hK).trans hK2
      replace hR := hR2
      clear hK2 hR2
      obtain ⟨vv, hv1, hv2⟩ := id hR
      obtain ⟨y0, y1, y2, y3, y4, yf⟩ := hv1.five
      clear hv1 hv2
      by_cases hw0 : (refS s.size s').wrong = 0
      · rw [hw0] at y3
        have HR4 : Hid (Except.ok t = R) := by have := HR3.out; rw [if_pos hw0] at this; exact this
        clear hw0
        obtain ⟨nd0, nd1, nd2, nd3, nd4, ndf⟩ := nd.five
        go_wp2_with (refine wpList_put5 rfl (.tmp 4) (.tmp 53) rfl rfl w.heap.size rfl rfl o ⟨rfl, rfl, rfl, rfl, rfl⟩ ?_; intro wz oz gz)
        refine bodyPost_cell3 (t := 25) rfl rfl rfl oz Tryz.underlying25 rfl (by kernel_rfl) ?_
        have hb4 := Below.kp hb3 (by omega) hK
        refine ⟨hb4.trans ⟨gz.os, gz.tape, gz.output, gz.size, fun k hk => gz.block k (Nat.lt_of_lt_of_le hk hb4.size) (by intro q; have := Option.some.inj q; omega)⟩, ?_⟩
        rw [← HR4.out]
        exact ⟨_, _, _, _, _, rfl, (n1.ki (n1i.grown (by omega) gz (by omega)) (Nat.le_refl _)).mono (by omega)⟩
      · have HR4 : Hid (Except.error ((refS s.size s').place, (refS s.size s').wrong) = R) := by have := HR3.out; rw [if_neg hw0] at this; exact this
        have hwn : (((refS s.size s').wrong : Int) != 0) = true := by simp; omega
        obtain ⟨wi, hwi⟩ : ∃ wi : Int, ((refS s.size s').wrong : Int) = wi := ⟨_, rfl⟩
        obtain ⟨pi, hpi⟩ : ∃ pi : Int, ((refS s.size s').place : Int) = pi := ⟨_, rfl⟩
        have HWI : Hid (((refS s.size s').wrong : Int) = wi) := hwi
        have HPI : Hid (((refS s.size s').place : Int) = pi) := hpi
        rw [hwi] at y3 hwn
        rw [hpi] at y4
        clear hwi hpi hw0
        have hob := o.lt
        obtain ⟨o0, o1, o2, o3, o4, of⟩ := o.five
        go_wp2_with fail
        go_region
        all_goals
          go_wp2
          refine bodyPost_cell3 (t := 25) rfl rfl rfl (o.drew.set5 _ _ _ _ _) Tryz.underlying25 rfl (by kernel_rfl) ?_
          have hb4 := Below.kp hb3 (by omega) hK.drew
          refine ⟨set5_below hb4 (Nat.le_refl _), ?_⟩
          rw [← HR4.out]
          show _ = Ending.returned (.tuple #[.agg _, .int .i64 ((refS s.size s').place : Int), .int .i64 ((refS s.size s').wrong : Int)])
          rw [HWI.out, HPI.out]
          rfl
    | true =>
      have HR3 : Hid ((if s'.wrong = 0 then Except.ok t else .error (s'.place, s'.wrong)) = R) := by have := HR2.out; rw [hie] at this; exact this
      clear hie HR2
      obtain ⟨vv, hv1, hv2⟩ := id hR
      obtain ⟨y0, y1, y2, y3, y4, yf⟩ := hv1.five
      clear hv1 hv2
      by_cases hw0 : s'.wrong = 0
      · rw [hw0] at y3
        have HR4 : Hid (Except.ok t = R) := by have := HR3.out; rw [if_pos hw0] at this; exact this
        clear hw0
        obtain ⟨nd0, nd1, nd2, nd3, nd4, ndf⟩ := nd.five
        go_wp2_with (refine wpList_put5 rfl (.tmp 4) (.tmp 53) rfl rfl w.heap.size rfl rfl o ⟨rfl, rfl, rfl, rfl, rfl⟩ ?_; intro wz oz gz)
        refine bodyPost_cell3 (t := 25) rfl rfl rfl oz Tryz.underlying25 rfl (by kernel_rfl) ?_
        have hb4 := Below.kp hb3 (by omega) hK
        refine ⟨hb4.trans ⟨gz.os, gz.tape, gz.output, gz.size, fun k hk => gz.block k (Nat.lt_of_lt_of_le hk hb4.size) (by intro q; have := Option.some.inj q; omega)⟩, ?_⟩
        rw [← HR4.out]
        exact ⟨_, _, _, _, _, rfl, (n1.ki (n1i.grown (by omega) gz (by omega)) (Nat.le_refl _)).mono (by omega)⟩
      · have HR4 : Hid (Except.error (s'.place, s'.wrong) = R) := by have := HR3.out; rw [if_neg hw0] at this; exact this
        have hwn : ((s'.wrong : Int) != 0) = true := by simp; omega
        obtain ⟨wi, hwi⟩ : ∃ wi : Int, (s'.wrong : Int) = wi := ⟨_, rfl⟩
        obtain ⟨pi, hpi⟩ : ∃ pi : Int, (s'.place : Int) = pi := ⟨_, rfl⟩
        have HWI : Hid ((s'.wrong : Int) = wi) := hwi
        have HPI : Hid ((s'.place : Int) = pi) := hpi
        rw [hwi] at y3 hwn
        rw [hpi] at y4
        clear hwi hpi hw0
        have hob := o.lt
        obtain ⟨o0, o1, o2, o3, o4, of⟩ := o.five
        go_wp2_with fail
        go_region
        all_goals
          go_wp2
          refine bodyPost_cell3 (t := 25) rfl rfl rfl (o.drew.set5 _ _ _ _ _) Tryz.underlying25 rfl (by kernel_rfl) ?_
          have hb4 := Below.kp hb3 (by omega) hK.drew
          refine ⟨set5_below hb4 (Nat.le_refl _), ?_⟩
          rw [← HR4.out]
          show _ = Ending.returned (.tuple #[.agg _, .int .i64 (s'.place : Int), .int .i64 (s'.wrong : Int)])
          rw [HWI.out, HPI.out]
          rfl
theorem pSource_as {m : P Tree} {c : Nat} (hc : c ≤ 1000000000) (HP : PartAs 36 m c) (s : ByteArray) (h : s.size ≤ 1048576) (R : Except (Nat × Nat) Tree) (HR : Hid (readS m (bytesN s) = some R)) (w : World) (hL : Laid w) :
    Calls Tryz.prog 15 #[.string s] w (ReadIs w R) := by
  have hf := fn_program
  go_enter Tryz.func15, Tryz.ntmps15
  go_wp2_with fail
  refine (pread_as hc hf HP s h R HR _ (hL.on ((Below.refl _ _).alloc (Nat.le_refl _) _))).mono ?_
  rintro en w1 ⟨hb, hg⟩
  have o := (Own.new w #[.int .u8 0, .int .i64 0, .string ⟨#[]⟩, .int .u64 0, .slice none 0 0] 25).below hb
  have hb2 : Below w.heap.size w w1 := ((Below.refl _ _).alloc (Nat.le_refl _) _).trans (hb.mono (by rw [World.size_alloc]; omega))
  have hsx := hb.size
  rw [World.size_alloc] at hsx
  cases R with
  | error x =>
    obtain ⟨p, e⟩ := x
    obtain rfl : en = .returned (.tuple #[.agg #[.int .u8 0, .int .i64 0, .string ⟨#[]⟩, .int .u64 0, .slice none 0 0], .int .i64 (p : Int), .int .i64 (e : Int)]) := hg
    go_wp2_with (refine wpList_put5 rfl (.tmp 2) (.tmp 7) rfl rfl w.heap.size rfl rfl o ⟨rfl, rfl, rfl, rfl, rfl⟩ ?_; intro wz oz gz)
    refine bodyPost_cell3 (t := 25) rfl rfl rfl oz Tryz.underlying25 rfl (by kernel_rfl) ?_
    exact ⟨hb2.trans ⟨gz.os, gz.tape, gz.output, gz.size, fun k hk => gz.block k (Nat.lt_of_lt_of_le hk hb2.size) (by intro q; have := Option.some.inj q; omega)⟩, rfl⟩
  | ok t =>
    obtain ⟨k, a, b, n, v, rfl, hN⟩ : ∃ k a b n v, en = .returned (.tuple #[.agg #[.int .u8 k, .int .i64 a, .string b, .int .u64 n, v], .int .i64 0, .int .i64 0]) ∧ NodeIs w1 _ t k a b n v := hg
    rw [World.size_alloc] at hN
    go_wp2_with (refine wpList_put5 rfl (.tmp 2) (.tmp 7) rfl rfl w.heap.size rfl rfl o ⟨rfl, rfl, rfl, rfl, hN.2.2.2.2.one1⟩ ?_; intro wz oz gz)
    refine bodyPost_cell3 (t := 25) rfl rfl rfl oz Tryz.underlying25 rfl (by kernel_rfl) ?_
    exact ⟨hb2.trans ⟨gz.os, gz.tape, gz.output, gz.size, fun k hk => gz.block k (Nat.lt_of_lt_of_le hk hb2.size) (by intro q; have := Option.some.inj q; omega)⟩, _, _, _, _, _, rfl, (hN.row fun x => x.grown gz (by omega)).mono (by omega)⟩
theorem pExpr_as {m : P Tree} {c : Nat} (hc : c ≤ 1000000000) (HP : PartAs 37 m c) (s : ByteArray) (h : s.size ≤ 1048576) (R : Except (Nat × Nat) Tree) (HR : Hid (readS m (bytesN s) = some R)) (w : World) (hL : Laid w) :
    Calls Tryz.prog 16 #[.string s] w (ReadIs w R) := by
  have hf := fn_expr
  go_enter Tryz.func16, Tryz.ntmps16
  go_wp2_with fail
  refine (pread_as hc hf HP s h R HR _ (hL.on ((Below.refl _ _).alloc (Nat.le_refl _) _))).mono ?_
  rintro en w1 ⟨hb, hg⟩
  have o := (Own.new w #[.int .u8 0, .int .i64 0, .string ⟨#[]⟩, .int .u64 0, .slice none 0 0] 25).below hb
  have hb2 : Below w.heap.size w w1 := ((Below.refl _ _).alloc (Nat.le_refl _) _).trans (hb.mono (by rw [World.size_alloc]; omega))
  have hsx := hb.size
  rw [World.size_alloc] at hsx
  cases R with
  | error x =>
    obtain ⟨p, e⟩ := x
    obtain rfl : en = .returned (.tuple #[.agg #[.int .u8 0, .int .i64 0, .string ⟨#[]⟩, .int .u64 0, .slice none 0 0], .int .i64 (p : Int), .int .i64 (e : Int)]) := hg
    go_wp2_with (refine wpList_put5 rfl (.tmp 2) (.tmp 7) rfl rfl w.heap.size rfl rfl o ⟨rfl, rfl, rfl, rfl, rfl⟩ ?_; intro wz oz gz)
    refine bodyPost_cell3 (t := 25) rfl rfl rfl oz Tryz.underlying25 rfl (by kernel_rfl) ?_
    exact ⟨hb2.trans ⟨gz.os, gz.tape, gz.output, gz.size, fun k hk => gz.block k (Nat.lt_of_lt_of_le hk hb2.size) (by intro q; have := Option.some.inj q; omega)⟩, rfl⟩
  | ok t =>
    obtain ⟨k, a, b, n, v, rfl, hN⟩ : ∃ k a b n v, en = .returned (.tuple #[.agg #[.int .u8 k, .int .i64 a, .string b, .int .u64 n, v], .int .i64 0, .int .i64 0]) ∧ NodeIs w1 _ t k a b n v := hg
    rw [World.size_alloc] at hN
    go_wp2_with (refine wpList_put5 rfl (.tmp 2) (.tmp 7) rfl rfl w.heap.size rfl rfl o ⟨rfl, rfl, rfl, rfl, hN.2.2.2.2.one1⟩ ?_; intro wz oz gz)
    refine bodyPost_cell3 (t := 25) rfl rfl rfl oz Tryz.underlying25 rfl (by kernel_rfl) ?_
    exact ⟨hb2.trans ⟨gz.os, gz.tape, gz.output, gz.size, fun k hk => gz.block k (Nat.lt_of_lt_of_le hk hb2.size) (by intro q; have := Option.some.inj q; omega)⟩, _, _, _, _, _, rfl, (hN.row fun x => x.grown gz (by omega)).mono (by omega)⟩
theorem isInt_lit (b : ByteArray) (x : List Nat) (HX : Hid (b = strN x ∧ (∀ c ∈ x, c < 256) ∧ x.length ≤ 9223372036854775807)) (y : ByteArray) : (b.toList == y.data.toList) = (x == bytesN y) := by
  rw [HX.out.1, ← ByteArray.toList_eq]; exact str_same _ HX.out.2.1 y
theorem pisInt_as (w : World) (b : ByteArray) (x : List Nat) (HX : Hid (b = strN x ∧ (∀ c ∈ x, c < 256) ∧ x.length ≤ 9223372036854775807)) : Calls Tryz.prog 42 #[.string b] w fun en w' => en = .returned (.bool (isIntL x)) ∧ w = w' := by
  have e1 : (b.toList == [105, 56]) = (x == [105, 56]) := isInt_lit b x HX ⟨#[105, 56]⟩
  have e2 : (b.toList == [105, 51, 50]) = (x == [105, 51, 50]) := isInt_lit b x HX ⟨#[105, 51, 50]⟩
  have e3 : (b.toList == [105, 54, 52]) = (x == [105, 54, 52]) := isInt_lit b x HX ⟨#[105, 54, 52]⟩
  have HI : Hid (isIntL x = (x == [105, 56] || x == [105, 51, 50] || x == [105, 54, 52])) := rfl
  generalize (x == [105, 56]) = q1 at e1 HI
  generalize (x == [105, 51, 50]) = q2 at e2 HI
  generalize (x == [105, 54, 52]) = q3 at e3 HI
  cases q1 <;> cases q2 <;> cases q3
  all_goals
    go_enter Tryz.func42, Tryz.ntmps42
    go_wp2
    go_ret
    exact ⟨ret_bool (by rw [HI.out]; rfl), rfl⟩
theorem pnumberFits_as (w : World) (r k a n : Int) (b : ByteArray) (v : Value) (hv : v.oneCell' = true) (x : List Nat) (HX : Hid (b = strN x ∧ (∀ c ∈ x, c < 256) ∧ x.length ≤ 9223372036854775807)) : Calls Tryz.prog 20 #[.agg #[.int .u8 k, .int .i64 a, .string b, .int .u64 n, v, .int .u8 r]] w fun en w' => en = .returned (.bool (numI k x n)) ∧ Below w.heap.size w w' := by
  have e1 : (b.toList == [105, 56]) = (x == [105, 56]) := isInt_lit b x HX ⟨#[105, 56]⟩
  have e2 : (b.toList == [105, 51, 50]) = (x == [105, 51, 50]) := isInt_lit b x HX ⟨#[105, 51, 50]⟩
  have e3 : (b.toList == [105, 54, 52]) = (x == [105, 54, 52]) := isInt_lit b x HX ⟨#[105, 54, 52]⟩
  have e4 : (b.toList == []) = (x == []) := isInt_lit b x HX ⟨#[]⟩
  have HI : Hid (numI k x n = if k == 8 then true else if k == 23 then decide (n ≤ 255) else if k == 40 then (x == [105, 56] && decide (n ≤ 255)) || (x == [105, 51, 50] && decide (n ≤ 4294967295)) || x == [105, 54, 52] || x == [] else n == 0) := rfl
  generalize (x == [105, 56]) = q1 at e1 HI
  generalize (x == [105, 51, 50]) = q2 at e2 HI
  generalize (x == [105, 54, 52]) = q3 at e3 HI
  generalize (x == []) = q4 at e4 HI
  cases h8 : (k == 8) with
  | true =>
    go_enter Tryz.func20, Tryz.ntmps20
    go_wp2
    go_ret
    exact ⟨ret_bool (by rw [HI.out]; simp [h8]), (Below.refl _ _).alloc (Nat.le_refl _) _⟩
  | false =>
    cases h23 : (k == 23) with
    | true =>
      go_enter Tryz.func20, Tryz.ntmps20
      go_wp2
      go_ret
      exact ⟨ret_bool (by rw [HI.out]; simp [h8, h23]), (Below.refl _ _).alloc (Nat.le_refl _) _⟩
    | false =>
      cases h40 : (k == 40) with
      | false =>
        go_enter Tryz.func20, Tryz.ntmps20
        go_wp2
        go_ret
        exact ⟨ret_bool (by rw [HI.out]; simp [h8, h23, h40]), (Below.refl _ _).alloc (Nat.le_refl _) _⟩
      | true =>
        cases q1 <;> cases q2 <;> cases q3 <;> cases q4
        all_goals
          go_enter Tryz.func20, Tryz.ntmps20
          go_wp2
          all_goals (go_ret; exact ⟨ret_bool (by rw [HI.out]; simp [*]), (Below.refl _ _).alloc (Nat.le_refl _) _⟩)
theorem ptextFits_as (w : World) (r k a n : Int) (b : ByteArray) (v : Value) (hv : v.oneCell' = true) (x : List Nat) (HX : Hid (b = strN x ∧ (∀ c ∈ x, c < 256) ∧ x.length ≤ 9223372036854775807)) : Calls Tryz.prog 19 #[.agg #[.int .u8 k, .int .i64 a, .string b, .int .u64 n, v, .int .u8 r]] w fun en w' => en = .returned (.bool (textI k x)) ∧ Below w.heap.size w w' := by
  have hbn : bytesN b = x := by rw [HX.out.1]; exact bytesN_strN _ HX.out.2.1
  have hsz : b.size ≤ 9223372036854775807 := by rw [← bytesN_length b, hbn]; exact HX.out.2.2
  have HN : Hid (nameB (bytesN b) = nameB x) := by unfold Hid; rw [hbn]
  clear hbn
  have e4 : (b.toList == []) = (x == []) := isInt_lit b x HX ⟨#[]⟩
  have e5 : (b.toList == [98, 111, 111, 108]) = (x == [98, 111, 111, 108]) := isInt_lit b x HX ⟨#[98, 111, 111, 108]⟩
  have e6 : (b.toList == [98, 121, 116, 101, 115]) = (x == [98, 121, 116, 101, 115]) := isInt_lit b x HX ⟨#[98, 121, 116, 101, 115]⟩
  have HI : Hid (textI k x = if k == 2 || k == 3 || k == 4 || k == 25 || k == 44 || k == 45 || k == 48 then nameB x
    else if k == 15 || k == 16 || k == 17 || k == 20 || k == 21 then x == [] || nameB x
    else if k == 7 then isIntL x || x == [98, 111, 111, 108] || x == [98, 121, 116, 101, 115] || nameB x
    else if k == 46 then isIntL x
    else if k == 40 then x == [] || isIntL x
    else if k == 41 then true
    else x == []) := rfl
  obtain ⟨qn, hqn⟩ : ∃ q, nameB x = q := ⟨_, rfl⟩
  obtain ⟨qi, hqi⟩ : ∃ q, isIntL x = q := ⟨_, rfl⟩
  have hN2 : nameB (bytesN b) = qn := HN.out.trans hqn
  have HQI : Hid (isIntL x = qi) := hqi
  rw [hqn, hqi] at HI
  generalize (x == []) = q4 at e4 HI
  generalize (x == [98, 111, 111, 108]) = q5 at e5 HI
  generalize (x == [98, 121, 116, 101, 115]) = q6 at e6 HI
  have HNN : Hid (nameB (bytesN b) = qn) := hN2
  have CN : ∀ W : World, Calls Tryz.prog 41 #[.string b] W fun en w' => en = .returned (.bool qn) ∧ Below W.heap.size W w' := fun W => xname_big b qn hsz HNN.out W
  have CI : ∀ W : World, Calls Tryz.prog 42 #[.string b] W fun en w' => en = .returned (.bool qi) ∧ W = w' := fun W => by have := pisInt_as W b x HX; rw [HQI.out] at this; exact this
  clear hN2 hqn hqi
  go_enter Tryz.func19, Tryz.ntmps19
  go_wp2_with (first | (go_at_call 41; refine (CN _).mono ?_; rintro en w1 ⟨rfl, hb⟩) | (go_at_call 42; refine (CI _).mono ?_; rintro en _ ⟨rfl, rfl⟩))
  all_goals go_ret
  all_goals first
    | exact ⟨ret_bool (by rw [HI.out]; simp [*]), (Below.refl _ _).alloc (Nat.le_refl _) _⟩
    | exact ⟨ret_bool (by rw [HI.out]; simp [*]), ((Below.refl _ _).alloc (Nat.le_refl _) _).trans (hb.mono (by rw [World.size_alloc]; omega))⟩
def vR (what : Int) (t : Tree) : Bool :=
  if what == 1 then validT 5 t
  else if what == 2 then validT 21 t
  else if what == 3 then validT 7 t
  else if what == 4 then validT 6 t
  else if what == 5 then validT 2 t
  else if what == 6 then t.kind == 2 && validT 1 t
  else if what == 7 then t.kind == 4 && validT 1 t
  else if what == 8 then t.kind == 1 && validT 0 t
  else if what == 9 then validT 15 t
  else if what == 10 then validT 14 t
  else if what == 11 then validT 12 t
  else if what == 12 then t.kind == 19 && validT 13 t
  else if what == 13 then validT 16 t
  else if what == 14 then t.kind == 14 && validT 7 t
  else if what == 15 then t.kind == 24 && validT 11 t
  else if what == 16 then (t.kind == 12 || t.kind == 13) && validT 7 t
  else if what == 17 then t.kind == 11 && validT 7 t
  else if what == 18 then t.kind == 13 && validT 7 t
  else if what == 19 then validT 17 t
  else if what == 20 then validT 4 t
  else validT 3 t
def bareB (x : List Nat) (n : Int) : Bool := x == [] && n == 0
def namedB (x : List Nat) (n : Int) (free : Bool) : Bool := n == 0 && (nameB x || (free && x == []))
def coreT (r : Int) (t : Tree) : Bool := decide ((kidsI t.kind).1 ≤ (t.kids.length : Int)) && decide ((t.kids.length : Int) ≤ (kidsI t.kind).2) && textI t.kind t.text && numI t.kind t.text t.n && validT.validL r t.kind t.kids.length 0 t.kids
theorem valid_core (r : Int) (t : Tree) : validT r t = (takesI r t.kind && coreT r t) := by
  obtain ⟨k, a, x, n, ks⟩ := t
  rw [validT]; simp only [fitsI, coreT, Bool.and_assoc]
theorem vL_all (r : Int) (k m : Nat) (c : Int) : ∀ (ks : List Tree) (i : Nat), (∀ j : Nat, asksI r k m j = c) → validT.validL r k m i ks = ks.all (validT c) := by
  intro ks
  induction ks with
  | nil => intro i h; simp [validT.validL]
  | cons t ks ih => intro i h; rw [validT.validL, ih (i + 1) h, h i]; simp
theorem vL_last (r : Int) (k m : Nat) (c d : Int) : ∀ (ks : List Tree) (i : Nat) (z : Tree), i + ks.length + 1 = m → (∀ j : Nat, j + 1 < m → asksI r k m j = c) → asksI r k m ((m - 1 : Nat) : Int) = d → validT.validL r k m i (ks ++ [z]) = (ks.all (validT c) && validT d z) := by
  intro ks
  induction ks with
  | nil => intro i z hm h hd; simp only [List.nil_append, List.length_nil] at *; rw [validT.validL, validT.validL, show i = m - 1 by omega, hd]; simp
  | cons t ks ih =>
    intro i z hm h hd
    simp only [List.cons_append, List.length_cons] at *
    rw [validT.validL, ih (i + 1) z (by omega) h hd, h i (by omega)]
    simp [Bool.and_assoc]
theorem vL_first (r : Int) (k m : Nat) (c d : Int) (t : Tree) (ks : List Tree) (h0 : asksI r k m ((0 : Nat) : Int) = c) (h : ∀ j : Nat, 0 < j → asksI r k m j = d) : validT.validL r k m 0 (t :: ks) = (validT c t && ks.all (validT d)) := by
  rw [validT.validL, h0]
  congr 1
  have : ∀ (l : List Tree) (i : Nat), 0 < i → validT.validL r k m i l = l.all (validT d) := by
    intro l
    induction l with
    | nil => intro i hi; simp [validT.validL]
    | cons a l ih => intro i hi; rw [validT.validL, ih (i + 1) (by omega), h i hi]; simp
  exact this ks 1 (by omega)
theorem numI_u64 (x : List Nat) (n : Nat) (hn : n ≤ 18446744073709551615) : ((x == [] || isIntL x) && numI 40 x n) = ((x == [] || isIntL x) && decide (n ≤ topN x)) := by
  by_cases h1 : x = [105, 56]
  · subst h1; simp [numI, isIntL, topN]; omega
  · by_cases h2 : x = [105, 51, 50]
    · subst h2; simp [numI, isIntL, topN]; omega
    · by_cases h3 : x = [105, 54, 52]
      · subst h3; simp [numI, isIntL, topN]; omega
      · by_cases h4 : x = []
        · subst h4; simp [numI, isIntL, topN]; omega
        · have : (x == [] || isIntL x) = false := by
            rw [isIntL, beq_eq_false_iff_ne.2 h1, beq_eq_false_iff_ne.2 h2, beq_eq_false_iff_ne.2 h3, beq_eq_false_iff_ne.2 h4]; rfl
          rw [this]; rfl
end Go.Proofs.YtmhnbklchnnbaaaGreatDoor
