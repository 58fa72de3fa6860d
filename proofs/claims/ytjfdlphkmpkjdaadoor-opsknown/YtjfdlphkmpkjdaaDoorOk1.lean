/-
  OpsKnown: what its helpers answer: bytes, wrong.
-/
import Derived.Test.YtjfdlphkmpkjdaaDoorJec
import Derived.Test.YtjfdlphkmpkjdaaDoorKt
import Derived.Lib.ConvBytes
namespace Go.Proofs.YtjfdlphkmpkjdaaDoor
open Go.RowKit
set_option linter.unusedVariables false

set_option maxHeartbeats 2000000 in
set_option maxRecDepth 100000 in
theorem bytes_as {w : World} {x : In} {ao : Option Addr} {cp : Nat} (hl : InLies w x ao) (n : Nat) (hn : n = x.arms.length) (hmx : n ≤ 100000) (hok : x.ok = true) (s : ByteArray) (hs : strN x.enc = s) :
    Calls Tryd.prog 14 #[insV x (.slice ao n cp), .string s] w fun e w' => e = .returned (.bool true) ∧ Below w.heap.size w w' := by
  have HE : Hid (∀ W, Below w.heap.size w W → Calls Tryd.prog 15 #[insV x (.slice ao n cp)] W (EncRet W x)) := fun W hb => enc_as (cp := cp) (hl.below hb) n hn (by omega)
  have oX := Own.new w #[.int .u8 (x.op : Int), .int .i64 x.a, .int .i64 x.b, .slice ao n cp] 24
  have hb1 := new_below w (.cells #[.int .u8 (x.op : Int), .int .i64 x.a, .int .i64 x.b, .slice ao n cp] 24)
  have HC : Hid (∀ W e w2, EncRet W x e w2 → ∃ a L c, e = .returned (.tuple #[.slice a L c, .int .i64 0]) ∧ (convert 46 9 (.slice a L c)).run Tryd.prog w2 = .ok (.string s) w2 ∧ Below W.heap.size W w2) := by
    rintro W e w2 ⟨v, he, hr, -, b2⟩
    obtain ⟨a, c, rfl, -⟩ := hr.shape
    obtain ⟨a', c', e', hl2⟩ := row_lies hr (enc_byte x hl.op) (by have := enc_small x; omega)
    cases e'
    refine ⟨a, _, c, ?_, by rw [← hs]; exact conv_any hl2 rfl, b2⟩
    rw [he, if_pos hok]
  unfold insV at *
  generalize (x.op : Int) = N at *
  generalize x.a = XA at *
  generalize x.b = XB at *
  clear hl hn hs
  go_enter Tryd.func14, Tryd.ntmps14
  go_upto_region 1 with fail
  generalize w.alloc _ = w1 at *
  obtain ⟨x0, x1, x2, x3, xf⟩ := own4 oX
  go_wp2_with fail
  refine Calls.mono (HE.out w1 hb1) ?_
  intro e w2 hR
  obtain ⟨a, L, c, rfl, C1, b2⟩ := HC.out w1 e w2 hR
  have b3 := hb1.trans (b2.mono hb1.size)
  clear x0 x1 x2 x3 xf HE HC hR b2
  go_wp2
  go_ret
  exact ⟨rfl, b3⟩
theorem lies_bytes (w : World) (xs : List Nat) (hb : ∀ c ∈ xs, c < 256) (hn : xs.length ≤ 1000) : Lies (Go.Lib.bytesWorld w 5 (strN xs)) (some ⟨w.heap.size, 0, none⟩) xs := by
  refine ⟨hb, by omega, .inr ⟨_, _, rfl, fun i hi => ?_⟩⟩
  have hsz : (strN xs).size = xs.length := by simp [strN, strOfNums, ByteArray.size]
  rw [Nat.zero_add, Go.Lib.bytesWorld_cell w 5 (strN xs) i (by omega)]
  congr 2
  have hc : xs.getD i 0 < 256 := hb _ (by simp [List.getD, hi])
  have : ((strN xs).data.toList.getD i 0) = UInt8.ofNat (xs.getD i 0) := by
    simp [strN, strOfNums, List.getD, hi]
  rw [this, UInt8.toNat_ofNat', Nat.mod_eq_of_lt hc]
set_option maxHeartbeats 2000000 in
set_option maxRecDepth 100000 in
theorem wrong_as (w : World) (xs : List Nat) (hb : ∀ c ∈ xs, c < 256) (hn : xs.length ≤ 1000) (s : ByteArray) (hs : strN xs = s) (at_ : Int) (er : Nat) (hd : dec xs at_ = (zI, 0, er)) :
    Calls Tryd.prog 19 #[.string s, .int .i64 at_, .int .i64 (er : Int)] w fun e w' => e = .returned (.bool true) ∧ Below w.heap.size w w' := by
  have hl := lies_bytes w xs hb hn
  have hsz : s.size = xs.length := by rw [← hs]; simp [strN, strOfNums, ByteArray.size]
  have hC := Go.Lib.run_convert_string_bytes (P := Tryd.prog) w 9 46 5 s rfl rfl rfl
  rw [hs] at hl
  rw [hsz] at hC
  have HD : Hid (∀ c, Calls Tryd.prog 17 #[.slice (some ⟨w.heap.size, 0, none⟩) xs.length c, .int .i64 at_] (Go.Lib.bytesWorld w 5 s) (DecRet (Go.Lib.bytesWorld w 5 s) (zI, 0, er))) := fun c => by rw [← hd]; exact dec_as (cap := c) hl rfl at_
  have hb1 : Below w.heap.size w (Go.Lib.bytesWorld w 5 s) := ⟨rfl, rfl, rfl, by rw [Go.Lib.bytesWorld_size]; omega, fun k hk => Go.Lib.bytesWorld_at_old w 5 s k hk⟩
  clear hl hd
  generalize grownCap w xs.length 0 5 = GC at *
  generalize Go.Lib.bytesWorld w 5 s = w1 at *
  go_enter Tryd.func19, Tryd.ntmps19
  go_wp2_with fail
  refine Calls.mono (HD.out GC) ?_
  rintro e w2 ⟨v, he, hr, -, b2⟩
  have he : e = .returned (.tuple #[.agg #[.int .u8 0, .int .i64 0, .int .i64 0, v], .int .i64 0, .int .i64 (er : Int)]) := he
  subst he
  have hr0 : Rw w2 44 2 v 0 [] := hr
  obtain ⟨ao, cp, rfl, -⟩ := hr0.shape
  have oX := Own.new w2 #[.int .u8 0, .int .i64 0, .int .i64 0, .slice ao 0 cp] 24
  have b3 := (hb1.trans (b2.mono hb1.size)).trans ((new_below w2 (.cells #[.int .u8 0, .int .i64 0, .int .i64 0, .slice ao 0 cp] 24)).mono (hb1.trans (b2.mono hb1.size)).size)
  clear hr hr0 hC HD b2 hb1
  go_upto_region 2 with fail
  generalize w2.alloc (.cells #[.int .u8 0, .int .i64 0, .int .i64 0, .slice ao 0 cp] 24) = w3 at *
  obtain ⟨x0, x1, x2, x3, xf⟩ := own4 oX
  go_wp2
  go_ret
  exact ⟨rfl, b3⟩
end Go.Proofs.YtjfdlphkmpkjdaaDoor
