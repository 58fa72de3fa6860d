import Derived.Test.YtmhnbklchnnbaaaGreatDoorJPart1
import Derived.Deep.LoopGhost
import Derived.Deep.RegionHeld3
set_option maxHeartbeats 4000000
set_option maxRecDepth 100000
namespace Go.Proofs.YtmhnbklchnnbaaaGreatDoor
open Go.RowKit
set_option linter.unusedVariables false
def ListRel (w : World) (r E d : Nat) (m : P Tree) (ts : List Tree) (s' : St) (f : Nat) (v : Value) (wr : World) : Prop :=
  ∃ acc sl, listL m f acc E d sl = some (ts, s') ∧ RdAt wr r E d sl ∧ Row wr w.heap.size v acc ∧ Kp r w wr ∧ acc.length + f ≤ 900000000
def FnIs (fn : Nat) : Prop := ∀ (a : Array Value) (w : World), (callFunc fn a).run Tryz.prog w = .ok (.enter fn a) w
theorem fn_typeOf : FnIs 82 := fun a w => by kernel_rfl
theorem fn_field : FnIs 65 := fun a w => by kernel_rfl
theorem fn_expr : FnIs 37 := fun a w => by kernel_rfl
theorem fn_newName : FnIs 134 := fun a w => by kernel_rfl
theorem fn_constant : FnIs 132 := fun a w => by kernel_rfl
theorem fn_varOrSimple : FnIs 122 := fun a w => by kernel_rfl
theorem fn_simple : FnIs 131 := fun a w => by kernel_rfl
theorem fn_program : FnIs 36 := fun a w => by kernel_rfl
theorem plist_as {fn : Nat} {m : P Tree} {c : Nat} (hfn : FnIs fn) (HP : PartAs fn m c) (f : Nat) (hf : f ≤ 100000000) : ∀ (w : World) (r E d : Nat) (s : St) (ts : List Tree) (s' : St), RdAt w r E d s → E ≤ 1048576 → d + c ≤ 1000000000 → listP f m E d s = some (ts, s') →
    Calls Tryz.prog 84 #[.pointer (some ⟨r, 0, none⟩), .func (.func fn) #[] #[]] w (ListRet w r E d ts s') := by
  intro w r E d s ts s' hR hE hd hm
  have hrl := hR.lt
  have hK := Kp.refl r w
  have hfn2 : ∀ (a : Array Value) (w : World), (callFunc fn a).run Tryz.prog w = .ok (.enter fn a) w := hfn
  obtain ⟨t0, s1, h1, h2⟩ := bnd_some hm
  clear hm
  go_enter Tryz.func84, Tryz.ntmps84
  go_wp2_with fail
  refine (HP _ _ _ _ _ _ _ hR hE hd h1).mono ?_
  rintro en w1 ⟨k1, a1, b1, n1x, v1, rfl, n1, hR2, hK2⟩
  have hs1 := (((Kp.refl r w)).trans hK2).size
  replace hK := (hK).trans hK2
  replace hR := hR2
  clear hK2 hR2
  have hrow := Row.one n1 (Nat.le_refl _) hs1
  replace hR := hR.alloc (.cells #[.int .u8 k1, .int .i64 a1, .string b1, .int .u64 n1x, v1] 25)
  replace hK := hK.alloc (.cells #[.int .u8 k1, .int .i64 a1, .string b1, .int .u64 n1x, v1] 25)
  clear n1 h1
  go_wp2_with fail
  generalize hw : w1.alloc (.cells #[.int .u8 k1, .int .i64 a1, .string b1, .int .u64 n1x, v1] 25) = w2 at hR hK hrow ⊢
  clear hw
  go_loopg [5] f (fun g v wr => ListRel w r E d m ts s' g v wr)
  case atStart => exact ⟨[t0], s1, h2, hR, hrow, hK, by simp; omega⟩
  case round =>
    clear hR hK hrow h2 hs1
    obtain ⟨acc, sl, hm, hR, hrow, hK, hlen⟩ := hrel
    cases gk with
    | zero => cases hm
    | succ gk =>
      obtain ⟨q, hq⟩ : ∃ q, isT 4 [⟨#[44]⟩] (nxt E sl) = q := ⟨_, rfl⟩
      have hq2 : sg [44] (nxt E sl) = q := (isT_sg _ _).symm.trans hq
      unfold listL at hm
      replace hm := look_some hm
      rw [hq2] at hm
      clear hq2
      have hw0 := hK.size
      go_wp2_with fail
      refine (psign_as (hR.alloc _) hE (xs := [⟨#[44]⟩]) (Own.new wr _ _) 1 rfl (by omega) q hq).mono ?_
      rintro en w3 ⟨rfl, hR2, hb⟩
      have hs3 := (((Kp.refl r wr).alloc _).trans (Kp.of hb)).size
      replace hrow := (hrow.alloc _).below hb
      replace hK := (hK.alloc _).trans (Kp.of hb)
      replace hR := hR2
      clear hb hR2
      clear hq
      cases q with
      | false =>
        rw [if_neg (by simp)] at hm
        obtain ⟨rfl, rfl⟩ := ret_some hm
        go_wp2
        go_ret
        exact ⟨_, rfl, hrow, hR, hK⟩
      | true =>
        rw [if_pos rfl] at hm
        obtain ⟨tk, s2, h1, h2⟩ := bnd_some hm
        obtain ⟨rfl, rfl⟩ := take_some h1
        obtain ⟨t1, s3, h3, h4⟩ := bnd_some h2
        obtain ⟨k, tx, nn, a, e, ht⟩ := tokIs (nxt E sl)
        clear hm h1 h2
        go_wp2_with fail
        refine (ptake_as hR hE ht).mono ?_
        rintro en w4 ⟨rfl, hR2, hK2⟩
        have hs4 := (((Kp.refl r w3)).trans hK2).size
        replace hrow := (hrow).kp hK2 (by omega)
        replace hK := (hK).trans hK2
        replace hR := hR2
        clear hK2 hR2
        have hrow0 := hrow
        have hv := hrow.shape
        obtain ⟨ao, cap, rfl⟩ := hv
        go_wp2_with fail
        refine (HP _ _ _ _ _ _ _ hR hE hd h3).mono ?_
        rintro en w5 ⟨k1, a1, b1, n1x, v1, rfl, n1, hR2, hK2⟩
        have hs5 := hK2.size
        replace hR := hR2.alloc (.cells #[.int .u8 k1, .int .i64 a1, .string b1, .int .u64 n1x, v1] 25)
        have hK4 := hK2.alloc (.cells #[.int .u8 k1, .int .i64 a1, .string b1, .int .u64 n1x, v1] 25)
        replace hK := hK.trans hK4
        have hcs := (n1.row fun x => x.alloc (.cells #[.int .u8 k1, .int .i64 a1, .string b1, .int .u64 n1x, v1] 25)).cells
        have hb := Own.new w5 #[.int .u8 k1, .int .i64 a1, .string b1, .int .u64 n1x, v1] 25
        have hal : acc.length + 1 ≤ 1000000000 := by omega
        have hww : w4.heap.size ≤ (w5.alloc (.cells #[.int .u8 k1, .int .i64 a1, .string b1, .int .u64 n1x, v1] 25)).heap.size := by rw [World.size_alloc]; omega
        have hkeep : ∀ (g : Nat) (cur : Array Value), w.heap.size ≤ g → Own w4 g cur 25 → Own (w5.alloc (.cells #[.int .u8 k1, .int .i64 a1, .string b1, .int .u64 n1x, v1] 25)) g cur 25 := fun g cur hg ho => ho.kp hK4 (by omega)
        have hbs : w.heap.size ≤ w4.heap.size := by omega
        have hwg : ∀ k : Nat, w.heap.size ≤ k → r < k := fun k hk => by omega
        clear hK2 hR2 h3 hfn2 hK4 hs5
        go_wp2_with (at_builtin; refine wpList_appN rfl (.tmp 19) (.tmp 23) rfl w.heap.size _ acc rfl w4 hrow0 hkeep [t1] 1 1 rfl w5.heap.size rfl _ hb hcs hal hbs hww ?_; intro v' w6 hrow' gz hvb)
        have hR6 := hR.grown gz (fun k hk => hwg k (hvb k hk).1)
        have hK6 := hK.grown gz (fun k hk => (hvb k hk).1)
        go_roundg gk
        case rel => exact ⟨acc ++ [t1], s3, h4, hR6, hrow', hK6, by rw [List.length_append]; simp; omega⟩
        case measure => omega
theorem pperhaps_as {fn : Nat} {m : P Tree} {c : Nat} (hfn : FnIs fn) (HP : PartAs fn m c) (f : Nat) (hf : f ≤ 100000000) : ∀ (w : World) (r E d : Nat) (s : St) (ts : List Tree) (s' : St), RdAt w r E d s → E ≤ 1048576 → d + (c + 1) ≤ 1000000000 → perhaps f m E d s = some (ts, s') →
    Calls Tryz.prog 68 #[.pointer (some ⟨r, 0, none⟩), .func (.func fn) #[] #[]] w (ListRet w r E d ts s') := by
  intro w r E d s ts s' hR hE hd hm
  have hrl := hR.lt
  have hK := Kp.refl r w
  obtain ⟨y, s1, h1, h2⟩ := bnd_some hm
  obtain ⟨tk, s2, h3, h4⟩ := bnd_some h1
  obtain ⟨l, s3, h5, h6⟩ := bnd_some h4
  obtain ⟨tk2, s4, h7, h8⟩ := bnd_some h6
  obtain ⟨rfl, rfl⟩ := ret_some h8
  obtain ⟨rfl, rfl⟩ := ret_some h2
  obtain ⟨k, tx, nn, a, e, ht⟩ := tokIs tk
  obtain ⟨q, hq⟩ : ∃ q, isT 4 [⟨#[41]⟩] (nxt E (deepS d tk s2)) = q := ⟨_, rfl⟩
  have hq2 : sg [41] (nxt E (deepS d tk s2)) = q := (isT_sg _ _).symm.trans hq
  unfold deeper at h5
  replace h5 := look_some h5
  rw [hq2] at h5
  clear hm h1 h2 h4 h6 h8 hq2
  go_enter Tryz.func68, Tryz.ntmps68
  go_wp2_with fail
  refine (popen_as hR hE (by omega) ⟨#[40]⟩ h3 ht).mono ?_
  rintro en w1 ⟨rfl, hR2, hK2⟩
  have hs1 := (((Kp.refl r w)).trans hK2).size
  replace hK := (hK).trans hK2
  replace hR := hR2
  clear hK2 hR2
  go_wp2_with fail
  refine (psign_as (hR.alloc _) hE (xs := [⟨#[41]⟩]) (Own.new w1 _ _) 1 rfl (by omega) q hq).mono ?_
  rintro en w2 ⟨rfl, hR2, hb⟩
  have hs2 := (((Kp.refl r w1).alloc _).trans (Kp.of hb)).size
  replace hK := (hK.alloc _).trans (Kp.of hb)
  replace hR := hR2
  clear hb hR2
  clear hq h3
  cases q with
  | false =>
    rw [if_neg (by simp)] at h5
    go_wp2_with fail
    refine (plist_as hfn HP f hf _ _ _ _ _ _ _ hR hE (by omega) h5).mono ?_
    rintro en w3 ⟨v1, rfl, hrow, hR2, hK2⟩
    have hs3 := (((Kp.refl r w2)).trans hK2).size
    replace hK := (hK).trans hK2
    replace hR := hR2
    clear hK2 hR2
    go_wp2_with fail
    refine (pshut_as hR hE (by omega) ⟨#[41]⟩ h7).mono ?_
    rintro en w4 ⟨⟨_, rfl⟩, hR2, hK2⟩
    have hs4 := (((Kp.refl r w3)).trans hK2).size
    replace hrow := (hrow).kp hK2 (by omega)
    replace hK := (hK).trans hK2
    replace hR := hR2
    clear hK2 hR2
    go_wp2
    go_ret
    exact ⟨_, rfl, hrow.mono (by omega), hR, hK⟩
  | true =>
    rw [if_pos rfl] at h5
    obtain ⟨rfl, rfl⟩ := ret_some h5
    go_wp2_with fail
    refine (pshut_as hR hE (by omega) ⟨#[41]⟩ h7).mono ?_
    rintro en w3 ⟨⟨_, rfl⟩, hR2, hK2⟩
    have hs3 := (((Kp.refl r w2)).trans hK2).size
    replace hK := (hK).trans hK2
    replace hR := hR2
    clear hK2 hR2
    go_wp2
    go_ret
    exact ⟨_, rfl, Row.nil _ _, hR, hK⟩
theorem betw_four {t : Tok} {k : Int} {b : ByteArray} {n a e : Int} (HT : Hid (TokIs t k b n a e)) (h : (k != 4) = false) : t.1 = 4 := by
  have h1 := HT.out.1
  have h2 : k = 4 := by simpa using h
  omega
theorem betw_text {t : Tok} (hg : goodT t) {k : Int} {b : ByteArray} {n a e : Int} (HT : Hid (TokIs t k b n a e)) (x : ByteArray) : (b.toList == x.data.toList) = (t.2.1 == bytesN x) := by
  rw [HT.out.2.1, ← ByteArray.toList_eq]; exact str_same _ hg.1 x
theorem betw_not {t : Tok} {k : Int} {b : ByteArray} {n a e : Int} (HT : Hid (TokIs t k b n a e)) (h : (k != 4) = true) : Ending.returned (.tuple #[.int .u8 0, .int .i64 0]) = Ending.returned (.tuple #[.int .u8 ((betw t).1 : Int), .int .i64 ((betw t).2 : Int)]) := by
  have h1 := HT.out.1
  have h2 : ¬ k = 4 := by simpa using h
  have h3 : (t.1 == 4) = false := by simp; omega
  unfold betw
  rw [h3]; rfl
theorem betw_0 {t : Tok} (hg : goodT t) {k : Int} {b : ByteArray} {n a e : Int} (HT : Hid (TokIs t k b n a e)) (h : (k != 4) = false) (hx : (b.toList == [124, 124]) = true) : Ending.returned (.tuple #[.int .u8 77, .int .i64 0]) = Ending.returned (.tuple #[.int .u8 ((betw t).1 : Int), .int .i64 ((betw t).2 : Int)]) := by
  have h1 := (betw_text hg HT ⟨#[124, 124]⟩).symm.trans hx
  have h2 : t.2.1 = [124, 124] := eq_of_beq h1
  unfold betw
  rw [betw_four HT h, h2]; rfl
theorem betw_1 {t : Tok} (hg : goodT t) {k : Int} {b : ByteArray} {n a e : Int} (HT : Hid (TokIs t k b n a e)) (h : (k != 4) = false) (hx : (b.toList == [38, 38]) = true) : Ending.returned (.tuple #[.int .u8 76, .int .i64 1]) = Ending.returned (.tuple #[.int .u8 ((betw t).1 : Int), .int .i64 ((betw t).2 : Int)]) := by
  have h1 := (betw_text hg HT ⟨#[38, 38]⟩).symm.trans hx
  have h2 : t.2.1 = [38, 38] := eq_of_beq h1
  unfold betw
  rw [betw_four HT h, h2]; rfl
theorem betw_2 {t : Tok} (hg : goodT t) {k : Int} {b : ByteArray} {n a e : Int} (HT : Hid (TokIs t k b n a e)) (h : (k != 4) = false) (hx : (b.toList == [61, 61]) = true) : Ending.returned (.tuple #[.int .u8 70, .int .i64 2]) = Ending.returned (.tuple #[.int .u8 ((betw t).1 : Int), .int .i64 ((betw t).2 : Int)]) := by
  have h1 := (betw_text hg HT ⟨#[61, 61]⟩).symm.trans hx
  have h2 : t.2.1 = [61, 61] := eq_of_beq h1
  unfold betw
  rw [betw_four HT h, h2]; rfl
theorem betw_3 {t : Tok} (hg : goodT t) {k : Int} {b : ByteArray} {n a e : Int} (HT : Hid (TokIs t k b n a e)) (h : (k != 4) = false) (hx : (b.toList == [33, 61]) = true) : Ending.returned (.tuple #[.int .u8 71, .int .i64 2]) = Ending.returned (.tuple #[.int .u8 ((betw t).1 : Int), .int .i64 ((betw t).2 : Int)]) := by
  have h1 := (betw_text hg HT ⟨#[33, 61]⟩).symm.trans hx
  have h2 : t.2.1 = [33, 61] := eq_of_beq h1
  unfold betw
  rw [betw_four HT h, h2]; rfl
theorem betw_4 {t : Tok} (hg : goodT t) {k : Int} {b : ByteArray} {n a e : Int} (HT : Hid (TokIs t k b n a e)) (h : (k != 4) = false) (hx : (b.toList == [60]) = true) : Ending.returned (.tuple #[.int .u8 72, .int .i64 2]) = Ending.returned (.tuple #[.int .u8 ((betw t).1 : Int), .int .i64 ((betw t).2 : Int)]) := by
  have h1 := (betw_text hg HT ⟨#[60]⟩).symm.trans hx
  have h2 : t.2.1 = [60] := eq_of_beq h1
  unfold betw
  rw [betw_four HT h, h2]; rfl
theorem betw_5 {t : Tok} (hg : goodT t) {k : Int} {b : ByteArray} {n a e : Int} (HT : Hid (TokIs t k b n a e)) (h : (k != 4) = false) (hx : (b.toList == [60, 61]) = true) : Ending.returned (.tuple #[.int .u8 73, .int .i64 2]) = Ending.returned (.tuple #[.int .u8 ((betw t).1 : Int), .int .i64 ((betw t).2 : Int)]) := by
  have h1 := (betw_text hg HT ⟨#[60, 61]⟩).symm.trans hx
  have h2 : t.2.1 = [60, 61] := eq_of_beq h1
  unfold betw
  rw [betw_four HT h, h2]; rfl
theorem betw_6 {t : Tok} (hg : goodT t) {k : Int} {b : ByteArray} {n a e : Int} (HT : Hid (TokIs t k b n a e)) (h : (k != 4) = false) (hx : (b.toList == [62]) = true) : Ending.returned (.tuple #[.int .u8 74, .int .i64 2]) = Ending.returned (.tuple #[.int .u8 ((betw t).1 : Int), .int .i64 ((betw t).2 : Int)]) := by
  have h1 := (betw_text hg HT ⟨#[62]⟩).symm.trans hx
  have h2 : t.2.1 = [62] := eq_of_beq h1
  unfold betw
  rw [betw_four HT h, h2]; rfl
theorem betw_7 {t : Tok} (hg : goodT t) {k : Int} {b : ByteArray} {n a e : Int} (HT : Hid (TokIs t k b n a e)) (h : (k != 4) = false) (hx : (b.toList == [62, 61]) = true) : Ending.returned (.tuple #[.int .u8 75, .int .i64 2]) = Ending.returned (.tuple #[.int .u8 ((betw t).1 : Int), .int .i64 ((betw t).2 : Int)]) := by
  have h1 := (betw_text hg HT ⟨#[62, 61]⟩).symm.trans hx
  have h2 : t.2.1 = [62, 61] := eq_of_beq h1
  unfold betw
  rw [betw_four HT h, h2]; rfl
theorem betw_8 {t : Tok} (hg : goodT t) {k : Int} {b : ByteArray} {n a e : Int} (HT : Hid (TokIs t k b n a e)) (h : (k != 4) = false) (hx : (b.toList == [43]) = true) : Ending.returned (.tuple #[.int .u8 60, .int .i64 3]) = Ending.returned (.tuple #[.int .u8 ((betw t).1 : Int), .int .i64 ((betw t).2 : Int)]) := by
  have h1 := (betw_text hg HT ⟨#[43]⟩).symm.trans hx
  have h2 : t.2.1 = [43] := eq_of_beq h1
  unfold betw
  rw [betw_four HT h, h2]; rfl
theorem betw_9 {t : Tok} (hg : goodT t) {k : Int} {b : ByteArray} {n a e : Int} (HT : Hid (TokIs t k b n a e)) (h : (k != 4) = false) (hx : (b.toList == [45]) = true) : Ending.returned (.tuple #[.int .u8 61, .int .i64 3]) = Ending.returned (.tuple #[.int .u8 ((betw t).1 : Int), .int .i64 ((betw t).2 : Int)]) := by
  have h1 := (betw_text hg HT ⟨#[45]⟩).symm.trans hx
  have h2 : t.2.1 = [45] := eq_of_beq h1
  unfold betw
  rw [betw_four HT h, h2]; rfl
theorem betw_10 {t : Tok} (hg : goodT t) {k : Int} {b : ByteArray} {n a e : Int} (HT : Hid (TokIs t k b n a e)) (h : (k != 4) = false) (hx : (b.toList == [124]) = true) : Ending.returned (.tuple #[.int .u8 66, .int .i64 3]) = Ending.returned (.tuple #[.int .u8 ((betw t).1 : Int), .int .i64 ((betw t).2 : Int)]) := by
  have h1 := (betw_text hg HT ⟨#[124]⟩).symm.trans hx
  have h2 : t.2.1 = [124] := eq_of_beq h1
  unfold betw
  rw [betw_four HT h, h2]; rfl
theorem betw_11 {t : Tok} (hg : goodT t) {k : Int} {b : ByteArray} {n a e : Int} (HT : Hid (TokIs t k b n a e)) (h : (k != 4) = false) (hx : (b.toList == [94]) = true) : Ending.returned (.tuple #[.int .u8 67, .int .i64 3]) = Ending.returned (.tuple #[.int .u8 ((betw t).1 : Int), .int .i64 ((betw t).2 : Int)]) := by
  have h1 := (betw_text hg HT ⟨#[94]⟩).symm.trans hx
  have h2 : t.2.1 = [94] := eq_of_beq h1
  unfold betw
  rw [betw_four HT h, h2]; rfl
theorem betw_12 {t : Tok} (hg : goodT t) {k : Int} {b : ByteArray} {n a e : Int} (HT : Hid (TokIs t k b n a e)) (h : (k != 4) = false) (hx : (b.toList == [42]) = true) : Ending.returned (.tuple #[.int .u8 62, .int .i64 4]) = Ending.returned (.tuple #[.int .u8 ((betw t).1 : Int), .int .i64 ((betw t).2 : Int)]) := by
  have h1 := (betw_text hg HT ⟨#[42]⟩).symm.trans hx
  have h2 : t.2.1 = [42] := eq_of_beq h1
  unfold betw
  rw [betw_four HT h, h2]; rfl
theorem betw_13 {t : Tok} (hg : goodT t) {k : Int} {b : ByteArray} {n a e : Int} (HT : Hid (TokIs t k b n a e)) (h : (k != 4) = false) (hx : (b.toList == [47]) = true) : Ending.returned (.tuple #[.int .u8 63, .int .i64 4]) = Ending.returned (.tuple #[.int .u8 ((betw t).1 : Int), .int .i64 ((betw t).2 : Int)]) := by
  have h1 := (betw_text hg HT ⟨#[47]⟩).symm.trans hx
  have h2 : t.2.1 = [47] := eq_of_beq h1
  unfold betw
  rw [betw_four HT h, h2]; rfl
theorem betw_14 {t : Tok} (hg : goodT t) {k : Int} {b : ByteArray} {n a e : Int} (HT : Hid (TokIs t k b n a e)) (h : (k != 4) = false) (hx : (b.toList == [37]) = true) : Ending.returned (.tuple #[.int .u8 64, .int .i64 4]) = Ending.returned (.tuple #[.int .u8 ((betw t).1 : Int), .int .i64 ((betw t).2 : Int)]) := by
  have h1 := (betw_text hg HT ⟨#[37]⟩).symm.trans hx
  have h2 : t.2.1 = [37] := eq_of_beq h1
  unfold betw
  rw [betw_four HT h, h2]; rfl
theorem betw_15 {t : Tok} (hg : goodT t) {k : Int} {b : ByteArray} {n a e : Int} (HT : Hid (TokIs t k b n a e)) (h : (k != 4) = false) (hx : (b.toList == [38]) = true) : Ending.returned (.tuple #[.int .u8 65, .int .i64 4]) = Ending.returned (.tuple #[.int .u8 ((betw t).1 : Int), .int .i64 ((betw t).2 : Int)]) := by
  have h1 := (betw_text hg HT ⟨#[38]⟩).symm.trans hx
  have h2 : t.2.1 = [38] := eq_of_beq h1
  unfold betw
  rw [betw_four HT h, h2]; rfl
theorem betw_16 {t : Tok} (hg : goodT t) {k : Int} {b : ByteArray} {n a e : Int} (HT : Hid (TokIs t k b n a e)) (h : (k != 4) = false) (hx : (b.toList == [60, 60]) = true) : Ending.returned (.tuple #[.int .u8 68, .int .i64 4]) = Ending.returned (.tuple #[.int .u8 ((betw t).1 : Int), .int .i64 ((betw t).2 : Int)]) := by
  have h1 := (betw_text hg HT ⟨#[60, 60]⟩).symm.trans hx
  have h2 : t.2.1 = [60, 60] := eq_of_beq h1
  unfold betw
  rw [betw_four HT h, h2]; rfl
theorem betw_17 {t : Tok} (hg : goodT t) {k : Int} {b : ByteArray} {n a e : Int} (HT : Hid (TokIs t k b n a e)) (h : (k != 4) = false) (hx : (b.toList == [62, 62]) = true) : Ending.returned (.tuple #[.int .u8 69, .int .i64 4]) = Ending.returned (.tuple #[.int .u8 ((betw t).1 : Int), .int .i64 ((betw t).2 : Int)]) := by
  have h1 := (betw_text hg HT ⟨#[62, 62]⟩).symm.trans hx
  have h2 : t.2.1 = [62, 62] := eq_of_beq h1
  unfold betw
  rw [betw_four HT h, h2]; rfl
theorem betw_none {t : Tok} (hg : goodT t) {k : Int} {b : ByteArray} {n a e : Int} (HT : Hid (TokIs t k b n a e)) (h : (k != 4) = false) (h0 : (b.toList == [124, 124]) = false) (h1 : (b.toList == [38, 38]) = false) (h2 : (b.toList == [61, 61]) = false) (h3 : (b.toList == [33, 61]) = false) (h4 : (b.toList == [60]) = false) (h5 : (b.toList == [60, 61]) = false) (h6 : (b.toList == [62]) = false) (h7 : (b.toList == [62, 61]) = false) (h8 : (b.toList == [43]) = false) (h9 : (b.toList == [45]) = false) (h10 : (b.toList == [124]) = false) (h11 : (b.toList == [94]) = false) (h12 : (b.toList == [42]) = false) (h13 : (b.toList == [47]) = false) (h14 : (b.toList == [37]) = false) (h15 : (b.toList == [38]) = false) (h16 : (b.toList == [60, 60]) = false) (h17 : (b.toList == [62, 62]) = false) : Ending.returned (.tuple #[.int .u8 0, .int .i64 0]) = Ending.returned (.tuple #[.int .u8 ((betw t).1 : Int), .int .i64 ((betw t).2 : Int)]) := by
  have g0 : (t.2.1 == [124, 124]) = false := (betw_text hg HT ⟨#[124, 124]⟩).symm.trans h0
  have g1 : (t.2.1 == [38, 38]) = false := (betw_text hg HT ⟨#[38, 38]⟩).symm.trans h1
  have g2 : (t.2.1 == [61, 61]) = false := (betw_text hg HT ⟨#[61, 61]⟩).symm.trans h2
  have g3 : (t.2.1 == [33, 61]) = false := (betw_text hg HT ⟨#[33, 61]⟩).symm.trans h3
  have g4 : (t.2.1 == [60]) = false := (betw_text hg HT ⟨#[60]⟩).symm.trans h4
  have g5 : (t.2.1 == [60, 61]) = false := (betw_text hg HT ⟨#[60, 61]⟩).symm.trans h5
  have g6 : (t.2.1 == [62]) = false := (betw_text hg HT ⟨#[62]⟩).symm.trans h6
  have g7 : (t.2.1 == [62, 61]) = false := (betw_text hg HT ⟨#[62, 61]⟩).symm.trans h7
  have g8 : (t.2.1 == [43]) = false := (betw_text hg HT ⟨#[43]⟩).symm.trans h8
  have g9 : (t.2.1 == [45]) = false := (betw_text hg HT ⟨#[45]⟩).symm.trans h9
  have g10 : (t.2.1 == [124]) = false := (betw_text hg HT ⟨#[124]⟩).symm.trans h10
  have g11 : (t.2.1 == [94]) = false := (betw_text hg HT ⟨#[94]⟩).symm.trans h11
  have g12 : (t.2.1 == [42]) = false := (betw_text hg HT ⟨#[42]⟩).symm.trans h12
  have g13 : (t.2.1 == [47]) = false := (betw_text hg HT ⟨#[47]⟩).symm.trans h13
  have g14 : (t.2.1 == [37]) = false := (betw_text hg HT ⟨#[37]⟩).symm.trans h14
  have g15 : (t.2.1 == [38]) = false := (betw_text hg HT ⟨#[38]⟩).symm.trans h15
  have g16 : (t.2.1 == [60, 60]) = false := (betw_text hg HT ⟨#[60, 60]⟩).symm.trans h16
  have g17 : (t.2.1 == [62, 62]) = false := (betw_text hg HT ⟨#[62, 62]⟩).symm.trans h17
  unfold betw
  rw [betw_four HT h, g0, g1, g2, g3, g4, g5, g6, g7, g8, g9, g10, g11, g12, g13, g14, g15, g16, g17]; rfl
theorem pbetween_as (w : World) {t : Tok} (hg : goodT t) {k : Int} {b : ByteArray} {n a e : Int} (HT : Hid (TokIs t k b n a e)) :
    Calls Tryz.prog 72 #[.agg #[.int .u8 k, .string b, .int .u64 n, .int .i64 a, .int .i64 e]] w fun en w' => en = .returned (.tuple #[.int .u8 ((betw t).1 : Int), .int .i64 ((betw t).2 : Int)]) ∧ Below w.heap.size w w' := by
  go_enter Tryz.func72, Tryz.ntmps72
  go_wp2
  all_goals refine bodyPost_ret (results_tmp2 rfl _ _ _) rfl ⟨?_, (Below.refl _ _).alloc (Nat.le_refl _) _⟩
  · exact betw_not HT (by assumption)
  · exact betw_0 hg HT (by assumption) (by assumption)
  · exact betw_1 hg HT (by assumption) (by assumption)
  · exact betw_2 hg HT (by assumption) (by assumption)
  · exact betw_3 hg HT (by assumption) (by assumption)
  · exact betw_4 hg HT (by assumption) (by assumption)
  · exact betw_5 hg HT (by assumption) (by assumption)
  · exact betw_6 hg HT (by assumption) (by assumption)
  · exact betw_7 hg HT (by assumption) (by assumption)
  · exact betw_8 hg HT (by assumption) (by assumption)
  · exact betw_9 hg HT (by assumption) (by assumption)
  · exact betw_10 hg HT (by assumption) (by assumption)
  · exact betw_11 hg HT (by assumption) (by assumption)
  · exact betw_12 hg HT (by assumption) (by assumption)
  · exact betw_13 hg HT (by assumption) (by assumption)
  · exact betw_14 hg HT (by assumption) (by assumption)
  · exact betw_15 hg HT (by assumption) (by assumption)
  · exact betw_16 hg HT (by assumption) (by assumption)
  · exact betw_17 hg HT (by assumption) (by assumption)
  · exact betw_none hg HT (by assumption) (by assumption) (by assumption) (by assumption) (by assumption) (by assumption) (by assumption) (by assumption) (by assumption) (by assumption) (by assumption) (by assumption) (by assumption) (by assumption) (by assumption) (by assumption) (by assumption) (by assumption) (by assumption)
theorem run_appN (W : World) (ty : TypeId) (B : Nat) (v : Value) (ts : List Tree) (W0 : World) (hrow0 : Row W0 B v ts) (hkeep : ∀ (g : Nat) (cur : Array Value), B ≤ g → Own W0 g cur 25 → Own W g cur 25) (us : List Tree) (m c : Nat) (hm : us.length = m)
    (b : Nat) (cs : Array Value) (hb : Own W b cs 25) (hcs : ∃ F, Cells W us (cs.toList.take (m * 5)) F ∧ F.Nodup ∧ (∀ g ∈ F, W0.heap.size ≤ g))
    (h63 : ts.length + m ≤ 1000000000) (hbase : B ≤ W0.heap.size) (hsz : W0.heap.size ≤ W.heap.size) :
    ∃ v' w', (Builtin.append_ #[23, 23] ty #[v, .slice (some ⟨b, 0, none⟩) m c]).run Tryz.prog W = .ok v' w' ∧ Row w' B v' (ts ++ us) ∧ W.grownBy w' v.ownBlock ∧ (∀ k, v.ownBlock = some k → B ≤ k ∧ k < W0.heap.size) := by
  obtain ⟨i8, hi, hz0, hz1, hz2⟩ := info_parts infoN
  obtain ⟨xs, F1, hown0, hc0, hn, hF, hne⟩ := hrow0.own
  obtain ⟨F, k1, k2, k3⟩ := hcs
  have hlt0 := Cells.lt _ _ _ hc0
  have hc : Cells W ts xs F1 := Cells.on _ _ _ hc0 fun g hg cur ho => hkeep g cur (hF g hg) ho
  have hown : W.ownsRow B 25 5 v ts.length xs := by
    refine ⟨hown0.1, ?_⟩
    rcases hown0.2 with q | ⟨g, cap, cur, rfl, hg, ho, r⟩
    · exact .inl q
    · exact .inr ⟨g, cap, cur, rfl, hg, hkeep g cur hg ho, r⟩
  have k4 : ∀ g ∈ F, some g ≠ v.ownBlock := fun g hg e => by have := (hown0.lt g e.symm).2; have := k3 g hg; omega
  have hA : ∀ j u, (cs.toList.take (m * 5))[j]? = some u → W.cell? ((⟨b, 0, none⟩ : Addr).add j) = some u := by
    intro j u hu
    rw [List.getElem?_take] at hu
    have hj : j < m * 5 := by
      refine Classical.byContradiction fun q => ?_
      rw [if_neg q] at hu; cases hu
    rw [if_pos hj] at hu
    have hadd : (⟨b, 0, none⟩ : Addr).add j = ⟨b, j, none⟩ := by unfold Addr.add; split <;> simp_all
    rw [hadd, cell_of_row _ b j _ 25 _ hb]
    simpa using hu
  have hB : ∀ u ∈ cs.toList.take (m * 5), u.oneCell' = true := by
    have : ∀ (us : List Tree) (ys : List Value) (F : List Nat), Cells W us ys F → ∀ u ∈ ys, u.oneCell' = true := by
      intro us
      induction us with
      | nil => intro ys F h u hu; rw [cells_nil] at h; rw [h.1] at hu; cases hu
      | cons t ts ih =>
        intro ys F h u hu
        obtain ⟨k, a, tx, n, ks⟩ := t
        rw [cells_cons] at h
        obtain ⟨v, xs, rest, F0, F1, F2, rfl, rfl, h1, h2, h3⟩ := h
        simp only [List.mem_cons] at hu
        rcases hu with rfl | rfl | rfl | rfl | rfl | hu
        · rfl
        · rfl
        · rfl
        · rfl
        · rcases h1.2 with ⟨rfl, _, _⟩ | ⟨g, cap, cur, rfl, _⟩ <;> rfl
        · exact ih rest F2 h3 u hu
    exact this _ _ _ k1
  obtain ⟨v', w', hr, h1, h2, _, h4⟩ := run_append_own_at (P := Tryz.prog) W B 23 ty 25 i8 _ 5 64 Tryz.underlying23 hi hz0 hz1 hz2 rfl (by omega) v ts.length xs hown ⟨b, 0, none⟩ m c (cs.toList.take (m * 5)) (by rw [Cells.length _ _ _ k1, hm]) hA hB (by unfold maxLen; omega) (by omega) (Nat.le_trans hbase hsz)
  have e : ts.length + m = (ts ++ us).length := by rw [List.length_append, hm]
  rw [e] at h1
  have hk : ∀ g, g < W.heap.size → some g ≠ v.ownBlock → ∀ cur, Own W g cur 25 → Own w' g cur 25 := fun g hg hne cur ho => (h2.block g hg hne).trans ho
  have hlt1 := Cells.lt _ _ _ hc
  have hlt2 := Cells.lt _ _ _ k1
  refine ⟨v', w', hr, own_row h1 (Cells.append _ _ _ (Cells.on _ _ _ hc fun g hg => hk g (hlt1 g hg) (hne g hg)) _ _ _ (Cells.on _ _ _ k1 fun g hg => hk g (hlt2 g hg) (k4 g hg))) (nodup_apart hn k2 hlt0 k3) ?_ ?_, h2, fun k hk => hown0.lt k hk⟩
  · intro g hg
    rcases List.mem_append.1 hg with hg | hg
    · exact hF g hg
    · exact Nat.le_trans hbase (k3 g hg)
  · intro g hg e'
    have hcases : some g ≠ v.ownBlock ∧ g < W.heap.size := by
      rcases List.mem_append.1 hg with hg | hg
      · exact ⟨hne g hg, hlt1 g hg⟩
      · exact ⟨k4 g hg, hlt2 g hg⟩
    rcases h4 with h4 | h4
    · exact hcases.1 (e'.trans h4)
    · rw [h4] at e'
      have := Option.some.inj e'
      omega
theorem step_appN {W : World} {ops : Array Oper} {o : Oper} {a : Act} {K : Act → World → Prop} {Q : Exit → Act → World → Prop} {E : Prop} (hgd : o.guard = none) (s x : Operand)
    (ho : o.op = .call { callee := .builtin .append, args := #[s, x], argTypes := #[23, 23] })
    (B : Nat) (v : Value) (ts : List Tree) (hs : a.eval s = v) (W0 : World) (hrow0 : Row W0 B v ts) (hkeep : ∀ (g : Nat) (cur : Array Value), B ≤ g → Own W0 g cur 25 → Own W g cur 25) (us : List Tree) (m c : Nat) (hm : us.length = m)
    (b : Nat) (hx : a.eval x = .slice (some ⟨b, 0, none⟩) m c) (cs : Array Value) (hb : Own W b cs 25) (hcs : ∃ F, Cells W us (cs.toList.take (m * 5)) F ∧ F.Nodup ∧ (∀ g ∈ F, W0.heap.size ≤ g))
    (h63 : ts.length + m ≤ 1000000000) (hbase : B ≤ W0.heap.size) (hsz : W0.heap.size ≤ W.heap.size)
    (h : ∀ ao cap w', Row w' B (.slice ao (ts ++ us).length cap) (ts ++ us) → W.grownBy w' v.ownBlock → (∀ k, v.ownBlock = some k → B ≤ k ∧ k < W0.heap.size) → K (a.put o.dst (.slice ao (ts ++ us).length cap)) w') :
    if Region.wanted o (yielded ops a.tmps) = true then Oper.wp Tryz.prog o a W K Q else E := by
  have hw : Region.wanted o (yielded ops a.tmps) = true := by simp [Region.wanted, hgd]
  rw [if_pos hw]
  obtain ⟨v', w', hr, h1, h2, h3⟩ := run_appN W o.type B v ts W0 hrow0 hkeep us m c hm b cs hb hcs h63 hbase hsz
  obtain ⟨ao, cap, rfl⟩ := h1.shape
  unfold Oper.wp execOp
  simp only [ho, resolve, invoke, builtin, Sem.run_bind, Sem.run_pure, Result.andThen_ok, List.map_toArray, List.map_cons, List.map_nil, hs, hx, hr]
  exact h ao cap w' h1 h2 h3
def KI (a b : Nat) (w w' : World) : Prop := ∀ g, a ≤ g → g < b → w'.heap[g]? = w.heap[g]?
theorem KI.refl (a b : Nat) (w : World) : KI a b w w := fun _ _ _ => rfl
theorem KI.alloc {a b : Nat} {w w' : World} (h : KI a b w w') (hb : b ≤ w'.heap.size) (o : Obj) : KI a b w (w'.alloc o) := fun g h1 h2 => (Below.heap_alloc w' o g (by omega)).trans (h g h1 h2)
theorem KI.below {a b : Nat} {w w' w'' : World} (h : KI a b w w') (hb : b ≤ w'.heap.size) (hk : Below w'.heap.size w' w'') : KI a b w w'' := fun g h1 h2 => (hk.block g (by omega)).trans (h g h1 h2)
theorem KI.kp {a b r : Nat} {w w' w'' : World} (h : KI a b w w') (hb : b ≤ w'.heap.size) (hk : Kp r w' w'') (hr : r < a) : KI a b w w'' := fun g h1 h2 => (hk.block g (by omega) (by intro e; have := Option.some.inj e; omega)).trans (h g h1 h2)
theorem KI.grown {a b k : Nat} {w w' w'' : World} (h : KI a b w w') (hb : b ≤ w'.heap.size) (hk : w'.grownBy w'' (some k)) (hr : k < a ∨ b ≤ k) : KI a b w w'' := fun g h1 h2 => (hk.block g (by omega) (by intro e; have := Option.some.inj e; omega)).trans (h g h1 h2)
theorem KI.drew {a b : Nat} {w w' : World} (h : KI a b w w') : KI a b w w'.drew := h
theorem KI.set {a b k i : Nat} {w w' : World} (h : KI a b w w') (hr : k < a ∨ b ≤ k) (u : Value) : KI a b w (w'.setCell ⟨k, i, none⟩ u) := fun g h1 h2 => (Below.heap_setCell w' ⟨k, i, none⟩ u g (by show g ≠ k; omega)).trans (h g h1 h2)
theorem KI.set5 {a b k : Nat} {w w' : World} (h : KI a b w w') (hr : k < a ∨ b ≤ k) (b0 b1 b2 b3 b4 : Value) :
    KI a b w (((((w'.setCell ⟨k, 0, none⟩ b0).setCell ⟨k, 1, none⟩ b1).setCell ⟨k, 2, none⟩ b2).setCell ⟨k, 3, none⟩ b3).setCell ⟨k, 4, none⟩ b4) := ((((h.set hr b0).set hr b1).set hr b2).set hr b3).set hr b4
theorem Row.ki {w w' : World} {a b : Nat} {v : Value} {ts : List Tree} (h : Row w a v ts) (hk : KI a b w w') (hb : w.heap.size ≤ b) : Row w' a v ts := h.on fun g hg cur ho => (hk g hg (Nat.lt_of_lt_of_le ho.lt hb)).trans ho
theorem NodeIs.ki {w w' : World} {a b : Nat} {t : Tree} {k x : Int} {s : ByteArray} {n : Int} {v : Value} (h : NodeIs w a t k x s n v) (hk : KI a b w w') (hb : w.heap.size ≤ b) : NodeIs w' a t k x s n v := h.row fun q => q.ki hk hb
theorem NodeIs.mono {w : World} {B B' : Nat} {t : Tree} {k a : Int} {b : ByteArray} {n : Int} {v : Value} (h : NodeIs w B t k a b n v) (hB : B' ≤ B) : NodeIs w B' t k a b n v := h.row fun q => q.mono hB
theorem pnameOrCall_as {expr : P Tree} {c : Nat} (HP : PartAs 37 expr c) (f : Nat) (hf : f ≤ 100000000) : PartAs 112 (callP f expr) (c + 1) := by
  intro w r E d s t s' hR hE hd hm
  have hrl := hR.lt
  have hK := Kp.refl r w
  obtain ⟨m, s1, h1, h2⟩ := bnd_some hm
  obtain ⟨q, hq⟩ : ∃ q, isT 4 [⟨#[40]⟩] (nxt E s1) = q := ⟨_, rfl⟩
  have hq2 : sg [40] (nxt E s1) = q := (isT_sg _ _).symm.trans hq
  replace h2 := look_some h2
  rw [hq2] at h2
  clear hm hq2
  go_enter Tryz.func112, Tryz.ntmps112
  go_upto_region 1 with fail
  have hzo := hR.lt
  have hko := hK.size
  have o := Own.new w #[.int .u8 0, .int .i64 0, .string ⟨#[]⟩, .int .u64 0, .slice none 0 0] 25
  replace hR := hR.alloc (.cells #[.int .u8 0, .int .i64 0, .string ⟨#[]⟩, .int .u64 0, .slice none 0 0] 25)
  replace hK := hK.alloc (.cells #[.int .u8 0, .int .i64 0, .string ⟨#[]⟩, .int .u64 0, .slice none 0 0] 25)
  generalize hw : w.alloc (.cells #[.int .u8 0, .int .i64 0, .string ⟨#[]⟩, .int .u64 0, .slice none 0 0] 25) = w1 at hR hK o ⊢
  clear hw
  have hs1 := o.lt
  go_wp2_with fail
  refine (pusedName_as _ _ _ _ _ _ _ hR hE (by omega) h1).mono ?_
  rintro en w2 ⟨k1, a1, b1, n1x, v1, rfl, n1, hR2, hK2⟩
  obtain ⟨ao_n1, cap_n1, rfl⟩ := n1.2.2.2.2.shape
  have hs2 := (((Kp.refl r w1)).trans hK2).size
  replace o := (o).kp hK2 (by omega)
  replace hK := (hK).trans hK2
  replace hR := hR2
  clear hK2 hR2
  have n1i := KI.refl w1.heap.size w2.heap.size w2
  go_upto_region 2 with fail
  have hzm1 := hR.lt
  have hkm1 := hK.size
  have m1 := Own.new w2 #[.int .u8 k1, .int .i64 a1, .string b1, .int .u64 n1x, .slice ao_n1 m.kids.length cap_n1] 25
  replace hR := hR.alloc (.cells #[.int .u8 k1, .int .i64 a1, .string b1, .int .u64 n1x, .slice ao_n1 m.kids.length cap_n1] 25)
  replace hK := hK.alloc (.cells #[.int .u8 k1, .int .i64 a1, .string b1, .int .u64 n1x, .slice ao_n1 m.kids.length cap_n1] 25)
  replace o := o.alloc (.cells #[.int .u8 k1, .int .i64 a1, .string b1, .int .u64 n1x, .slice ao_n1 m.kids.length cap_n1] 25)
  replace n1i := n1i.alloc (by omega) (.cells #[.int .u8 k1, .int .i64 a1, .string b1, .int .u64 n1x, .slice ao_n1 m.kids.length cap_n1] 25)
  generalize hw : w2.alloc (.cells #[.int .u8 k1, .int .i64 a1, .string b1, .int .u64 n1x, .slice ao_n1 m.kids.length cap_n1] 25) = w3 at hR hK m1 o n1i ⊢
  clear hw
  have hs3 := m1.lt
  go_wp2_with fail
  refine (psign_as (hR.alloc _) hE (xs := [⟨#[40]⟩]) (Own.new w3 _ _) 1 rfl (by omega) q hq).mono ?_
  rintro en w4 ⟨rfl, hR2, hb⟩
  have hs4 := (((Kp.refl r w3).alloc _).trans (Kp.of hb)).size
  replace o := (o.alloc _).below hb
  replace m1 := (m1.alloc _).below hb
  replace n1i := n1i.kp (by omega) (((Kp.refl r _).alloc _).trans (Kp.of hb)) (by omega)
  replace hK := (hK.alloc _).trans (Kp.of hb)
  replace hR := hR2
  clear hb hR2
  clear hq
  cases q with
  | false =>
    rw [if_neg (by simp)] at h2
    obtain ⟨rfl, rfl⟩ := ret_some h2
    obtain ⟨m10, m11, m12, m13, m14, m1f⟩ := m1.five
    go_wp2_with (refine wpList_put5 rfl (.tmp 2) (.tmp 15) rfl rfl w.heap.size rfl rfl (o) ⟨rfl, rfl, rfl, rfl, rfl⟩ ?_; intro wz oz gz)
    refine bodyPost_cell1 (t := 25) rfl rfl rfl oz Tryz.underlying25 rfl (by kernel_rfl) ?_
    exact ⟨_, _, _, _, _, rfl, (n1.ki (n1i.grown (by omega) gz (by omega)) (Nat.le_refl _)).mono (by omega), (hR).grown gz (some_lt (by omega)), (hK).grown gz (some_le (by omega))⟩
  | true =>
    rw [if_pos rfl] at h2
    obtain ⟨l, s2, h3, h4⟩ := bnd_some h2
    obtain ⟨rfl, rfl⟩ := ret_some h4
    clear h2 h4
    go_upto_region 4 with (first | (refine wpList_put1u8 rfl (.tmp 11) _ rfl rfl w2.heap.size 0 rfl rfl m1 (by simp) ?_; intro wq0 m1q0 gq0))
    have hs5 := gq0.size
    replace o := o.grown gq0 (some_ne (by omega))
    replace n1i := n1i.grown (by omega) gq0 (by omega)
    replace hR := hR.grown gq0 (some_lt (by omega))
    replace hK := hK.grown gq0 (some_le (by omega))
    replace m1 : Own wq0 w2.heap.size #[.int .u8 45, .int .i64 a1, .string b1, .int .u64 n1x, .slice ao_n1 m.kids.length cap_n1] 25 := m1q0
    clear m1q0 gq0
    generalize hw : wq0 = w5 at *
    clear hw
    go_wp2_with fail
    refine (pperhaps_as fn_expr HP f hf _ _ _ _ _ _ _ hR hE hd h3).mono ?_
    rintro en w6 ⟨v2, rfl, hrow, hR2, hK2⟩
    have hs6 := (((Kp.refl r w5)).trans hK2).size
    replace o := (o).kp hK2 (by omega)
    replace m1 := (m1).kp hK2 (by omega)
    replace n1i := n1i.kp (by omega) (((Kp.refl r _)).trans hK2) (by omega)
    replace hK := (hK).trans hK2
    replace hR := hR2
    clear hK2 hR2
    have hrowi := KI.refl w5.heap.size w6.heap.size w6
    obtain ⟨ao, cap, rfl⟩ := hrow.shape
    have hb1 := n1.1
    go_upto_region 5 with (first | (refine wpList_put1nodes rfl (.tmp 14) (.tmp 13) rfl rfl w2.heap.size 4 rfl rfl m1 (by simp) ?_; intro wq0 m1q0 gq0))
    have hs7 := gq0.size
    replace o := o.grown gq0 (some_ne (by omega))
    replace n1i := n1i.grown (by omega) gq0 (by omega)
    replace hrowi := hrowi.grown (by omega) gq0 (by omega)
    replace hR := hR.grown gq0 (some_lt (by omega))
    replace hK := hK.grown gq0 (some_le (by omega))
    replace m1 : Own wq0 w2.heap.size #[.int .u8 45, .int .i64 a1, .string b1, .int .u64 n1x, .slice ao l.length cap] 25 := m1q0
    clear m1q0 gq0
    generalize hw : wq0 = w7 at *
    clear hw
    obtain ⟨m10, m11, m12, m13, m14, m1f⟩ := m1.five
    go_wp2_with (refine wpList_put5 rfl (.tmp 2) (.tmp 15) rfl rfl w.heap.size rfl rfl (o) ⟨rfl, rfl, rfl, rfl, rfl⟩ ?_; intro wz oz gz)
    refine bodyPost_cell1 (t := 25) rfl rfl rfl oz Tryz.underlying25 rfl (by kernel_rfl) ?_
    exact ⟨_, _, _, _, _, rfl, ⟨rfl, n1.2.1, n1.2.2.1, n1.2.2.2.1, ((hrow.ki (hrowi.grown (by omega) gz (by omega)) (Nat.le_refl _)).mono (by omega))⟩, (hR).grown gz (some_lt (by omega)), (hK).grown gz (some_le (by omega))⟩
end Go.Proofs.YtmhnbklchnnbaaaGreatDoor
