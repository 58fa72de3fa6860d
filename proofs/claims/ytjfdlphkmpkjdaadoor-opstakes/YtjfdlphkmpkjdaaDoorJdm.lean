/-
  THE DOCUMENT'S made: what its type tells.
  THE DOCUMENT'S made, op by op. (Written by mkdm.py.)
  THE DOCUMENT'S made, op by op. (Written by mkdm.py.)
  THE DOCUMENT'S made, op by op. (Written by mkdm.py.)
-/
import Derived.Test.YtjfdlphkmpkjdaaDoorJdp
import Derived.Test.YtjfdlphkmpkjdaaDoorTk11
namespace Go.Proofs.YtjfdlphkmpkjdaaDoor
open Go.RowKit
set_option linter.unusedVariables false

def MadeRet (w : World) (E : Option (List Int × List Int)) (e : Ending) (w' : World) : Prop := (match E with
  | none => ∃ a1 n1 c1 a2 n2 c2, e = .returned (.tuple #[.slice a1 n1 c1, .slice a2 n2 c2, .bool false])
  | some r => ∃ a1 c1 a2 c2, e = .returned (.tuple #[.slice a1 r.1.length c1, .slice a2 r.2.length c2, .bool true]) ∧ IntNew w' w.heap.size (.slice a1 r.1.length c1) r.1 ∧ IntNew w' w.heap.size (.slice a2 r.2.length c2) r.2) ∧ Below w.heap.size w w'
theorem made_yes {w w' : World} {l k : List Int} {a1 a2 : Option Addr} {n1 c1 n2 c2 : Nat} (h : TwoRet w l k (.returned (.tuple #[.slice a1 n1 c1, .slice a2 n2 c2])) w') : MadeRet w (some (l, k)) (.returned (.tuple #[.slice a1 n1 c1, .slice a2 n2 c2, .bool true])) w' := by
  obtain ⟨a1', c1', a2', c2', e, h1, h2, h3⟩ := h
  cases e
  exact ⟨⟨_, _, _, _, rfl, h1, h2⟩, h3⟩
theorem made_no {w w' : World} {a1 a2 : Option Addr} {n1 c1 n2 c2 : Nat} (h : Below w.heap.size w w') : MadeRet w none (.returned (.tuple #[.slice a1 n1 c1, .slice a2 n2 c2, .bool false])) w' := ⟨⟨_, _, _, _, _, _, rfl⟩, h⟩
theorem made_drew {w w1 : World} {E : Option (List Int × List Int)} {e : Ending} (h : MadeRet w E e w1) : MadeRet w E e w1.drew := by
  obtain ⟨h1, h2⟩ := h
  refine ⟨?_, below_drewd h2⟩
  cases E with
  | none => exact h1
  | some r =>
    obtain ⟨a1, c1, a2, c2, q, k1, k2⟩ := h1
    exact ⟨a1, c1, a2, c2, q, nD k1, nD k2⟩
theorem typ_arr {tys : List TyP} {x : Int} {op k1 k2 : Nat} (hk : ∀ k, k ∈ ksOf op ↔ k = k1 ∨ k = k2) {e : Ending} {W W' : World} (h : TydRet k1 k2 (typT tys x) W e W') :
    ∃ (k : Int) (nm : ByteArray) (fa : Option Addr) (fl fc : Nat) (el ln : Int) (b : Bool), e = .returned (.tuple #[.agg #[.int .u8 k, .string nm, .slice fa fl fc, .int .i64 el, .int .i64 ln], .bool b]) ∧ Below W.heap.size W W' ∧ (b = true → arrM tys op x = arrT op x el) ∧ (b = false → arrM tys op x = none) := by
  obtain ⟨h1, h2⟩ := h
  unfold arrM
  rw [fnd_typ]
  cases ht : typT tys x with
  | none =>
    rw [ht] at h1
    exact ⟨_, _, _, _, _, _, _, false, h1, h2, fun q => (by cases q), fun _ => rfl⟩
  | some t =>
    rw [ht] at h1
    obtain ⟨b, hb, rfl⟩ := h1
    refine ⟨_, _, _, _, _, _, _, b, rfl, h2, fun q => ?_, fun q => ?_⟩
    · simp only
      rw [if_pos ((hk _).2 (hb.1 q))]
    · simp only
      rw [if_neg (fun z => by have := hb.2 ((hk _).1 z); rw [q] at this; cases this)]
end Go.Proofs.YtjfdlphkmpkjdaaDoor
namespace Go.Proofs.YtjfdlphkmpkjdaaDoor
open Go.RowKit
set_option linter.unusedVariables false

set_option maxHeartbeats 4000000 in
set_option maxRecDepth 100000 in
theorem rmade39 {w : World} {A : MoP} (hm : MoIn w A) (hs : A.tys.length ≤ 100000) (x y : Int) (h0 : 0 ≤ x) (h1 : x ≤ 65535) (ao : Option Addr) (n c : Nat) : Calls Tryd.prog 25 #[.agg #[.int .u8 39, .int .i64 x, .int .i64 y, .slice ao n c], .agg A.cs] w (MadeRet w (arrM A.tys 39 x)) := by
  have HTD : Hid (∀ W, Below w.heap.size w W → Calls Tryd.prog 43 #[.agg A.cs, .int .i64 x, .int .u8 7, .int .u8 7] W (TydRet 7 7 (typT A.tys x) W)) := fun W hb => rtyped_as (hm.tyr.below hb) hs (fun t ht => (hm.ty t ht).kind) x h0 h1 7 7 (by omega) (by omega)
  have HTA : Hid (∀ e W W', TydRet 7 7 (typT A.tys x) W e W' → ∃ (k : Int) (nm : ByteArray) (fa : Option Addr) (fl fc : Nat) (el ln : Int) (b : Bool), e = .returned (.tuple #[.agg #[.int .u8 k, .string nm, .slice fa fl fc, .int .i64 el, .int .i64 ln], .bool b]) ∧ Below W.heap.size W W' ∧ (b = true → arrM A.tys 39 x = arrT 39 x el) ∧ (b = false → arrM A.tys 39 x = none)) := fun e W W' h => typ_arr (fun k => by simp [ksOf]) h
  obtain ⟨R, HR⟩ : ∃ R, arrM A.tys 39 x = R := ⟨_, rfl⟩
  rw [HR] at HTA
  rw [HR]
  have oX := (Own.new w #[.int .u8 39, .int .i64 x, .int .i64 y, .slice ao n c] 24).alloc (.cells A.cs 29)
  have oA := Own.new (w.alloc (.cells #[.int .u8 39, .int .i64 x, .int .i64 y, .slice ao n c] 24)) A.cs 29
  rw [World.size_alloc] at oA
  have b0 : Below w.heap.size w ((w.alloc (.cells #[.int .u8 39, .int .i64 x, .int .i64 y, .slice ao n c] 24)).alloc (.cells A.cs 29)) := (new_below _ _).alloc (by simp) _
  unfold MoP.cs at *
  clear hm hs HR
  generalize A.tys.length = n1 at *
  generalize A.txs.length = n2 at *
  generalize A.fns.length = n3 at *
  go_enter Tryd.func25, Tryd.ntmps25
  go_upto_region 1 with fail
  generalize (w.alloc (.cells #[.int .u8 39, .int .i64 x, .int .i64 y, .slice ao n c] 24)).alloc (.cells #[.slice A.ta n1 A.tc, .slice A.sa n2 A.sc, .slice A.fa n3 A.fc] 29) = w1 at *
  obtain ⟨x0, x1, x2, x3, xf⟩ := own4 oX
  obtain ⟨m0, m1, m2, mf⟩ := own3 oA
  clear x3
  go_wp2_with fail
  refine Calls.mono (HTD.out w1 b0) ?_
  rintro e w2 he
  obtain ⟨k, nm, fa, fl, fc, el, ln, b, rfl, b2, hb1, hb2⟩ := HTA.out e w1 w2 he
  clear HTD HTA he x0 x1 x2 xf m0 m1 m2 mf oA
  replace oX := (oX.below b2).alloc (.cells #[.int .u8 k, .string nm, .slice fa fl fc, .int .i64 el, .int .i64 ln] 57)
  have oT := Own.new w2 #[.int .u8 k, .string nm, .slice fa fl fc, .int .i64 el, .int .i64 ln] 57
  have b9 := (b0.trans (b2.mono b0.size)).alloc (b0.trans (b2.mono b0.size)).size (.cells #[.int .u8 k, .string nm, .slice fa fl fc, .int .i64 el, .int .i64 ln] 57)
  clear b2 b0
  go_upto_region 21 with fail
  generalize w2.alloc (.cells #[.int .u8 k, .string nm, .slice fa fl fc, .int .i64 el, .int .i64 ln] 57) = w3 at *
  obtain ⟨t0, t1, t2, t3, t4, tf⟩ := own5' oT
  clear oT oX
  cases b with
  | true =>
    obtain rfl : some ([el], [x]) = R := (hb1 rfl).symm
    clear hb1 hb2
    go_wp2_with fail
    refine bodyPost_ret (results_tmp3 rfl _ _ _) rfl ?_
    exact made_yes (two_ll b9 [el] [x] (by simp) (by simp))
  | false =>
    obtain rfl : none = R := (hb2 rfl).symm
    clear hb1 hb2
    go_wp2_with fail
    refine bodyPost_ret (results_tmp3 rfl _ _ _) rfl ?_
    exact made_no (nbAA b9 _ _)
set_option maxHeartbeats 4000000 in
set_option maxRecDepth 100000 in
theorem rmade40 {w : World} {A : MoP} (hm : MoIn w A) (hs : A.tys.length ≤ 100000) (x y : Int) (h0 : 0 ≤ x) (h1 : x ≤ 65535) (ao : Option Addr) (n c : Nat) : Calls Tryd.prog 25 #[.agg #[.int .u8 40, .int .i64 x, .int .i64 y, .slice ao n c], .agg A.cs] w (MadeRet w (arrM A.tys 40 x)) := by
  have HTD : Hid (∀ W, Below w.heap.size w W → Calls Tryd.prog 43 #[.agg A.cs, .int .i64 x, .int .u8 8, .int .u8 8] W (TydRet 8 8 (typT A.tys x) W)) := fun W hb => rtyped_as (hm.tyr.below hb) hs (fun t ht => (hm.ty t ht).kind) x h0 h1 8 8 (by omega) (by omega)
  have HTA : Hid (∀ e W W', TydRet 8 8 (typT A.tys x) W e W' → ∃ (k : Int) (nm : ByteArray) (fa : Option Addr) (fl fc : Nat) (el ln : Int) (b : Bool), e = .returned (.tuple #[.agg #[.int .u8 k, .string nm, .slice fa fl fc, .int .i64 el, .int .i64 ln], .bool b]) ∧ Below W.heap.size W W' ∧ (b = true → arrM A.tys 40 x = arrT 40 x el) ∧ (b = false → arrM A.tys 40 x = none)) := fun e W W' h => typ_arr (fun k => by simp [ksOf]) h
  obtain ⟨R, HR⟩ : ∃ R, arrM A.tys 40 x = R := ⟨_, rfl⟩
  rw [HR] at HTA
  rw [HR]
  have oX := (Own.new w #[.int .u8 40, .int .i64 x, .int .i64 y, .slice ao n c] 24).alloc (.cells A.cs 29)
  have oA := Own.new (w.alloc (.cells #[.int .u8 40, .int .i64 x, .int .i64 y, .slice ao n c] 24)) A.cs 29
  rw [World.size_alloc] at oA
  have b0 : Below w.heap.size w ((w.alloc (.cells #[.int .u8 40, .int .i64 x, .int .i64 y, .slice ao n c] 24)).alloc (.cells A.cs 29)) := (new_below _ _).alloc (by simp) _
  unfold MoP.cs at *
  clear hm hs HR
  generalize A.tys.length = n1 at *
  generalize A.txs.length = n2 at *
  generalize A.fns.length = n3 at *
  go_enter Tryd.func25, Tryd.ntmps25
  go_upto_region 1 with fail
  generalize (w.alloc (.cells #[.int .u8 40, .int .i64 x, .int .i64 y, .slice ao n c] 24)).alloc (.cells #[.slice A.ta n1 A.tc, .slice A.sa n2 A.sc, .slice A.fa n3 A.fc] 29) = w1 at *
  obtain ⟨x0, x1, x2, x3, xf⟩ := own4 oX
  obtain ⟨m0, m1, m2, mf⟩ := own3 oA
  clear x3
  go_wp2_with fail
  refine Calls.mono (HTD.out w1 b0) ?_
  rintro e w2 he
  obtain ⟨k, nm, fa, fl, fc, el, ln, b, rfl, b2, hb1, hb2⟩ := HTA.out e w1 w2 he
  clear HTD HTA he x0 x1 x2 xf m0 m1 m2 mf oA
  replace oX := (oX.below b2).alloc (.cells #[.int .u8 k, .string nm, .slice fa fl fc, .int .i64 el, .int .i64 ln] 57)
  have oT := Own.new w2 #[.int .u8 k, .string nm, .slice fa fl fc, .int .i64 el, .int .i64 ln] 57
  have b9 := (b0.trans (b2.mono b0.size)).alloc (b0.trans (b2.mono b0.size)).size (.cells #[.int .u8 k, .string nm, .slice fa fl fc, .int .i64 el, .int .i64 ln] 57)
  clear b2 b0
  go_upto_region 24 with fail
  generalize w2.alloc (.cells #[.int .u8 k, .string nm, .slice fa fl fc, .int .i64 el, .int .i64 ln] 57) = w3 at *
  obtain ⟨t0, t1, t2, t3, t4, tf⟩ := own5' oT
  clear oT oX
  cases b with
  | true =>
    obtain rfl : some ([], [x]) = R := (hb1 rfl).symm
    clear hb1 hb2
    go_wp2_with fail
    refine bodyPost_ret (results_tmp3 rfl _ _ _) rfl ?_
    exact made_yes (two_nl b9 [x] (by simp))
  | false =>
    obtain rfl : none = R := (hb2 rfl).symm
    clear hb1 hb2
    go_wp2_with fail
    refine bodyPost_ret (results_tmp3 rfl _ _ _) rfl ?_
    exact made_no (nbA b9 _)
set_option maxHeartbeats 4000000 in
set_option maxRecDepth 100000 in
theorem rmade44 {w : World} {A : MoP} (hm : MoIn w A) (hs : A.tys.length ≤ 100000) (x y : Int) (h0 : 0 ≤ x) (h1 : x ≤ 65535) (ao : Option Addr) (n c : Nat) : Calls Tryd.prog 25 #[.agg #[.int .u8 44, .int .i64 x, .int .i64 y, .slice ao n c], .agg A.cs] w (MadeRet w (arrM A.tys 44 x)) := by
  have HTD : Hid (∀ W, Below w.heap.size w W → Calls Tryd.prog 43 #[.agg A.cs, .int .i64 x, .int .u8 8, .int .u8 8] W (TydRet 8 8 (typT A.tys x) W)) := fun W hb => rtyped_as (hm.tyr.below hb) hs (fun t ht => (hm.ty t ht).kind) x h0 h1 8 8 (by omega) (by omega)
  have HTA : Hid (∀ e W W', TydRet 8 8 (typT A.tys x) W e W' → ∃ (k : Int) (nm : ByteArray) (fa : Option Addr) (fl fc : Nat) (el ln : Int) (b : Bool), e = .returned (.tuple #[.agg #[.int .u8 k, .string nm, .slice fa fl fc, .int .i64 el, .int .i64 ln], .bool b]) ∧ Below W.heap.size W W' ∧ (b = true → arrM A.tys 44 x = arrT 44 x el) ∧ (b = false → arrM A.tys 44 x = none)) := fun e W W' h => typ_arr (fun k => by simp [ksOf]) h
  obtain ⟨R, HR⟩ : ∃ R, arrM A.tys 44 x = R := ⟨_, rfl⟩
  rw [HR] at HTA
  rw [HR]
  have oX := (Own.new w #[.int .u8 44, .int .i64 x, .int .i64 y, .slice ao n c] 24).alloc (.cells A.cs 29)
  have oA := Own.new (w.alloc (.cells #[.int .u8 44, .int .i64 x, .int .i64 y, .slice ao n c] 24)) A.cs 29
  rw [World.size_alloc] at oA
  have b0 : Below w.heap.size w ((w.alloc (.cells #[.int .u8 44, .int .i64 x, .int .i64 y, .slice ao n c] 24)).alloc (.cells A.cs 29)) := (new_below _ _).alloc (by simp) _
  unfold MoP.cs at *
  clear hm hs HR
  generalize A.tys.length = n1 at *
  generalize A.txs.length = n2 at *
  generalize A.fns.length = n3 at *
  go_enter Tryd.func25, Tryd.ntmps25
  go_upto_region 1 with fail
  generalize (w.alloc (.cells #[.int .u8 44, .int .i64 x, .int .i64 y, .slice ao n c] 24)).alloc (.cells #[.slice A.ta n1 A.tc, .slice A.sa n2 A.sc, .slice A.fa n3 A.fc] 29) = w1 at *
  obtain ⟨x0, x1, x2, x3, xf⟩ := own4 oX
  obtain ⟨m0, m1, m2, mf⟩ := own3 oA
  clear x3
  go_wp2_with fail
  refine Calls.mono (HTD.out w1 b0) ?_
  rintro e w2 he
  obtain ⟨k, nm, fa, fl, fc, el, ln, b, rfl, b2, hb1, hb2⟩ := HTA.out e w1 w2 he
  clear HTD HTA he x0 x1 x2 xf m0 m1 m2 mf oA
  replace oX := (oX.below b2).alloc (.cells #[.int .u8 k, .string nm, .slice fa fl fc, .int .i64 el, .int .i64 ln] 57)
  have oT := Own.new w2 #[.int .u8 k, .string nm, .slice fa fl fc, .int .i64 el, .int .i64 ln] 57
  have b9 := (b0.trans (b2.mono b0.size)).alloc (b0.trans (b2.mono b0.size)).size (.cells #[.int .u8 k, .string nm, .slice fa fl fc, .int .i64 el, .int .i64 ln] 57)
  clear b2 b0
  go_upto_region 27 with fail
  generalize w2.alloc (.cells #[.int .u8 k, .string nm, .slice fa fl fc, .int .i64 el, .int .i64 ln] 57) = w3 at *
  obtain ⟨t0, t1, t2, t3, t4, tf⟩ := own5' oT
  clear oT oX
  cases b with
  | true =>
    obtain rfl : some ([x, el], []) = R := (hb1 rfl).symm
    clear hb1 hb2
    go_wp2_with fail
    refine bodyPost_ret (results_tmp3 rfl _ _ _) rfl ?_
    exact made_yes (two_ln b9 [x, el] (by simp))
  | false =>
    obtain rfl : none = R := (hb2 rfl).symm
    clear hb1 hb2
    go_wp2_with fail
    refine bodyPost_ret (results_tmp3 rfl _ _ _) rfl ?_
    exact made_no (nbA b9 _)
end Go.Proofs.YtjfdlphkmpkjdaaDoor
namespace Go.Proofs.YtjfdlphkmpkjdaaDoor
open Go.RowKit
set_option linter.unusedVariables false

set_option maxHeartbeats 4000000 in
set_option maxRecDepth 100000 in
theorem rmade45 {w : World} {A : MoP} (hm : MoIn w A) (hs : A.tys.length ≤ 100000) (x y : Int) (h0 : 0 ≤ x) (h1 : x ≤ 65535) (ao : Option Addr) (n c : Nat) : Calls Tryd.prog 25 #[.agg #[.int .u8 45, .int .i64 x, .int .i64 y, .slice ao n c], .agg A.cs] w (MadeRet w (arrM A.tys 45 x)) := by
  have HTD : Hid (∀ W, Below w.heap.size w W → Calls Tryd.prog 43 #[.agg A.cs, .int .i64 x, .int .u8 8, .int .u8 8] W (TydRet 8 8 (typT A.tys x) W)) := fun W hb => rtyped_as (hm.tyr.below hb) hs (fun t ht => (hm.ty t ht).kind) x h0 h1 8 8 (by omega) (by omega)
  have HTA : Hid (∀ e W W', TydRet 8 8 (typT A.tys x) W e W' → ∃ (k : Int) (nm : ByteArray) (fa : Option Addr) (fl fc : Nat) (el ln : Int) (b : Bool), e = .returned (.tuple #[.agg #[.int .u8 k, .string nm, .slice fa fl fc, .int .i64 el, .int .i64 ln], .bool b]) ∧ Below W.heap.size W W' ∧ (b = true → arrM A.tys 45 x = arrT 45 x el) ∧ (b = false → arrM A.tys 45 x = none)) := fun e W W' h => typ_arr (fun k => by simp [ksOf]) h
  obtain ⟨R, HR⟩ : ∃ R, arrM A.tys 45 x = R := ⟨_, rfl⟩
  rw [HR] at HTA
  rw [HR]
  have oX := (Own.new w #[.int .u8 45, .int .i64 x, .int .i64 y, .slice ao n c] 24).alloc (.cells A.cs 29)
  have oA := Own.new (w.alloc (.cells #[.int .u8 45, .int .i64 x, .int .i64 y, .slice ao n c] 24)) A.cs 29
  rw [World.size_alloc] at oA
  have b0 : Below w.heap.size w ((w.alloc (.cells #[.int .u8 45, .int .i64 x, .int .i64 y, .slice ao n c] 24)).alloc (.cells A.cs 29)) := (new_below _ _).alloc (by simp) _
  unfold MoP.cs at *
  clear hm hs HR
  generalize A.tys.length = n1 at *
  generalize A.txs.length = n2 at *
  generalize A.fns.length = n3 at *
  go_enter Tryd.func25, Tryd.ntmps25
  go_upto_region 1 with fail
  generalize (w.alloc (.cells #[.int .u8 45, .int .i64 x, .int .i64 y, .slice ao n c] 24)).alloc (.cells #[.slice A.ta n1 A.tc, .slice A.sa n2 A.sc, .slice A.fa n3 A.fc] 29) = w1 at *
  obtain ⟨x0, x1, x2, x3, xf⟩ := own4 oX
  obtain ⟨m0, m1, m2, mf⟩ := own3 oA
  clear x3
  go_wp2_with fail
  refine Calls.mono (HTD.out w1 b0) ?_
  rintro e w2 he
  obtain ⟨k, nm, fa, fl, fc, el, ln, b, rfl, b2, hb1, hb2⟩ := HTA.out e w1 w2 he
  clear HTD HTA he x0 x1 x2 xf m0 m1 m2 mf oA
  replace oX := (oX.below b2).alloc (.cells #[.int .u8 k, .string nm, .slice fa fl fc, .int .i64 el, .int .i64 ln] 57)
  have oT := Own.new w2 #[.int .u8 k, .string nm, .slice fa fl fc, .int .i64 el, .int .i64 ln] 57
  have b9 := (b0.trans (b2.mono b0.size)).alloc (b0.trans (b2.mono b0.size)).size (.cells #[.int .u8 k, .string nm, .slice fa fl fc, .int .i64 el, .int .i64 ln] 57)
  clear b2 b0
  go_upto_region 30 with fail
  generalize w2.alloc (.cells #[.int .u8 k, .string nm, .slice fa fl fc, .int .i64 el, .int .i64 ln] 57) = w3 at *
  have t3a : ∀ o, (w3.alloc o).cell? ⟨w2.heap.size, 3, none⟩ = some (.int .i64 el) := fun o => (own5' (oT.alloc o)).2.2.2.1
  obtain ⟨t0, t1, t2, t3, t4, tf⟩ := own5' oT
  clear oT oX
  cases b with
  | true =>
    obtain rfl : some ([x], [el]) = R := (hb1 rfl).symm
    clear hb1 hb2
    go_region
    all_goals (
      go_wp2_with fail
      go_ret3
      first
        | exact made_drew (made_yes (two_ll b9 [x] [el] (by simp) (by simp)))
        | exact made_drew (made_yes (two_lk b9 [x] [el] (by simp) (by simp))))
  | false =>
    obtain rfl : none = R := (hb2 rfl).symm
    clear hb1 hb2
    go_region
    all_goals (
      go_wp2_with fail
      go_ret3
      exact made_drew (made_no (nbAA b9 _ _)))
set_option maxHeartbeats 4000000 in
set_option maxRecDepth 100000 in
theorem rmade41 {w : World} {A : MoP} (hm : MoIn w A) (hs : A.tys.length ≤ 100000) (x y : Int) (h0 : 0 ≤ x) (h1 : x ≤ 65535) (ao : Option Addr) (n c : Nat) : Calls Tryd.prog 25 #[.agg #[.int .u8 41, .int .i64 x, .int .i64 y, .slice ao n c], .agg A.cs] w (MadeRet w (arrM A.tys 41 x)) := by
  have HTD : Hid (∀ W, Below w.heap.size w W → Calls Tryd.prog 43 #[.agg A.cs, .int .i64 x, .int .u8 7, .int .u8 8] W (TydRet 7 8 (typT A.tys x) W)) := fun W hb => rtyped_as (hm.tyr.below hb) hs (fun t ht => (hm.ty t ht).kind) x h0 h1 7 8 (by omega) (by omega)
  have HTA : Hid (∀ e W W', TydRet 7 8 (typT A.tys x) W e W' → ∃ (k : Int) (nm : ByteArray) (fa : Option Addr) (fl fc : Nat) (el ln : Int) (b : Bool), e = .returned (.tuple #[.agg #[.int .u8 k, .string nm, .slice fa fl fc, .int .i64 el, .int .i64 ln], .bool b]) ∧ Below W.heap.size W W' ∧ (b = true → arrM A.tys 41 x = arrT 41 x el) ∧ (b = false → arrM A.tys 41 x = none)) := fun e W W' h => typ_arr (fun k => by simp [ksOf]) h
  obtain ⟨R, HR⟩ : ∃ R, arrM A.tys 41 x = R := ⟨_, rfl⟩
  rw [HR] at HTA
  rw [HR]
  have oX := (Own.new w #[.int .u8 41, .int .i64 x, .int .i64 y, .slice ao n c] 24).alloc (.cells A.cs 29)
  have oA := Own.new (w.alloc (.cells #[.int .u8 41, .int .i64 x, .int .i64 y, .slice ao n c] 24)) A.cs 29
  rw [World.size_alloc] at oA
  have b0 : Below w.heap.size w ((w.alloc (.cells #[.int .u8 41, .int .i64 x, .int .i64 y, .slice ao n c] 24)).alloc (.cells A.cs 29)) := (new_below _ _).alloc (by simp) _
  unfold MoP.cs at *
  clear hm hs HR
  generalize A.tys.length = n1 at *
  generalize A.txs.length = n2 at *
  generalize A.fns.length = n3 at *
  go_enter Tryd.func25, Tryd.ntmps25
  go_upto_region 1 with fail
  generalize (w.alloc (.cells #[.int .u8 41, .int .i64 x, .int .i64 y, .slice ao n c] 24)).alloc (.cells #[.slice A.ta n1 A.tc, .slice A.sa n2 A.sc, .slice A.fa n3 A.fc] 29) = w1 at *
  obtain ⟨x0, x1, x2, x3, xf⟩ := own4 oX
  obtain ⟨m0, m1, m2, mf⟩ := own3 oA
  clear x3
  go_wp2_with fail
  refine Calls.mono (HTD.out w1 b0) ?_
  rintro e w2 he
  obtain ⟨k, nm, fa, fl, fc, el, ln, b, rfl, b2, hb1, hb2⟩ := HTA.out e w1 w2 he
  clear HTD HTA he x0 x1 x2 xf m0 m1 m2 mf oA
  replace oX := (oX.below b2).alloc (.cells #[.int .u8 k, .string nm, .slice fa fl fc, .int .i64 el, .int .i64 ln] 57)
  have oT := Own.new w2 #[.int .u8 k, .string nm, .slice fa fl fc, .int .i64 el, .int .i64 ln] 57
  have b9 := (b0.trans (b2.mono b0.size)).alloc (b0.trans (b2.mono b0.size)).size (.cells #[.int .u8 k, .string nm, .slice fa fl fc, .int .i64 el, .int .i64 ln] 57)
  clear b2 b0
  go_upto_region 32 with fail
  obtain ⟨x0, x1, x2, x3, xf⟩ := own4 oX
  clear x3
  go_upto_region 34 with fail
  generalize w2.alloc (.cells #[.int .u8 k, .string nm, .slice fa fl fc, .int .i64 el, .int .i64 ln] 57) = w3 at *
  clear x0 x1 x2 xf
  have t3a : ∀ o, (w3.alloc o).cell? ⟨w2.heap.size, 3, none⟩ = some (.int .i64 el) := fun o => (own5' (oT.alloc o)).2.2.2.1
  obtain ⟨t0, t1, t2, t3, t4, tf⟩ := own5' oT
  clear oT oX
  cases b with
  | true =>
    obtain rfl : some ([x, 3], [el]) = R := (hb1 rfl).symm
    clear hb1 hb2
    go_region
    all_goals (
      go_wp2_with fail
      go_ret3
      first
        | exact made_drew (made_yes (two_ll b9 [x, 3] [el] (by simp) (by simp)))
        | exact made_drew (made_yes (two_lk b9 [x, 3] [el] (by simp) (by simp))))
  | false =>
    obtain rfl : none = R := (hb2 rfl).symm
    clear hb1 hb2
    go_region
    all_goals (
      go_wp2_with fail
      go_ret3
      exact made_drew (made_no (nbAA b9 _ _)))
end Go.Proofs.YtjfdlphkmpkjdaaDoor
namespace Go.Proofs.YtjfdlphkmpkjdaaDoor
open Go.RowKit
set_option linter.unusedVariables false

set_option maxHeartbeats 4000000 in
set_option maxRecDepth 100000 in
theorem rmade42 {w : World} {A : MoP} (hm : MoIn w A) (hs : A.tys.length ≤ 100000) (x y : Int) (h0 : 0 ≤ x) (h1 : x ≤ 65535) (ao : Option Addr) (n c : Nat) : Calls Tryd.prog 25 #[.agg #[.int .u8 42, .int .i64 x, .int .i64 y, .slice ao n c], .agg A.cs] w (MadeRet w (arrM A.tys 42 x)) := by
  have HTD : Hid (∀ W, Below w.heap.size w W → Calls Tryd.prog 43 #[.agg A.cs, .int .i64 x, .int .u8 7, .int .u8 8] W (TydRet 7 8 (typT A.tys x) W)) := fun W hb => rtyped_as (hm.tyr.below hb) hs (fun t ht => (hm.ty t ht).kind) x h0 h1 7 8 (by omega) (by omega)
  have HTA : Hid (∀ e W W', TydRet 7 8 (typT A.tys x) W e W' → ∃ (k : Int) (nm : ByteArray) (fa : Option Addr) (fl fc : Nat) (el ln : Int) (b : Bool), e = .returned (.tuple #[.agg #[.int .u8 k, .string nm, .slice fa fl fc, .int .i64 el, .int .i64 ln], .bool b]) ∧ Below W.heap.size W W' ∧ (b = true → arrM A.tys 42 x = arrT 42 x el) ∧ (b = false → arrM A.tys 42 x = none)) := fun e W W' h => typ_arr (fun k => by simp [ksOf]) h
  obtain ⟨R, HR⟩ : ∃ R, arrM A.tys 42 x = R := ⟨_, rfl⟩
  rw [HR] at HTA
  rw [HR]
  have oX := (Own.new w #[.int .u8 42, .int .i64 x, .int .i64 y, .slice ao n c] 24).alloc (.cells A.cs 29)
  have oA := Own.new (w.alloc (.cells #[.int .u8 42, .int .i64 x, .int .i64 y, .slice ao n c] 24)) A.cs 29
  rw [World.size_alloc] at oA
  have b0 : Below w.heap.size w ((w.alloc (.cells #[.int .u8 42, .int .i64 x, .int .i64 y, .slice ao n c] 24)).alloc (.cells A.cs 29)) := (new_below _ _).alloc (by simp) _
  unfold MoP.cs at *
  clear hm hs HR
  generalize A.tys.length = n1 at *
  generalize A.txs.length = n2 at *
  generalize A.fns.length = n3 at *
  go_enter Tryd.func25, Tryd.ntmps25
  go_upto_region 1 with fail
  generalize (w.alloc (.cells #[.int .u8 42, .int .i64 x, .int .i64 y, .slice ao n c] 24)).alloc (.cells #[.slice A.ta n1 A.tc, .slice A.sa n2 A.sc, .slice A.fa n3 A.fc] 29) = w1 at *
  obtain ⟨x0, x1, x2, x3, xf⟩ := own4 oX
  obtain ⟨m0, m1, m2, mf⟩ := own3 oA
  clear x3
  go_wp2_with fail
  refine Calls.mono (HTD.out w1 b0) ?_
  rintro e w2 he
  obtain ⟨k, nm, fa, fl, fc, el, ln, b, rfl, b2, hb1, hb2⟩ := HTA.out e w1 w2 he
  clear HTD HTA he x0 x1 x2 xf m0 m1 m2 mf oA
  replace oX := (oX.below b2).alloc (.cells #[.int .u8 k, .string nm, .slice fa fl fc, .int .i64 el, .int .i64 ln] 57)
  have oT := Own.new w2 #[.int .u8 k, .string nm, .slice fa fl fc, .int .i64 el, .int .i64 ln] 57
  have b9 := (b0.trans (b2.mono b0.size)).alloc (b0.trans (b2.mono b0.size)).size (.cells #[.int .u8 k, .string nm, .slice fa fl fc, .int .i64 el, .int .i64 ln] 57)
  clear b2 b0
  go_upto_region 32 with fail
  obtain ⟨x0, x1, x2, x3, xf⟩ := own4 oX
  clear x3
  go_upto_region 36 with fail
  generalize w2.alloc (.cells #[.int .u8 k, .string nm, .slice fa fl fc, .int .i64 el, .int .i64 ln] 57) = w3 at *
  clear x0 x1 x2 xf
  obtain ⟨t0, t1, t2, t3, t4, tf⟩ := own5' oT
  clear oT oX
  cases b with
  | true =>
    obtain rfl : some ([x, 3, el], []) = R := (hb1 rfl).symm
    clear hb1 hb2
    go_wp2_with fail
    refine bodyPost_ret (results_tmp3 rfl _ _ _) rfl ?_
    exact made_yes (two_ln b9 [x, 3, el] (by simp))
  | false =>
    obtain rfl : none = R := (hb2 rfl).symm
    clear hb1 hb2
    go_wp2_with fail
    refine bodyPost_ret (results_tmp3 rfl _ _ _) rfl ?_
    exact made_no (nbA b9 _)
set_option maxHeartbeats 4000000 in
set_option maxRecDepth 100000 in
theorem rmade43 {w : World} {A : MoP} (hm : MoIn w A) (hs : A.tys.length ≤ 100000) (x y : Int) (h0 : 0 ≤ x) (h1 : x ≤ 65535) (ao : Option Addr) (n c : Nat) : Calls Tryd.prog 25 #[.agg #[.int .u8 43, .int .i64 x, .int .i64 y, .slice ao n c], .agg A.cs] w (MadeRet w (arrM A.tys 43 x)) := by
  have HTD : Hid (∀ W, Below w.heap.size w W → Calls Tryd.prog 43 #[.agg A.cs, .int .i64 x, .int .u8 7, .int .u8 8] W (TydRet 7 8 (typT A.tys x) W)) := fun W hb => rtyped_as (hm.tyr.below hb) hs (fun t ht => (hm.ty t ht).kind) x h0 h1 7 8 (by omega) (by omega)
  have HTA : Hid (∀ e W W', TydRet 7 8 (typT A.tys x) W e W' → ∃ (k : Int) (nm : ByteArray) (fa : Option Addr) (fl fc : Nat) (el ln : Int) (b : Bool), e = .returned (.tuple #[.agg #[.int .u8 k, .string nm, .slice fa fl fc, .int .i64 el, .int .i64 ln], .bool b]) ∧ Below W.heap.size W W' ∧ (b = true → arrM A.tys 43 x = arrT 43 x el) ∧ (b = false → arrM A.tys 43 x = none)) := fun e W W' h => typ_arr (fun k => by simp [ksOf]) h
  obtain ⟨R, HR⟩ : ∃ R, arrM A.tys 43 x = R := ⟨_, rfl⟩
  rw [HR] at HTA
  rw [HR]
  have oX := (Own.new w #[.int .u8 43, .int .i64 x, .int .i64 y, .slice ao n c] 24).alloc (.cells A.cs 29)
  have oA := Own.new (w.alloc (.cells #[.int .u8 43, .int .i64 x, .int .i64 y, .slice ao n c] 24)) A.cs 29
  rw [World.size_alloc] at oA
  have b0 : Below w.heap.size w ((w.alloc (.cells #[.int .u8 43, .int .i64 x, .int .i64 y, .slice ao n c] 24)).alloc (.cells A.cs 29)) := (new_below _ _).alloc (by simp) _
  unfold MoP.cs at *
  clear hm hs HR
  generalize A.tys.length = n1 at *
  generalize A.txs.length = n2 at *
  generalize A.fns.length = n3 at *
  go_enter Tryd.func25, Tryd.ntmps25
  go_upto_region 1 with fail
  generalize (w.alloc (.cells #[.int .u8 43, .int .i64 x, .int .i64 y, .slice ao n c] 24)).alloc (.cells #[.slice A.ta n1 A.tc, .slice A.sa n2 A.sc, .slice A.fa n3 A.fc] 29) = w1 at *
  obtain ⟨x0, x1, x2, x3, xf⟩ := own4 oX
  obtain ⟨m0, m1, m2, mf⟩ := own3 oA
  clear x3
  go_wp2_with fail
  refine Calls.mono (HTD.out w1 b0) ?_
  rintro e w2 he
  obtain ⟨k, nm, fa, fl, fc, el, ln, b, rfl, b2, hb1, hb2⟩ := HTA.out e w1 w2 he
  clear HTD HTA he x0 x1 x2 xf m0 m1 m2 mf oA
  replace oX := (oX.below b2).alloc (.cells #[.int .u8 k, .string nm, .slice fa fl fc, .int .i64 el, .int .i64 ln] 57)
  have oT := Own.new w2 #[.int .u8 k, .string nm, .slice fa fl fc, .int .i64 el, .int .i64 ln] 57
  have b9 := (b0.trans (b2.mono b0.size)).alloc (b0.trans (b2.mono b0.size)).size (.cells #[.int .u8 k, .string nm, .slice fa fl fc, .int .i64 el, .int .i64 ln] 57)
  clear b2 b0
  go_upto_region 32 with fail
  obtain ⟨x0, x1, x2, x3, xf⟩ := own4 oX
  clear x3
  go_upto_region 37 with fail
  generalize w2.alloc (.cells #[.int .u8 k, .string nm, .slice fa fl fc, .int .i64 el, .int .i64 ln] 57) = w3 at *
  clear x0 x1 x2 xf
  obtain ⟨t0, t1, t2, t3, t4, tf⟩ := own5' oT
  clear oT oX
  cases b with
  | true =>
    obtain rfl : some ([x], [3]) = R := (hb1 rfl).symm
    clear hb1 hb2
    go_wp2_with fail
    refine bodyPost_ret (results_tmp3 rfl _ _ _) rfl ?_
    exact made_yes (two_ll b9 [x] [3] (by simp) (by simp))
  | false =>
    obtain rfl : none = R := (hb2 rfl).symm
    clear hb1 hb2
    go_wp2_with fail
    refine bodyPost_ret (results_tmp3 rfl _ _ _) rfl ?_
    exact made_no (nbAA b9 _ _)
end Go.Proofs.YtjfdlphkmpkjdaaDoor
