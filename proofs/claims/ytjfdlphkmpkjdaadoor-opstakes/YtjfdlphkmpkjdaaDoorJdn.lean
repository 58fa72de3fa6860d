/-
  THE DOCUMENT'S made, of records: what its type tells; the loop's relation.
  THE DOCUMENT'S made, of records. (Written by mkdf.py.)
  THE DOCUMENT'S made, of records. (Written by mkdf.py.)
  THE DOCUMENT'S made, of records. (Written by mkdf.py.)
-/
import Derived.Test.YtjfdlphkmpkjdaaDoorJdm
import Derived.Test.YtjfdlphkmpkjdaaDoorJtk
import Derived.Test.YtjfdlphkmpkjdaaDoorJtb
namespace Go.Proofs.YtjfdlphkmpkjdaaDoor
open Go.RowKit
set_option linter.unusedVariables false

def recF (fs : List Fl) (op : Nat) (x y : Int) : Option (List Int × List Int) := if op = 36 then some (fs.map Fl.typ, [x]) else if y < (fs.length : Int) then (if op = 37 then some ([x], [(fs.getD y.toNat zFl).typ]) else some ([x, (fs.getD y.toNat zFl).typ], [])) else none
theorem typ_rec {w0 : World} {A : MoP} (hm : MoIn w0 A) (hs : ∀ t ∈ A.tys, t.t.fields.length ≤ 100000) {x y : Int} {op : Nat} {e : Ending} {W W' : World} (hb : Below w0.heap.size w0 W) (h : TydRet 6 6 (typT A.tys x) W e W') :
    ∃ (k : Int) (nm : ByteArray) (fa : Option Addr) (fs : List Fl) (fc : Nat) (el ln : Int) (b : Bool), e = .returned (.tuple #[.agg #[.int .u8 k, .string nm, .slice fa fs.length fc, .int .i64 el, .int .i64 ln], .bool b]) ∧ Below W.heap.size W W' ∧ fs.length ≤ 100000 ∧ RowAt W' fa 2 fs.length (flF fs) ∧ (b = true → recM A.tys op x y = recF fs op x y) ∧ (b = false → recM A.tys op x y = none) := by
  obtain ⟨h1, h2⟩ := h
  unfold recM
  rw [fnd_typ]
  cases ht : typT A.tys x with
  | none =>
    rw [ht] at h1
    exact ⟨0, ⟨#[]⟩, none, [], 0, 0, 0, false, h1, h2, by simp, .inl rfl, fun q => (by cases q), fun _ => rfl⟩
  | some t =>
    rw [ht] at h1
    obtain ⟨b, hb2, rfl⟩ := h1
    have hin : t ∈ A.tys := by
      unfold typT at ht
      split at ht
      · cases ht
      · rename_i hq
        have e1 := Option.some.inj ht
        rw [← e1]
        exact getD_in (by omega)
    refine ⟨_, _, _, t.t.fields, _, _, _, b, rfl, h2, hs t hin, ((hm.ty t hin).row.below hb).below h2, fun q => ?_, fun q => ?_⟩
    · simp only
      rw [if_pos (by have := hb2.1 q; simp; omega)]
      rfl
    · simp only
      rw [if_neg (fun z => by have := hb2.2 (by simp at z; omega); rw [q] at this; cases this)]
structure MdRel (W0 : World) (fs : List Fl) (v i : Value) (wr : World) : Prop where
  at_ : ∃ k : Nat, k ≤ fs.length ∧ i = .int .i64 (k : Int) ∧ IntNew wr W0.heap.size v ((fs.take k).map Fl.typ)
  be : Below W0.heap.size W0 wr
end Go.Proofs.YtjfdlphkmpkjdaaDoor
namespace Go.Proofs.YtjfdlphkmpkjdaaDoor
open Go.RowKit
set_option linter.unusedVariables false

set_option maxHeartbeats 8000000 in
set_option maxRecDepth 100000 in
theorem rmade36 {w : World} {A : MoP} (hm : MoIn w A) (hs : A.tys.length ≤ 100000) (hsf : ∀ t ∈ A.tys, t.t.fields.length ≤ 100000) (x y : Int) (h0 : 0 ≤ x) (h1 : x ≤ 65535) (g0 : 0 ≤ y) (g1 : y ≤ 65535) (ao : Option Addr) (n c : Nat) : Calls Tryd.prog 25 #[.agg #[.int .u8 36, .int .i64 x, .int .i64 y, .slice ao n c], .agg A.cs] w (MadeRet w (recM A.tys 36 x y)) := by
  have HTD : Hid (∀ W, Below w.heap.size w W → Calls Tryd.prog 43 #[.agg A.cs, .int .i64 x, .int .u8 6, .int .u8 6] W (TydRet 6 6 (typT A.tys x) W)) := fun W hb => rtyped_as (hm.tyr.below hb) hs (fun t ht => (hm.ty t ht).kind) x h0 h1 6 6 (by omega) (by omega)
  have HTA : Hid (∀ e W W', Below w.heap.size w W → TydRet 6 6 (typT A.tys x) W e W' → ∃ (k : Int) (nm : ByteArray) (fa : Option Addr) (fs : List Fl) (fc : Nat) (el ln : Int) (b : Bool), e = .returned (.tuple #[.agg #[.int .u8 k, .string nm, .slice fa fs.length fc, .int .i64 el, .int .i64 ln], .bool b]) ∧ Below W.heap.size W W' ∧ fs.length ≤ 100000 ∧ RowAt W' fa 2 fs.length (flF fs) ∧ (b = true → recM A.tys 36 x y = recF fs 36 x y) ∧ (b = false → recM A.tys 36 x y = none)) := fun e W W' hb h => typ_rec hm hsf hb h
  obtain ⟨R, HR⟩ : ∃ R, recM A.tys 36 x y = R := ⟨_, rfl⟩
  rw [HR] at HTA
  rw [HR]
  have oX := (Own.new w #[.int .u8 36, .int .i64 x, .int .i64 y, .slice ao n c] 24).alloc (.cells A.cs 29)
  have oA := Own.new (w.alloc (.cells #[.int .u8 36, .int .i64 x, .int .i64 y, .slice ao n c] 24)) A.cs 29
  rw [World.size_alloc] at oA
  have b0 : Below w.heap.size w ((w.alloc (.cells #[.int .u8 36, .int .i64 x, .int .i64 y, .slice ao n c] 24)).alloc (.cells A.cs 29)) := (new_below _ _).alloc (by simp) _
  unfold MoP.cs at *
  clear hm hs hsf HR
  generalize A.tys.length = n1 at *
  generalize A.txs.length = n2 at *
  generalize A.fns.length = n3 at *
  go_enter Tryd.func25, Tryd.ntmps25
  go_upto_region 1 with fail
  generalize (w.alloc (.cells #[.int .u8 36, .int .i64 x, .int .i64 y, .slice ao n c] 24)).alloc (.cells #[.slice A.ta n1 A.tc, .slice A.sa n2 A.sc, .slice A.fa n3 A.fc] 29) = w1 at *
  obtain ⟨x0, x1, x2, x3, xf⟩ := own4 oX
  obtain ⟨m0, m1, m2, mf⟩ := own3 oA
  clear x3
  go_wp2_with fail
  refine Calls.mono (HTD.out w1 b0) ?_
  rintro e w2 he
  obtain ⟨k, nm, fa, fs, fc, el, ln, b, rfl, b2, hfl, hfr, hb1, hb2⟩ := HTA.out e w1 w2 b0 he
  have HB1 : Hid (b = true → R = recF fs 36 x y) := hb1
  have HB2 : Hid (b = false → R = none) := hb2
  clear HTD HTA he x0 x1 x2 xf m0 m1 m2 mf oA hb1 hb2
  obtain ⟨fn, hfn⟩ : ∃ fn, fs.length = fn := ⟨_, rfl⟩
  have HFN : Hid (fs.length = fn) := hfn
  have HFL : Hid (fn ≤ 100000) := by rw [← hfn]; exact hfl
  have HFR : Hid (∀ W, Below w2.heap.size w2 W → RowAt W fa 2 fs.length (flF fs)) := fun W q => hfr.below q
  rw [hfn]
  have b3 := new_below w2 (.cells #[.int .u8 k, .string nm, .slice fa fn fc, .int .i64 el, .int .i64 ln] 57)
  replace oX := (oX.below b2).below b3
  have oT := Own.new w2 #[.int .u8 k, .string nm, .slice fa fn fc, .int .i64 el, .int .i64 ln] 57
  have b9 := (b0.trans (b2.mono b0.size)).trans (b3.mono (b0.trans (b2.mono b0.size)).size)
  have HF3 : Hid (∀ W, Below (w2.alloc (.cells #[.int .u8 k, .string nm, .slice fa fn fc, .int .i64 el, .int .i64 ln] 57)).heap.size (w2.alloc (.cells #[.int .u8 k, .string nm, .slice fa fn fc, .int .i64 el, .int .i64 ln] 57)) W → RowAt W fa 2 fs.length (flF fs)) := fun W q => HFR.out W (b3.trans (q.mono b3.size))
  clear b2 b0 hfl hfr hfn HFR b3
  have REL : Hid (MdRel (w2.alloc (.cells #[.int .u8 k, .string nm, .slice fa fn fc, .int .i64 el, .int .i64 ln] 57)) fs (.slice none 0 0) (.int .i64 0) (w2.alloc (.cells #[.int .u8 k, .string nm, .slice fa fn fc, .int .i64 el, .int .i64 ln] 57))) := ⟨⟨0, Nat.zero_le _, rfl, IntNew.nil _ _⟩, Below.refl _ _⟩
  go_upto_region 8 with fail
  generalize w2.alloc (.cells #[.int .u8 k, .string nm, .slice fa fn fc, .int .i64 el, .int .i64 ln] 57) = w3 at *
  generalize w2.heap.size = gT at *
  have HX3 : Hid _ := oX
  have HT3 : Hid _ := oT
  have H9 : Hid _ := b9
  clear oX oT b9
  go_wp2_with fail
  go_loopw [10, 11] (fun v i wr => MdRel w3 fs v i wr) (fun _ i _ => fn - (intOf i).toNat)
  case atStart => exact REL.out
  case round =>
    clear REL
    obtain ⟨⟨j, hj, rfl, hi⟩, hb⟩ := hrel
    have oTr := Own.below HT3.out hb
    by_cases hlt : j < fn
    · have hka : j < fs.length := by rw [HFN.out]; exact hlt
      obtain ⟨f, hf⟩ : ∃ f, fs.getD j zFl = f := ⟨_, rfl⟩
      obtain ⟨bb, off, hfa, c0, c1⟩ := flCells (HF3.out wr hb) hka f hf
      have HT : Hid ((fs.take (j + 1)).map Fl.typ = (fs.take j).map Fl.typ ++ [f.typ]) := by
        unfold Hid
        rw [List.take_succ_eq_append_getElem hka, List.map_append]
        congr 2
        rw [← hf]; simp [List.getD, hka]
      have hlen : ((fs.take j).map Fl.typ).length = j := by rw [List.length_map, List.length_take]; omega
      have HK : Hid (j ≤ 1000000) := by have := HFL.out; unfold Hid; omega
      obtain ⟨fnm, ty⟩ := f
      simp only at c0 c1 HT
      have oI := Own.new wr #[.int .i64 ty] 3
      have bI := new_below wr (.cells #[.int .i64 ty] 3)
      have hiI := hi.below bI
      have hbI := hb.trans (bI.mono hb.size)
      have rowI := hiI.row
      rw [hlen] at rowI
      have hnew := hiI.new
      obtain ⟨t0, t1, t2, t3, t4, tf⟩ := own5' oTr
      rw [hfa] at t2
      obtain ⟨a1, cp1, rfl⟩ := hi.shape
      rw [hlen] at rowI hnew ⊢
      have HSB : Hid (w3.heap.size ≤ wr.heap.size) := hb.size
      have HLL : Hid (j + 1 ≤ fs.length ∧ (j : Int) < (fn : Int)) := ⟨hka, by omega⟩
      clear hf hi hb bI hiI hlen hfa c0 hka hj oTr
      go_wp2_with (refine wpList_app1 okN (by rfl) (.tmp 44) (.tmp 51) (by rfl) _ j (intV ((fs.take j).map Fl.typ)) (by rfl) rowI wr.heap.size [.int .i64 ty] (by rfl) oI rfl (by simp [Value.oneCell']) (by have := HK.out; omega) ?_; intro ao2 cap2 wz q1 q2 q3)
      have hz : IntNew wz w3.heap.size (.slice ao2 (j + 1) cap2) ((fs.take (j + 1)).map Fl.typ) := by
        refine ⟨?_, fun b q => ?_⟩
        · have e : ((fs.take (j + 1)).map Fl.typ).length = j + 1 := by have := HLL.out.1; rw [List.length_map, List.length_take]; omega
          rw [e, HT.out, intV_app]
          exact q1
        · rcases q3 with q3 | q3
          · exact hnew b (by rw [← q3]; exact q)
          · have e5 : wr.heap.size + 1 = b := by rw [q3] at q; simpa using q
            have := HSB.out; omega
      have hb' := hbI.grown q2 hbI.size (fun k e => hnew k e)
      have hkk : j ≤ 1000000 := HK.out
      have hw : wrap64 ((j : Int) + 1) = (j : Int) + 1 := by unfold wrap64; omega
      go_roundw
      case rel => exact ⟨⟨j + 1, HLL.out.1, by rw [hw]; rfl, hz⟩, hb'⟩
      case measure => rw [hw]; simp [intOf]; omega
    · have hjn : j = fs.length := by have := HFN.out; omega
      have hje : j = fn := by have := HFN.out; omega
      rw [hjn, List.take_of_length_le (Nat.le_refl _)] at hi
      obtain ⟨a1, cp1, rfl⟩ := hi.shape
      have hfm : (fs.map Fl.typ).length = fn := by rw [List.length_map]; exact HFN.out
      rw [hfm]
      have HI : Hid (IntNew wr w3.heap.size (.slice a1 fn cp1) (fs.map Fl.typ)) := by rw [hfm] at hi; exact hi
      have oXr := Own.below HX3.out hb
      have bw := H9.out.trans (hb.mono H9.out.size)
      have HS3 : Hid (w.heap.size ≤ w3.heap.size) := H9.out.size
      subst hje
      clear hi hjn hfm hb hlt hj H9 HT3 HX3 HF3
      obtain ⟨x0, x1, x2, x3, xf⟩ := own4 oXr
      obtain ⟨t0, t1, t2, t3, t4, tf⟩ := own5' oTr
      clear x3 oTr t0 t1 t3 t4
      have oN := nA (w1 := wr) (B := w.heap.size) bw.size [x] (by simp)
      have HI2 := (HI.out.mono HS3.out).below (new_below wr (.cells (intV [x]).toArray 3))
      have bn := nbA bw (.cells (intV [x]).toArray 3)
      have HFIN : Hid (MadeRet w R (.returned (.tuple #[.slice a1 j cp1, .slice (some ⟨wr.heap.size, 0, none⟩) 1 1, .bool b])) (wr.alloc (.cells #[.int .i64 x] 3))) := by
        cases b with
        | true =>
          obtain rfl := HB1.out rfl
          have hr : recF fs 36 x y = some (fs.map Fl.typ, [x]) := rfl
          rw [Hid, hr]
          have hl : (fs.map Fl.typ).length = j := by rw [List.length_map]; exact HFN.out
          exact made_yes ⟨a1, cp1, some ⟨wr.heap.size, 0, none⟩, 1, by rw [hl]; rfl, by rw [hl]; exact HI2, oN, bn⟩
        | false =>
          obtain rfl := HB2.out rfl
          exact made_no bn
      clear HB1 HB2 HI2 oN bn HI HS3 HFN HFL bw
      go_wp2_with fail
      go_ret3
      exact HFIN.out
end Go.Proofs.YtjfdlphkmpkjdaaDoor
namespace Go.Proofs.YtjfdlphkmpkjdaaDoor
open Go.RowKit
set_option linter.unusedVariables false

set_option maxHeartbeats 8000000 in
set_option maxRecDepth 100000 in
theorem rmade37 {w : World} {A : MoP} (hm : MoIn w A) (hs : A.tys.length ≤ 100000) (hsf : ∀ t ∈ A.tys, t.t.fields.length ≤ 100000) (x y : Int) (h0 : 0 ≤ x) (h1 : x ≤ 65535) (g0 : 0 ≤ y) (g1 : y ≤ 65535) (ao : Option Addr) (n c : Nat) : Calls Tryd.prog 25 #[.agg #[.int .u8 37, .int .i64 x, .int .i64 y, .slice ao n c], .agg A.cs] w (MadeRet w (recM A.tys 37 x y)) := by
  have HTD : Hid (∀ W, Below w.heap.size w W → Calls Tryd.prog 43 #[.agg A.cs, .int .i64 x, .int .u8 6, .int .u8 6] W (TydRet 6 6 (typT A.tys x) W)) := fun W hb => rtyped_as (hm.tyr.below hb) hs (fun t ht => (hm.ty t ht).kind) x h0 h1 6 6 (by omega) (by omega)
  have HTA : Hid (∀ e W W', Below w.heap.size w W → TydRet 6 6 (typT A.tys x) W e W' → ∃ (k : Int) (nm : ByteArray) (fa : Option Addr) (fs : List Fl) (fc : Nat) (el ln : Int) (b : Bool), e = .returned (.tuple #[.agg #[.int .u8 k, .string nm, .slice fa fs.length fc, .int .i64 el, .int .i64 ln], .bool b]) ∧ Below W.heap.size W W' ∧ fs.length ≤ 100000 ∧ RowAt W' fa 2 fs.length (flF fs) ∧ (b = true → recM A.tys 37 x y = recF fs 37 x y) ∧ (b = false → recM A.tys 37 x y = none)) := fun e W W' hb h => typ_rec hm hsf hb h
  obtain ⟨R, HR⟩ : ∃ R, recM A.tys 37 x y = R := ⟨_, rfl⟩
  rw [HR] at HTA
  rw [HR]
  have oX := (Own.new w #[.int .u8 37, .int .i64 x, .int .i64 y, .slice ao n c] 24).alloc (.cells A.cs 29)
  have oA := Own.new (w.alloc (.cells #[.int .u8 37, .int .i64 x, .int .i64 y, .slice ao n c] 24)) A.cs 29
  rw [World.size_alloc] at oA
  have b0 : Below w.heap.size w ((w.alloc (.cells #[.int .u8 37, .int .i64 x, .int .i64 y, .slice ao n c] 24)).alloc (.cells A.cs 29)) := (new_below _ _).alloc (by simp) _
  unfold MoP.cs at *
  clear hm hs hsf HR
  generalize A.tys.length = n1 at *
  generalize A.txs.length = n2 at *
  generalize A.fns.length = n3 at *
  go_enter Tryd.func25, Tryd.ntmps25
  go_upto_region 1 with fail
  generalize (w.alloc (.cells #[.int .u8 37, .int .i64 x, .int .i64 y, .slice ao n c] 24)).alloc (.cells #[.slice A.ta n1 A.tc, .slice A.sa n2 A.sc, .slice A.fa n3 A.fc] 29) = w1 at *
  obtain ⟨x0, x1, x2, x3, xf⟩ := own4 oX
  obtain ⟨m0, m1, m2, mf⟩ := own3 oA
  clear x3
  go_wp2_with fail
  refine Calls.mono (HTD.out w1 b0) ?_
  rintro e w2 he
  obtain ⟨k, nm, fa, fs, fc, el, ln, b, rfl, b2, hfl, hfr, hb1, hb2⟩ := HTA.out e w1 w2 b0 he
  have HB1 : Hid (b = true → R = recF fs 37 x y) := hb1
  have HB2 : Hid (b = false → R = none) := hb2
  clear HTD HTA he x0 x1 x2 xf m0 m1 m2 mf oA hb1 hb2
  obtain ⟨fn, hfn⟩ : ∃ fn, fs.length = fn := ⟨_, rfl⟩
  have HFN : Hid (fs.length = fn) := hfn
  have HFL : Hid (fn ≤ 100000) := by rw [← hfn]; exact hfl
  have HFR : Hid (∀ W, Below w2.heap.size w2 W → RowAt W fa 2 fs.length (flF fs)) := fun W q => hfr.below q
  rw [hfn]
  have b3 := new_below w2 (.cells #[.int .u8 k, .string nm, .slice fa fn fc, .int .i64 el, .int .i64 ln] 57)
  replace oX := (oX.below b2).below b3
  have oT := Own.new w2 #[.int .u8 k, .string nm, .slice fa fn fc, .int .i64 el, .int .i64 ln] 57
  have b9 := (b0.trans (b2.mono b0.size)).trans (b3.mono (b0.trans (b2.mono b0.size)).size)
  have HF3 : Hid (∀ W, Below (w2.alloc (.cells #[.int .u8 k, .string nm, .slice fa fn fc, .int .i64 el, .int .i64 ln] 57)).heap.size (w2.alloc (.cells #[.int .u8 k, .string nm, .slice fa fn fc, .int .i64 el, .int .i64 ln] 57)) W → RowAt W fa 2 fs.length (flF fs)) := fun W q => HFR.out W (b3.trans (q.mono b3.size))
  clear b2 b0 hfl hfr hfn HFR b3
  have REL : Hid (MdRel (w2.alloc (.cells #[.int .u8 k, .string nm, .slice fa fn fc, .int .i64 el, .int .i64 ln] 57)) fs (.slice none 0 0) (.int .i64 0) (w2.alloc (.cells #[.int .u8 k, .string nm, .slice fa fn fc, .int .i64 el, .int .i64 ln] 57))) := ⟨⟨0, Nat.zero_le _, rfl, IntNew.nil _ _⟩, Below.refl _ _⟩
  go_upto_region 8 with fail
  generalize w2.alloc (.cells #[.int .u8 k, .string nm, .slice fa fn fc, .int .i64 el, .int .i64 ln] 57) = w3 at *
  generalize w2.heap.size = gT at *
  have HX3 : Hid _ := oX
  have HT3 : Hid _ := oT
  have H9 : Hid _ := b9
  clear oX oT b9
  go_wp2_with fail
  go_loopw [10, 11] (fun v i wr => MdRel w3 fs v i wr) (fun _ i _ => fn - (intOf i).toNat)
  case atStart => exact REL.out
  case round =>
    clear REL
    obtain ⟨⟨j, hj, rfl, hi⟩, hb⟩ := hrel
    have oTr := Own.below HT3.out hb
    by_cases hlt : j < fn
    · have hka : j < fs.length := by rw [HFN.out]; exact hlt
      obtain ⟨f, hf⟩ : ∃ f, fs.getD j zFl = f := ⟨_, rfl⟩
      obtain ⟨bb, off, hfa, c0, c1⟩ := flCells (HF3.out wr hb) hka f hf
      have HT : Hid ((fs.take (j + 1)).map Fl.typ = (fs.take j).map Fl.typ ++ [f.typ]) := by
        unfold Hid
        rw [List.take_succ_eq_append_getElem hka, List.map_append]
        congr 2
        rw [← hf]; simp [List.getD, hka]
      have hlen : ((fs.take j).map Fl.typ).length = j := by rw [List.length_map, List.length_take]; omega
      have HK : Hid (j ≤ 1000000) := by have := HFL.out; unfold Hid; omega
      obtain ⟨fnm, ty⟩ := f
      simp only at c0 c1 HT
      have oI := Own.new wr #[.int .i64 ty] 3
      have bI := new_below wr (.cells #[.int .i64 ty] 3)
      have hiI := hi.below bI
      have hbI := hb.trans (bI.mono hb.size)
      have rowI := hiI.row
      rw [hlen] at rowI
      have hnew := hiI.new
      obtain ⟨t0, t1, t2, t3, t4, tf⟩ := own5' oTr
      rw [hfa] at t2
      obtain ⟨a1, cp1, rfl⟩ := hi.shape
      rw [hlen] at rowI hnew ⊢
      have HSB : Hid (w3.heap.size ≤ wr.heap.size) := hb.size
      have HLL : Hid (j + 1 ≤ fs.length ∧ (j : Int) < (fn : Int)) := ⟨hka, by omega⟩
      clear hf hi hb bI hiI hlen hfa c0 hka hj oTr
      go_wp2_with (refine wpList_app1 okN (by rfl) (.tmp 44) (.tmp 51) (by rfl) _ j (intV ((fs.take j).map Fl.typ)) (by rfl) rowI wr.heap.size [.int .i64 ty] (by rfl) oI rfl (by simp [Value.oneCell']) (by have := HK.out; omega) ?_; intro ao2 cap2 wz q1 q2 q3)
      have hz : IntNew wz w3.heap.size (.slice ao2 (j + 1) cap2) ((fs.take (j + 1)).map Fl.typ) := by
        refine ⟨?_, fun b q => ?_⟩
        · have e : ((fs.take (j + 1)).map Fl.typ).length = j + 1 := by have := HLL.out.1; rw [List.length_map, List.length_take]; omega
          rw [e, HT.out, intV_app]
          exact q1
        · rcases q3 with q3 | q3
          · exact hnew b (by rw [← q3]; exact q)
          · have e5 : wr.heap.size + 1 = b := by rw [q3] at q; simpa using q
            have := HSB.out; omega
      have hb' := hbI.grown q2 hbI.size (fun k e => hnew k e)
      have hkk : j ≤ 1000000 := HK.out
      have hw : wrap64 ((j : Int) + 1) = (j : Int) + 1 := by unfold wrap64; omega
      go_roundw
      case rel => exact ⟨⟨j + 1, HLL.out.1, by rw [hw]; rfl, hz⟩, hb'⟩
      case measure => rw [hw]; simp [intOf]; omega
    · have hjn : j = fs.length := by have := HFN.out; omega
      have hje : j = fn := by have := HFN.out; omega
      rw [hjn, List.take_of_length_le (Nat.le_refl _)] at hi
      obtain ⟨a1, cp1, rfl⟩ := hi.shape
      have hfm : (fs.map Fl.typ).length = fn := by rw [List.length_map]; exact HFN.out
      rw [hfm]
      have HI : Hid (IntNew wr w3.heap.size (.slice a1 fn cp1) (fs.map Fl.typ)) := by rw [hfm] at hi; exact hi
      have oXr := Own.below HX3.out hb
      have bw := H9.out.trans (hb.mono H9.out.size)
      have HS3 : Hid (w.heap.size ≤ w3.heap.size) := H9.out.size
      subst hje
      clear hi hjn hfm hb hlt hj H9 HT3 HX3 HF3
      obtain ⟨x0, x1, x2, x3, xf⟩ := own4 oXr
      obtain ⟨t0, t1, t2, t3, t4, tf⟩ := own5' oTr
      clear x3 oTr t0 t1 t3 t4
      cases b with
      | false =>
        obtain rfl := (HB2.out rfl).symm
        clear HB1 HB2 HI HS3 HFN HFL
        go_wp2_with fail
        go_ret3
        exact made_no bw
      | true =>
        have hRr := HB1.out rfl
        by_cases hy : y < (j : Int)
        · have hr : R = some ([x], [(fs.getD y.toNat zFl).typ]) := by
            rw [hRr]
            unfold recF
            rw [if_neg (by omega), if_pos (by rw [HFN.out]; exact hy)]
            rfl
          have hyi : y.toNat < fs.length := by have := HFN.out; omega
          obtain ⟨tv, htv⟩ : ∃ tv, (fs.getD y.toNat zFl).typ = tv := ⟨_, rfl⟩
          rw [htv] at hr
          have hrow : Rw wr 3 1 (.slice a1 j cp1) j (intV (fs.map Fl.typ)) := by
            have := HI.out.row
            rw [List.length_map, HFN.out] at this
            exact this
          obtain ⟨g, cap, cur, ea, -⟩ := hrow.block (by omega)
          cases ea
          have hgt : (intV (fs.map Fl.typ))[y.toNat]? = some (.int .i64 tv) := by
            have := intV_get (fs.map Fl.typ) y.toNat (by rw [List.length_map]; exact hyi) 0 (by omega)
            rw [Nat.mul_one, Nat.add_zero] at this
            rw [this]
            show some (Value.int .i64 ((fs.map Fl.typ).getD y.toNat 0)) = _
            rw [← htv]
            simp [List.getD, hyi]
          have hcl : wr.cell? ⟨g, y.toNat, none⟩ = some (.int .i64 tv) := Rw.cells hrow _ _ hgt
          have hcla : ∀ o, (wr.alloc o).cell? ⟨g, y.toNat, none⟩ = some (.int .i64 tv) := fun o => Rw.cells (hrow.belowR (new_below wr o)) _ _ hgt
          have x2a : ∀ o, (wr.alloc o).cell? ⟨w.heap.size, 2, none⟩ = some (.int .i64 y) := fun o => by have := (own4 (oXr.alloc o)).2.2.1; exact this
          subst hr
          clear HB1 HB2 HI HS3 HFN HFL hRr hrow hgt htv hyi oXr
          go_upto_region 17 with fail
          go_region
          all_goals (
            go_wp2_with fail
            go_ret3
            first
              | exact made_drew (made_yes (two_ll bw [x] [tv] (by simp) (by simp)))
              | exact made_drew (made_yes (two_lk bw [x] [tv] (by simp) (by simp))))
        · have hr : R = none := by
            rw [hRr]
            unfold recF
            rw [if_neg (by omega), if_neg (by rw [HFN.out]; exact hy)]
          subst hr
          have hy2 : (j : Int) ≤ y := by omega
          clear HB1 HB2 HI HS3 HFN HFL hRr
          go_wp2_with fail
          go_ret3
          exact made_no bw
end Go.Proofs.YtjfdlphkmpkjdaaDoor
namespace Go.Proofs.YtjfdlphkmpkjdaaDoor
open Go.RowKit
set_option linter.unusedVariables false

set_option maxHeartbeats 8000000 in
set_option maxRecDepth 100000 in
theorem rmade38 {w : World} {A : MoP} (hm : MoIn w A) (hs : A.tys.length ≤ 100000) (hsf : ∀ t ∈ A.tys, t.t.fields.length ≤ 100000) (x y : Int) (h0 : 0 ≤ x) (h1 : x ≤ 65535) (g0 : 0 ≤ y) (g1 : y ≤ 65535) (ao : Option Addr) (n c : Nat) : Calls Tryd.prog 25 #[.agg #[.int .u8 38, .int .i64 x, .int .i64 y, .slice ao n c], .agg A.cs] w (MadeRet w (recM A.tys 38 x y)) := by
  have HTD : Hid (∀ W, Below w.heap.size w W → Calls Tryd.prog 43 #[.agg A.cs, .int .i64 x, .int .u8 6, .int .u8 6] W (TydRet 6 6 (typT A.tys x) W)) := fun W hb => rtyped_as (hm.tyr.below hb) hs (fun t ht => (hm.ty t ht).kind) x h0 h1 6 6 (by omega) (by omega)
  have HTA : Hid (∀ e W W', Below w.heap.size w W → TydRet 6 6 (typT A.tys x) W e W' → ∃ (k : Int) (nm : ByteArray) (fa : Option Addr) (fs : List Fl) (fc : Nat) (el ln : Int) (b : Bool), e = .returned (.tuple #[.agg #[.int .u8 k, .string nm, .slice fa fs.length fc, .int .i64 el, .int .i64 ln], .bool b]) ∧ Below W.heap.size W W' ∧ fs.length ≤ 100000 ∧ RowAt W' fa 2 fs.length (flF fs) ∧ (b = true → recM A.tys 38 x y = recF fs 38 x y) ∧ (b = false → recM A.tys 38 x y = none)) := fun e W W' hb h => typ_rec hm hsf hb h
  obtain ⟨R, HR⟩ : ∃ R, recM A.tys 38 x y = R := ⟨_, rfl⟩
  rw [HR] at HTA
  rw [HR]
  have oX := (Own.new w #[.int .u8 38, .int .i64 x, .int .i64 y, .slice ao n c] 24).alloc (.cells A.cs 29)
  have oA := Own.new (w.alloc (.cells #[.int .u8 38, .int .i64 x, .int .i64 y, .slice ao n c] 24)) A.cs 29
  rw [World.size_alloc] at oA
  have b0 : Below w.heap.size w ((w.alloc (.cells #[.int .u8 38, .int .i64 x, .int .i64 y, .slice ao n c] 24)).alloc (.cells A.cs 29)) := (new_below _ _).alloc (by simp) _
  unfold MoP.cs at *
  clear hm hs hsf HR
  generalize A.tys.length = n1 at *
  generalize A.txs.length = n2 at *
  generalize A.fns.length = n3 at *
  go_enter Tryd.func25, Tryd.ntmps25
  go_upto_region 1 with fail
  generalize (w.alloc (.cells #[.int .u8 38, .int .i64 x, .int .i64 y, .slice ao n c] 24)).alloc (.cells #[.slice A.ta n1 A.tc, .slice A.sa n2 A.sc, .slice A.fa n3 A.fc] 29) = w1 at *
  obtain ⟨x0, x1, x2, x3, xf⟩ := own4 oX
  obtain ⟨m0, m1, m2, mf⟩ := own3 oA
  clear x3
  go_wp2_with fail
  refine Calls.mono (HTD.out w1 b0) ?_
  rintro e w2 he
  obtain ⟨k, nm, fa, fs, fc, el, ln, b, rfl, b2, hfl, hfr, hb1, hb2⟩ := HTA.out e w1 w2 b0 he
  have HB1 : Hid (b = true → R = recF fs 38 x y) := hb1
  have HB2 : Hid (b = false → R = none) := hb2
  clear HTD HTA he x0 x1 x2 xf m0 m1 m2 mf oA hb1 hb2
  obtain ⟨fn, hfn⟩ : ∃ fn, fs.length = fn := ⟨_, rfl⟩
  have HFN : Hid (fs.length = fn) := hfn
  have HFL : Hid (fn ≤ 100000) := by rw [← hfn]; exact hfl
  have HFR : Hid (∀ W, Below w2.heap.size w2 W → RowAt W fa 2 fs.length (flF fs)) := fun W q => hfr.below q
  rw [hfn]
  have b3 := new_below w2 (.cells #[.int .u8 k, .string nm, .slice fa fn fc, .int .i64 el, .int .i64 ln] 57)
  replace oX := (oX.below b2).below b3
  have oT := Own.new w2 #[.int .u8 k, .string nm, .slice fa fn fc, .int .i64 el, .int .i64 ln] 57
  have b9 := (b0.trans (b2.mono b0.size)).trans (b3.mono (b0.trans (b2.mono b0.size)).size)
  have HF3 : Hid (∀ W, Below (w2.alloc (.cells #[.int .u8 k, .string nm, .slice fa fn fc, .int .i64 el, .int .i64 ln] 57)).heap.size (w2.alloc (.cells #[.int .u8 k, .string nm, .slice fa fn fc, .int .i64 el, .int .i64 ln] 57)) W → RowAt W fa 2 fs.length (flF fs)) := fun W q => HFR.out W (b3.trans (q.mono b3.size))
  clear b2 b0 hfl hfr hfn HFR b3
  have REL : Hid (MdRel (w2.alloc (.cells #[.int .u8 k, .string nm, .slice fa fn fc, .int .i64 el, .int .i64 ln] 57)) fs (.slice none 0 0) (.int .i64 0) (w2.alloc (.cells #[.int .u8 k, .string nm, .slice fa fn fc, .int .i64 el, .int .i64 ln] 57))) := ⟨⟨0, Nat.zero_le _, rfl, IntNew.nil _ _⟩, Below.refl _ _⟩
  go_upto_region 8 with fail
  generalize w2.alloc (.cells #[.int .u8 k, .string nm, .slice fa fn fc, .int .i64 el, .int .i64 ln] 57) = w3 at *
  generalize w2.heap.size = gT at *
  have HX3 : Hid _ := oX
  have HT3 : Hid _ := oT
  have H9 : Hid _ := b9
  clear oX oT b9
  go_wp2_with fail
  go_loopw [10, 11] (fun v i wr => MdRel w3 fs v i wr) (fun _ i _ => fn - (intOf i).toNat)
  case atStart => exact REL.out
  case round =>
    clear REL
    obtain ⟨⟨j, hj, rfl, hi⟩, hb⟩ := hrel
    have oTr := Own.below HT3.out hb
    by_cases hlt : j < fn
    · have hka : j < fs.length := by rw [HFN.out]; exact hlt
      obtain ⟨f, hf⟩ : ∃ f, fs.getD j zFl = f := ⟨_, rfl⟩
      obtain ⟨bb, off, hfa, c0, c1⟩ := flCells (HF3.out wr hb) hka f hf
      have HT : Hid ((fs.take (j + 1)).map Fl.typ = (fs.take j).map Fl.typ ++ [f.typ]) := by
        unfold Hid
        rw [List.take_succ_eq_append_getElem hka, List.map_append]
        congr 2
        rw [← hf]; simp [List.getD, hka]
      have hlen : ((fs.take j).map Fl.typ).length = j := by rw [List.length_map, List.length_take]; omega
      have HK : Hid (j ≤ 1000000) := by have := HFL.out; unfold Hid; omega
      obtain ⟨fnm, ty⟩ := f
      simp only at c0 c1 HT
      have oI := Own.new wr #[.int .i64 ty] 3
      have bI := new_below wr (.cells #[.int .i64 ty] 3)
      have hiI := hi.below bI
      have hbI := hb.trans (bI.mono hb.size)
      have rowI := hiI.row
      rw [hlen] at rowI
      have hnew := hiI.new
      obtain ⟨t0, t1, t2, t3, t4, tf⟩ := own5' oTr
      rw [hfa] at t2
      obtain ⟨a1, cp1, rfl⟩ := hi.shape
      rw [hlen] at rowI hnew ⊢
      have HSB : Hid (w3.heap.size ≤ wr.heap.size) := hb.size
      have HLL : Hid (j + 1 ≤ fs.length ∧ (j : Int) < (fn : Int)) := ⟨hka, by omega⟩
      clear hf hi hb bI hiI hlen hfa c0 hka hj oTr
      go_wp2_with (refine wpList_app1 okN (by rfl) (.tmp 44) (.tmp 51) (by rfl) _ j (intV ((fs.take j).map Fl.typ)) (by rfl) rowI wr.heap.size [.int .i64 ty] (by rfl) oI rfl (by simp [Value.oneCell']) (by have := HK.out; omega) ?_; intro ao2 cap2 wz q1 q2 q3)
      have hz : IntNew wz w3.heap.size (.slice ao2 (j + 1) cap2) ((fs.take (j + 1)).map Fl.typ) := by
        refine ⟨?_, fun b q => ?_⟩
        · have e : ((fs.take (j + 1)).map Fl.typ).length = j + 1 := by have := HLL.out.1; rw [List.length_map, List.length_take]; omega
          rw [e, HT.out, intV_app]
          exact q1
        · rcases q3 with q3 | q3
          · exact hnew b (by rw [← q3]; exact q)
          · have e5 : wr.heap.size + 1 = b := by rw [q3] at q; simpa using q
            have := HSB.out; omega
      have hb' := hbI.grown q2 hbI.size (fun k e => hnew k e)
      have hkk : j ≤ 1000000 := HK.out
      have hw : wrap64 ((j : Int) + 1) = (j : Int) + 1 := by unfold wrap64; omega
      go_roundw
      case rel => exact ⟨⟨j + 1, HLL.out.1, by rw [hw]; rfl, hz⟩, hb'⟩
      case measure => rw [hw]; simp [intOf]; omega
    · have hjn : j = fs.length := by have := HFN.out; omega
      have hje : j = fn := by have := HFN.out; omega
      rw [hjn, List.take_of_length_le (Nat.le_refl _)] at hi
      obtain ⟨a1, cp1, rfl⟩ := hi.shape
      have hfm : (fs.map Fl.typ).length = fn := by rw [List.length_map]; exact HFN.out
      rw [hfm]
      have HI : Hid (IntNew wr w3.heap.size (.slice a1 fn cp1) (fs.map Fl.typ)) := by rw [hfm] at hi; exact hi
      have oXr := Own.below HX3.out hb
      have bw := H9.out.trans (hb.mono H9.out.size)
      have HS3 : Hid (w.heap.size ≤ w3.heap.size) := H9.out.size
      subst hje
      clear hi hjn hfm hb hlt hj H9 HT3 HX3 HF3
      obtain ⟨x0, x1, x2, x3, xf⟩ := own4 oXr
      obtain ⟨t0, t1, t2, t3, t4, tf⟩ := own5' oTr
      clear x3 oTr t0 t1 t3 t4
      cases b with
      | false =>
        obtain rfl := (HB2.out rfl).symm
        clear HB1 HB2 HI HS3 HFN HFL
        go_wp2_with fail
        go_ret3
        exact made_no bw
      | true =>
        have hRr := HB1.out rfl
        by_cases hy : y < (j : Int)
        · have hr : R = some ([x, (fs.getD y.toNat zFl).typ], []) := by
            rw [hRr]
            unfold recF
            rw [if_neg (by omega), if_pos (by rw [HFN.out]; exact hy)]
            rfl
          have hyi : y.toNat < fs.length := by have := HFN.out; omega
          obtain ⟨tv, htv⟩ : ∃ tv, (fs.getD y.toNat zFl).typ = tv := ⟨_, rfl⟩
          rw [htv] at hr
          have hrow : Rw wr 3 1 (.slice a1 j cp1) j (intV (fs.map Fl.typ)) := by
            have := HI.out.row
            rw [List.length_map, HFN.out] at this
            exact this
          obtain ⟨g, cap, cur, ea, -⟩ := hrow.block (by omega)
          cases ea
          have hgt : (intV (fs.map Fl.typ))[y.toNat]? = some (.int .i64 tv) := by
            have := intV_get (fs.map Fl.typ) y.toNat (by rw [List.length_map]; exact hyi) 0 (by omega)
            rw [Nat.mul_one, Nat.add_zero] at this
            rw [this]
            show some (Value.int .i64 ((fs.map Fl.typ).getD y.toNat 0)) = _
            rw [← htv]
            simp [List.getD, hyi]
          have hcl : wr.cell? ⟨g, y.toNat, none⟩ = some (.int .i64 tv) := Rw.cells hrow _ _ hgt
          have hcla : ∀ o, (wr.alloc o).cell? ⟨g, y.toNat, none⟩ = some (.int .i64 tv) := fun o => Rw.cells (hrow.belowR (new_below wr o)) _ _ hgt
          have x2a : ∀ o, (wr.alloc o).cell? ⟨w.heap.size, 2, none⟩ = some (.int .i64 y) := fun o => by have := (own4 (oXr.alloc o)).2.2.1; exact this
          subst hr
          clear HB1 HB2 HI HS3 HFN HFL hRr hrow hgt htv hyi oXr
          go_wp2_with fail
          go_ret3
          exact made_yes (two_ln bw [x, tv] (by simp))
        · have hr : R = none := by
            rw [hRr]
            unfold recF
            rw [if_neg (by omega), if_neg (by rw [HFN.out]; exact hy)]
          subst hr
          have hy2 : (j : Int) ≤ y := by omega
          clear HB1 HB2 HI HS3 HFN HFL hRr
          go_wp2_with fail
          go_ret3
          exact made_no bw
end Go.Proofs.YtjfdlphkmpkjdaaDoor
