/-
  THE BYTES OF INSTRUCTIONS.
-/
import Derived.Test.YtkmmnocooibljaaGreatDoorNx
import Derived.Test.YtkmmnocooibljaaGreatDoorEcq
namespace Go.Proofs.YtkmmnocooibljaaGreatDoor
open Go.RowKit Go.Maps
set_option linter.unusedVariables false
set_option linter.unusedSimpArgs false

theorem insC_get (x : List (In × Value)) (i : Nat) (h : i < x.length) : (insC x)[i * 4]? = some (.int .u8 ((x.getD i (zI, undef)).1.op : Int)) ∧ (insC x)[i * 4 + 1]? = some (.int .i64 (x.getD i (zI, undef)).1.a) ∧ (insC x)[i * 4 + 2]? = some (.int .i64 (x.getD i (zI, undef)).1.b) ∧ (insC x)[i * 4 + 3]? = some (x.getD i (zI, undef)).2 := by
  induction x generalizing i with
  | nil => cases h
  | cons y r ih =>
    have e : insC (y :: r) = .int .u8 (y.1.op : Int) :: .int .i64 y.1.a :: .int .i64 y.1.b :: y.2 :: insC r := rfl
    rw [e]
    cases i with
    | zero => exact ⟨rfl, rfl, rfl, rfl⟩
    | succ i =>
      have := ih i (by simpa using h)
      rw [show (i + 1) * 4 = i * 4 + 1 + 1 + 1 + 1 by omega]
      simpa using this
def codeB (il : List In) : List Nat := (il.map In.enc).flatten
theorem codeB_app (x y : List In) : codeB (x ++ y) = codeB x ++ codeB y := by simp [codeB]
structure Num (x : In) : Prop where
  op : x.op < 256
  a : N64 x.a
  b : N64 x.b
  arms : ∀ y ∈ x.arms, N64 y.1 ∧ N64 y.2
def BytR (w : World) (bs : List Nat) (e : Ending) (w' : World) : Prop :=
  ∃ v, e = .returned v ∧ Rw w' 5 1 v bs.length (nums bs) ∧ (∀ b, v.ownBlock = some b → w.heap.size ≤ b) ∧ Below w.heap.size w w'
theorem infoU : (Tryz.prog.info? 5).map (fun i => (i.size, i.bytes, i.zero)) = some (1, 1, some (.int .u8 0)) := by kernel_rfl
def zUs (n : Nat) : Array Value := madeCells (Value.int .u8 0).cells (n * 1)
theorem made_u8s (w : World) (n : Nat) (hn : n ≤ 1000000) : (Instr.makeSlice 30 (.int .i64 0) (.int .i64 (n : Int))).run Tryz.prog w = .ok (.slice (some ⟨w.heap.size, 0, none⟩) 0 n) (w.alloc (.cells (zUs n) 5)) := by
  have hi := infoU
  cases hh : Tryz.prog.info? 5 with
  | none => rw [hh] at hi; cases hi
  | some i =>
    rw [hh] at hi
    obtain ⟨h1, h2, h3⟩ : i.size = 1 ∧ i.bytes = 1 ∧ i.zero = some (.int .u8 0) := by simpa using hi
    have h := run_makeSlice (P := Tryz.prog) (w := w) 30 5 i (.int .u8 0) Tryz.underlying30 hh h3 .i64 .i64 0 (n : Int) (by omega) (by omega) (by rw [h1]; omega) (by rw [h2]; omega) (by omega)
    rw [h1] at h
    exact h
theorem made_code (w : World) (c : Nat) (hc : c ≤ 1000000) : Rw (w.alloc (.cells (zUs c) 5)) 5 1 (.slice (some ⟨w.heap.size, 0, none⟩) 0 c) ([] : List Nat).length (nums []) :=
  World.ownsRow_made w _ c (Nat.zero_le _) (by unfold maxLen; omega) (size_madeCells _ _)
theorem rw_split {w : World} {e : TypeId} {size : Nat} {v : Value} {n : Nat} {xs : List Value} (h : Rw w e size v n xs) : ∃ ao cp, v = .slice ao n cp ∧ (ao = none → cp = 0) ∧ (n = 0 ∨ ∃ b off, ao = some ⟨b, off, none⟩ ∧ ∀ j u, xs[j]? = some u → w.cell? ⟨b, off + j, none⟩ = some u) := by
  by_cases h0 : n = 0
  · subst h0
    obtain ⟨ao, cp, rfl, -⟩ := h.shape
    refine ⟨ao, cp, rfl, fun e => ?_, .inl rfl⟩
    subst e
    rcases h.2 with ⟨q, h0⟩ | ⟨g, cap, cur, q, _⟩
    · cases q; rfl
    · cases q
  · obtain ⟨g, cap, cur, rfl, -⟩ := h.block (by omega)
    exact ⟨_, cap, rfl, (fun e => by cases e), .inr ⟨g, 0, rfl, fun j u hu => by rw [Nat.zero_add]; exact Rw.cells h j u hu⟩⟩
structure ByAt (w wr : World) (n : Nat) (ps : List (In × Value)) (k : Nat) (code : Value) : Prop where
  row : Rw wr 5 1 code (codeB ((ps.take k).map Prod.fst)).length (nums (codeB ((ps.take k).map Prod.fst)))
  new : ∀ b, code.ownBlock = some b → w.heap.size ≤ b
  bel : Below w.heap.size w wr
theorem ByAt.start {w w1 : World} {n : Nat} {ps : List (In × Value)} {sz : Nat} (hb1 : Below w.heap.size w w1) (hsz : sz ≤ 1000000) : ByAt w (w1.alloc (.cells (zUs sz) 5)) n ps 0 (.slice (some ⟨w1.heap.size, 0, none⟩) 0 sz) := by
  refine ⟨made_code w1 sz hsz, fun b e => ?_, hb1.alloc hb1.size _⟩
  have e2 : w1.heap.size = b := by simpa [Value.ownBlock] using e
  rw [← e2]; exact hb1.size
theorem take_f {ps : List (In × Value)} {k : Nat} (h : k < ps.length) : (ps.take (k + 1)).map Prod.fst = (ps.take k).map Prod.fst ++ [(ps.getD k (zI, undef)).1] := by
  rw [List.take_add_one, List.getElem?_eq_getElem h, List.map_append]
  have : ps.getD k (zI, undef) = ps[k] := by simp [List.getD, h]
  rw [this]; rfl
theorem codeB_take (ps : List (In × Value)) (k : Nat) : (codeB ((ps.take k).map Prod.fst)).length ≤ (codeB (ps.map Prod.fst)).length := by
  have : ps.map Prod.fst = (ps.take k).map Prod.fst ++ (ps.drop k).map Prod.fst := by rw [← List.map_append, List.take_append_drop]
  rw [this, codeB_app, List.length_append]; omega
theorem ByAt.next {w wr W wz : World} {n : Nat} {ps : List (In × Value)} {k : Nat} {code v' : Value} (h : ByAt w wr n ps k code) (hk : k < ps.length) (hb : Below wr.heap.size wr W) (bs : List Nat) (hbs : bs = (ps.getD k (zI, undef)).1.enc) {m : Nat} (hm : m = (codeB ((ps.take k).map Prod.fst)).length + bs.length) (q1 : Rw wz 5 1 v' m (nums (codeB ((ps.take k).map Prod.fst)) ++ nums bs)) (q2 : W.grownBy wz code.ownBlock) (q3 : v'.ownBlock = code.ownBlock ∨ v'.ownBlock = some W.heap.size) : ByAt w wz n ps (k + 1) v' := by
  have hbW := h.bel.trans (hb.mono h.bel.size)
  refine ⟨?_, fun b e => ?_, hbW.grown q2 hbW.size (fun j e => h.new j e)⟩
  · rw [take_f hk, codeB_app, List.length_append, nums_append, show codeB [(ps.getD k (zI, undef)).1] = bs by rw [hbs]; simp [codeB], ← hm]
    exact q1
  · rcases q3 with q3 | q3
    · exact h.new b (by rw [← q3]; exact e)
    · rw [q3] at e; cases e; exact hbW.size
set_option maxHeartbeats 4000000 in
set_option maxRecDepth 100000 in
theorem lnbytes_as {w : World} {B : Nat} {vl vp : Value} {sz : Nat} {ps : List (In × Value)} (h : InsRow w B vl ps) (hnum : ∀ y ∈ ps, Num y.1 ∧ y.1.arms.length ≤ 1000000) (hsz : sz ≤ 1000000) (hps : ps.length ≤ 1000000) (hlen : (codeB (ps.map Prod.fst)).length ≤ 1000000) {ap : Option Addr} {np cpp : Nat} (hvp : vp = .slice ap np cpp) :
    Calls Tryz.prog 45 #[.agg #[vl, vp, .int .i64 (sz : Int)]] w (BytR w (codeB (ps.map Prod.fst))) := by
  subst hvp
  have HIR : Hid (InsRow w B vl ps) := h
  have HNUM : Hid (∀ y ∈ ps, Num y.1 ∧ y.1.arms.length ≤ 1000000) := hnum
  have HLEN : Hid ((codeB (ps.map Prod.fst)).length ≤ 1000000) := hlen
  obtain ⟨al, cl, rfl, -⟩ := h.row.shape
  obtain ⟨n, hn⟩ : ∃ n, ps.length = n := ⟨_, rfl⟩
  have HN : Hid (ps.length = n) := hn
  rw [hn] at hps
  rw [hn]
  clear h hnum hlen hn
  have oB := Own.new w #[.slice al n cl, .slice ap np cpp, .int .i64 (sz : Int)] 72
  have hb1 := new_below w (.cells #[.slice al n cl, .slice ap np cpp, .int .i64 (sz : Int)] 72)
  go_enter Tryz.func45, Tryz.ntmps45
  go_upto_region 1 with fail
  generalize w.alloc (.cells #[.slice al n cl, .slice ap np cpp, .int .i64 (sz : Int)] 72) = w1 at *
  have hmk := made_u8s w1 sz hsz
  have b0 := oB.cell 0
  have b2 := oB.cell 2
  simp only [List.getElem?_toArray, List.getElem?_cons_zero, List.getElem?_cons_succ] at b0 b2
  have HST : Hid (ByAt w (w1.alloc (.cells (zUs sz) 5)) n ps 0 (.slice (some ⟨w1.heap.size, 0, none⟩) 0 sz)) := ByAt.start hb1 hsz
  have oB2 := oB.alloc (.cells (zUs sz) 5)
  have c0 := oB2.cell 0
  simp only [List.getElem?_toArray, List.getElem?_cons_zero, List.getElem?_cons_succ] at c0
  go_upto_region 2 with fail
  clear hmk b0 b2 oB
  generalize w1.alloc (.cells (zUs sz) 5) = w2 at *
  go_wp2_with fail
  clear oB2 c0 hb1
  go_loopw [3, 14] (fun code i wr => ∃ (k : Nat) (cv : Value), k ≤ n ∧ cv = code ∧ i = .int .i64 (k : Int) ∧ ByAt w wr n ps k cv) (fun _ i _ => n - (intOf i).toNat)
  case atStart => exact ⟨0, _, Nat.zero_le _, rfl, rfl, HST.out⟩
  case round =>
    clear HST
    obtain ⟨k, cv, hk, rfl, rfl, hby⟩ := hrel
    have HBY : Hid (ByAt w wr n ps k cv) := hby
    clear hby
    by_cases hlt : k < n
    · have hkx : k < ps.length := by rw [HN.out]; exact hlt
      obtain ⟨h1, h2, h3, h4⟩ := insC_get ps k hkx
      have hrow := (HIR.out.below HBY.out.bel).row
      rw [HN.out] at hrow
      obtain ⟨g1, cap1, cur, e, -⟩ := hrow.block (by omega)
      cases e
      have d0 := Rw.cells hrow _ _ h1
      have d1 := Rw.cells hrow _ _ h2
      have d2 := Rw.cells hrow _ _ h3
      have d3 := Rw.cells hrow _ _ h4
      obtain ⟨hnm, hna⟩ := HNUM.out _ (getD_in (z := (zI, undef)) hkx)
      obtain ⟨ao, cp, he, hal⟩ := rw_armLies (HIR.out.arms _ (getD_in (z := (zI, undef)) hkx)).1 hnm.arms
      have hil : InLies w (ps.getD k (zI, undef)).1 ao := ⟨hnm.op, hnm.a, hnm.b, hal⟩
      rw [he] at d3
      have HEN : Hid (∀ W, Below w.heap.size w W → Calls Tryz.prog 77 #[insV (ps.getD k (zI, undef)).1 (.slice ao (ps.getD k (zI, undef)).1.arms.length cp)] W (EncRet W (ps.getD k (zI, undef)).1)) := fun W q => enc_as (hil.below q) _ rfl hna
      have hlen1 := codeB_take ps (k + 1)
      rw [take_f hkx, codeB_app, List.length_append] at hlen1
      have HNX : Hid (∀ W wz v' m, Below wr.heap.size wr W → m = (codeB ((ps.take k).map Prod.fst)).length + (ps.getD k (zI, undef)).1.enc.length → Rw wz 5 1 v' m (nums (codeB ((ps.take k).map Prod.fst)) ++ nums (ps.getD k (zI, undef)).1.enc) → W.grownBy wz cv.ownBlock → (v'.ownBlock = cv.ownBlock ∨ v'.ownBlock = some W.heap.size) → ByAt w wz n ps (k + 1) v') := fun W wz v' m q0 q1 q2 q3 q4 => HBY.out.next hkx q0 _ rfl q1 q2 q3 q4
      have hl1 : (codeB [(ps.getD k (zI, undef)).1]).length = (ps.getD k (zI, undef)).1.enc.length := by simp [codeB]
      rw [hl1] at hlen1
      have HL1 : Hid ((codeB ((ps.take k).map Prod.fst)).length + (ps.getD k (zI, undef)).1.enc.length ≤ 1000000) := Nat.le_trans hlen1 HLEN.out
      have hrc := HBY.out.row
      clear h1 h2 h3 h4 hrow hnm hna he hal hil hlen1 hl1 hkx
      unfold insV EncRet at HEN
      generalize (ps.getD k (zI, undef)).1 = Y at *
      generalize codeB ((ps.take k).map Prod.fst) = CB at *
      generalize Y.enc = EN at *
      generalize (Y.op : Int) = zO at *
      generalize Y.a = zA at *
      generalize Y.b = zB at *
      generalize Y.arms.length = zn at *
      generalize Y.ok = OK at *
      have hlt2 : (k : Int) < (n : Int) := by omega
      have hk0 : (0 : Int) ≤ (k : Int) := by omega
      have oX := Own.new wr #[.int .u8 zO, .int .i64 zA, .int .i64 zB, .slice ao zn cp] 43
      have hb4 := new_below wr (.cells #[.int .u8 zO, .int .i64 zA, .int .i64 zB, .slice ao zn cp] 43)
      go_upto_region 5 with fail
      generalize wr.alloc (.cells #[.int .u8 zO, .int .i64 zA, .int .i64 zB, .slice ao zn cp] 43) = w4 at *
      obtain ⟨x0, x1, x2, x3, xf⟩ := own4 oX
      clear d0 d1 d2 d3
      have HB4 : Hid (Below w.heap.size w w4) := HBY.out.bel.trans (hb4.mono HBY.out.bel.size)
      have HB4r : Hid (Below wr.heap.size wr w4) := hb4
      clear hb4
      go_wp2_with fail
      refine Calls.mono (HEN.out w4 HB4.out) ?_
      rintro e w5 ⟨v, rfl, hv, hvn, b5⟩
      have HB5 : Hid (Below wr.heap.size wr w5) := HB4r.out.trans (b5.mono HB4r.out.size)
      have hrc5 := hrc.belowR HB5.out
      obtain ⟨a5, c5, rfl, hno, hsp⟩ := rw_split hv
      clear x0 x1 x2 x3 xf oX HB4 HB4r HEN hv hvn b5 hrc
      have HNX2 : Hid (∀ wz v' m, m = CB.length + EN.length → Rw wz 5 1 v' m (nums CB ++ nums EN) → w5.grownBy wz cv.ownBlock → (v'.ownBlock = cv.ownBlock ∨ v'.ownBlock = some w5.heap.size) → ByAt w wz n ps (k + 1) v') := fun wz v' m => HNX.out w5 wz v' m HB5.out
      have hL2 : CB.length + EN.length ≤ 100000000000 := by have := HL1.out; omega
      clear HNX HB5 HL1
      go_wp2_with (first | (refine wpList_appG okB (by rfl) (.tmp 23) (.tmp 24) (by rfl) _ CB.length (nums CB) (by rfl) hrc5 a5 EN.length c5 (nums EN) (by rfl) (by rw [nums_length, Nat.mul_one]) hsp hno (nums_one EN) hL2 ?_; intro ao' c' wz p1 p2 p3))
      have HBN : Hid (ByAt w wz n ps (k + 1) (.slice ao' (CB.length + EN.length) c')) := HNX2.out wz _ _ rfl p1 p2 p3
      clear HNX2 p1 p2 p3 hsp hno hrc5 HBY
      go_roundw
      case rel => exact ⟨k + 1, _, hlt, rfl, by go_num, HBN.out⟩
      case measure => simp [intOf]; omega
    · obtain rfl : k = n := by omega
      have HR := HBY.out.row
      rw [← HN.out, List.take_length] at HR
      have HFIN : Hid (BytR w (codeB (ps.map Prod.fst)) (.returned cv) wr) := ⟨cv, rfl, HR, HBY.out.new, HBY.out.bel⟩
      clear HR HBY
      go_wp2
      go_ret
      exact HFIN.out
end Go.Proofs.YtkmmnocooibljaaGreatDoor
