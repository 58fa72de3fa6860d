/-
  THE LANDED LAYOUT OF LINES.
-/
import Derived.Test.YtkmmnocooibljaaGreatDoorNt
import Derived.Test.YtkmmnocooibljaaGreatDoorNu
namespace Go.Proofs.YtkmmnocooibljaaGreatDoor
open Go.RowKit Go.Maps
set_option linter.unusedVariables false

def addsL : List (Int × In) → List (Int × Int) × Int → Nat ⊕ (List (Int × Int) × Int)
  | [], st => .inr st
  | y :: ys, st => match addL st y with
    | .inl e => .inl e
    | .inr st' => addsL ys st'
def layoutL (ys : List (Int × In)) : Nat ⊕ (List (Int × Int) × Int) := match addsL ys ([], 0) with
  | .inl e => .inl e
  | .inr st => if ys.all fun y => leadsB st.1 y.2 then .inr st else .inl 150
def LoR (w : World) (r : Nat ⊕ (List (Int × Int) × Int)) (e : Ending) (w' : World) : Prop := match r with
  | .inl er => e = .returned (.tuple #[.agg #[.map none, .int .i64 0], .int .i64 (er : Int)]) ∧ Below w.heap.size w w'
  | .inr st => ∃ b, e = .returned (.tuple #[.agg #[.map (some b), .int .i64 st.2], .int .i64 0]) ∧ w.heap.size ≤ b ∧ PlAt w' b st.1 ∧ Below w.heap.size w w'
theorem addL_er {st : List (Int × Int) × Int} {y : Int × In} {e : Nat} (h : addL st y = .inl e) : e = 120 ∨ e = 150 := by
  unfold addL at h
  split at h
  · split at h
    · cases h; exact .inl rfl
    · cases h
  · split at h
    · cases h; exact .inl rfl
    · split at h
      · cases h; exact .inr rfl
      · cases h
theorem addsL_append (ys zs : List (Int × In)) (st : List (Int × Int) × Int) : addsL (ys ++ zs) st = match addsL ys st with | .inl e => .inl e | .inr st' => addsL zs st' := by
  induction ys generalizing st with
  | nil => rfl
  | cons y ys ih =>
    rw [List.cons_append]
    simp only [addsL]
    cases addL st y with
    | inl e => rfl
    | inr st' => exact ih st'
theorem take_l {xs : List LnP} {k : Nat} (h : k < xs.length) : (xs.take (k + 1)).map LnP.l = (xs.take k).map LnP.l ++ [(xs.getD k zLn).l] := by
  rw [List.take_add_one, List.getElem?_eq_getElem h, List.map_append]
  have : xs.getD k zLn = xs[k] := by simp [List.getD, h]
  rw [this]; rfl
theorem addsL_next {xs : List LnP} {k : Nat} (h : k < xs.length) {st st' : List (Int × Int) × Int} (h0 : addsL ((xs.take k).map LnP.l) ([], 0) = .inr st) (h1 : addL st (xs.getD k zLn).l = .inr st') : addsL ((xs.take (k + 1)).map LnP.l) ([], 0) = .inr st' := by
  rw [take_l h, addsL_append, h0]
  simp only [addsL, h1]
theorem addsL_stop {xs : List LnP} {k : Nat} (h : k < xs.length) {st : List (Int × Int) × Int} {e : Nat} (h0 : addsL ((xs.take k).map LnP.l) ([], 0) = .inr st) (h1 : addL st (xs.getD k zLn).l = .inl e) : layoutL (xs.map LnP.l) = .inl e := by
  have : xs.map LnP.l = (xs.take (k + 1)).map LnP.l ++ (xs.drop (k + 1)).map LnP.l := by rw [← List.map_append, List.take_append_drop]
  unfold layoutL
  rw [this, take_l h, List.append_assoc, addsL_append, h0]
  simp only [List.cons_append, addsL, h1]
theorem addL_next {st st' : List (Int × Int) × Int} {y : Int × In} (h : addL st y = .inr st') : st'.1.length ≤ st.1.length + 1 ∧ st.2 ≤ st'.2 ∧ st'.2 ≤ st.2 + 1000000 := by
  have := size_small y.2
  unfold addL at h
  split at h
  · split at h
    · cases h
    · cases h; simp; omega
  · split at h
    · cases h
    · split at h
      · cases h
      · cases h; simp; omega
theorem results_lo {tmps : Array Value} {w : World} {g : Nat} {m s : Value} {er : Int} (h2 : tmps.getD 2 undef = ptr g) (h3 : tmps.getD 3 undef = .int .i64 er) (ho : Own w g #[m, s] 65) : (results Tryz.f40 tmps).run Tryz.prog w = .ok (.tuple #[.agg #[m, s], .int .i64 er]) w := by
  have h2' : tmps[2]?.getD undef = .pointer (some ⟨g, 0, none⟩) := by simpa using h2
  have h3' : tmps[3]?.getD undef = .int .i64 er := by simpa using h3
  have m0 : w.cell? ⟨g, 0, none⟩ = some m := by simpa using ho.cell 0
  have m1 : w.cell? ⟨g, 1, none⟩ = some s := by simpa using ho.cell 1
  simp [results, h2', h3', asAddr, go_sem, m0, m1, Result.andThen]
theorem own_put2 {w : World} {g : Nat} {t : TypeId} {a0 a1 : Value} (h : Own w g #[a0, a1] t) (b0 b1 : Value) : Own ((w.setCell ⟨g, 0, none⟩ b0).setCell ⟨g, 1, none⟩ b1) g #[b0, b1] t := by
  have := (h.set 0 b0).set 1 b1
  simpa using this
theorem fr_put2 (w : World) (g : Nat) (b0 b1 : Value) : Fr (fun k => k = g) w ((w.setCell ⟨g, 0, none⟩ b0).setCell ⟨g, 1, none⟩ b1) :=
  ((Fr.refl (fun k => k = g) w).set (g := g) (.inr rfl) 0 _).set (g := g) (.inr rfl) 1 _
theorem below_put2 {w0 w : World} (h : Below w0.heap.size w0 w) (b0 b1 : Value) : Below w0.heap.size w0 ((w.setCell ⟨w0.heap.size, 0, none⟩ b0).setCell ⟨w0.heap.size, 1, none⟩ b1) :=
  below_fr h (fr_put2 w w0.heap.size b0 b1) (fun g q => by omega)
theorem layoutL_bad {xs : List LnP} {st : List (Int × Int) × Int} {k : Nat} (h0 : addsL ((xs.take xs.length).map LnP.l) ([], 0) = .inr st) (hk : k < xs.length) (h : leadsB st.1 (xs.getD k zLn).x = false) : layoutL (xs.map LnP.l) = .inl 150 := by
  rw [List.take_length] at h0
  unfold layoutL
  rw [h0]
  simp only
  rw [if_neg]
  rw [Bool.not_eq_true, List.all_eq_false]
  exact ⟨(xs.getD k zLn).l, List.mem_map.2 ⟨_, getD_in hk, rfl⟩, by rw [show (xs.getD k zLn).l.2 = (xs.getD k zLn).x from rfl, h]; decide⟩
theorem layoutL_good {xs : List LnP} {st : List (Int × Int) × Int} (h0 : addsL ((xs.take xs.length).map LnP.l) ([], 0) = .inr st) (h : ∀ j, j < xs.length → leadsB st.1 (xs.getD j zLn).x = true) : layoutL (xs.map LnP.l) = .inr st := by
  rw [List.take_length] at h0
  unfold layoutL
  rw [h0]
  simp only
  rw [if_pos]
  rw [List.all_eq_true]
  intro y hy
  obtain ⟨X, hX, rfl⟩ := List.mem_map.1 hy
  obtain ⟨i, hi, rfl⟩ := List.mem_iff_getElem.1 hX
  have := h i hi
  rw [show xs.getD i zLn = xs[i] by simp [List.getD, hi]] at this
  exact this
structure Ly1 (w wr : World) (xs : List LnP) (k : Nat) (st : List (Int × Int) × Int) : Prop where
  ly : LyAt wr (w.heap.size + 1 + 1) (w.heap.size + 1) st
  g0 : Own wr w.heap.size #[.map none, .int .i64 0] 65
  bel : Below w.heap.size w wr
  len : st.1.length ≤ k
  lo : 0 ≤ st.2
  hi : st.2 ≤ (k : Int) * 1000000
  sum : addsL ((xs.take k).map LnP.l) ([], 0) = .inr st
theorem Ly1.step {w wr w' : World} {xs : List LnP} {k : Nat} {st : List (Int × Int) × Int} (h : Ly1 w wr xs k st) (hb : Below wr.heap.size wr w') : Ly1 w w' xs k st :=
  ⟨h.ly.below hb, h.g0.below hb, h.bel.trans (hb.mono h.bel.size), h.len, h.lo, h.hi, h.sum⟩
theorem Ly1.start (w : World) (xs : List LnP) : Ly1 w (((w.alloc (.cells #[.map none, .int .i64 0] 65)).alloc (.map #[] 0)).alloc (.cells #[.map (some (w.heap.size + 1)), .int .i64 0] 65)) xs 0 ([], 0) where
  ly := by
    have o := Own.new ((w.alloc (.cells #[.map none, .int .i64 0] 65)).alloc (.map #[] 0)) #[.map (some (w.heap.size + 1)), .int .i64 0] 65
    rw [World.size_alloc, World.size_alloc] at o
    have p := PlAt.made (w.alloc (.cells #[.map none, .int .i64 0] 65))
    rw [World.size_alloc] at p
    exact ⟨o, p.below (new_below _ _), fun x hx => by cases hx⟩
  g0 := ((Own.new w #[.map none, .int .i64 0] 65).alloc (.map #[] 0)).alloc (.cells #[.map (some (w.heap.size + 1)), .int .i64 0] 65)
  bel := ((new_below w _).alloc (by simp) _).alloc (by simp; omega) _
  len := Nat.le_refl _
  lo := Int.le_refl _
  hi := by simp
  sum := rfl
/-- A line that is wrong. -/
theorem Ly1.stop {w w4 w5 : World} {xs : List LnP} {k : Nat} {st : List (Int × Int) × Int} (h : Ly1 w w4 xs k st) (hf : Fr (fun j => j = w.heap.size + 1 + 1 ∨ j = w.heap.size + 1) w4 w5) : Own w5 w.heap.size #[.map none, .int .i64 0] 65 ∧ Below w.heap.size w w5 :=
  ⟨h.g0.fr hf (by omega), below_fr h.bel hf (fun g q => by omega)⟩
theorem Ly1.next {w w4 w5 : World} {xs : List LnP} {k : Nat} {st st' : List (Int × Int) × Int} (h : Ly1 w w4 xs k st) (hf : Fr (fun j => j = w.heap.size + 1 + 1 ∨ j = w.heap.size + 1) w4 w5) (hk : k < xs.length) (ha : addL st (xs.getD k zLn).l = .inr st') (hl : LyAt w5 (w.heap.size + 1 + 1) (w.heap.size + 1) st') : Ly1 w w5 xs (k + 1) st' := by
  have hq := addL_next ha
  have h1 := h.len
  have h2 := h.lo
  have h3 := h.hi
  exact ⟨hl, (h.stop hf).1, (h.stop hf).2, by omega, by omega, by omega, addsL_next hk h.sum ha⟩
set_option maxHeartbeats 4000000 in
set_option maxRecDepth 100000 in
theorem lnlayoutOf_as {w : World} {a : Option Addr} {n c : Nat} {xs : List LnP} (hn : n = xs.length) (h : LnsIn w a xs) (hm : n ≤ 1000000) (hA : ∀ y ∈ xs, y.x.arms.length ≤ 1000000) :
    Calls Tryz.prog 40 #[.slice a n c] w (LoR w (layoutL (xs.map LnP.l))) := by
  have HN : Hid (n = xs.length) := hn
  have HROW : Hid (RowAt w a 5 xs.length (lnF xs)) := h.row
  have HX : Hid (∀ x ∈ xs, LnIn w x) := h.each
  have HA : Hid (∀ y ∈ xs, y.x.arms.length ≤ 1000000) := hA
  have HM : Hid (n ≤ 1000000) := hm
  have hns : n ≤ 140737488355328 := by omega
  clear hn h hA hm
  have hmk := run_makeMap (P := Tryz.prog) 63 (w.alloc (.cells #[.map none, .int .i64 0] 65))
  have HS : Hid (Ly1 w _ xs 0 ([], 0)) := Ly1.start w xs
  go_enter Tryz.func40, Tryz.ntmps40
  go_wp2_with fail
  clear hmk
  go_loopw [14] (fun i wr => ∃ (k : Nat) (st : List (Int × Int) × Int), k ≤ n ∧ i = .int .i64 (k : Int) ∧ Ly1 w wr xs k st) (fun i _ => n - (intOf i).toNat)
  case atStart => exact ⟨0, ([], 0), Nat.zero_le _, rfl, HS.out⟩
  case round =>
    clear HS
    obtain ⟨k, st, hk, rfl, hl1⟩ := hrel
    have H1 : Hid (Ly1 w wr xs k st) := hl1
    clear hl1
    by_cases hlt : k < n
    · have hkx : k < xs.length := by rw [← HN.out]; exact hlt
      obtain ⟨b1, o1, ha1, g1⟩ := (HROW.out.below H1.out.bel).at hkx
      have hXi := (HX.out _ (getD_in (z := zLn) hkx)).below H1.out.bel
      have hAX := HA.out _ (getD_in (z := zLn) hkx)
      unfold lnF at g1
      have HNX : Hid (∀ w4 w5 st', Ly1 w w4 xs k st → Fr (fun j => j = w.heap.size + 1 + 1 ∨ j = w.heap.size + 1) w4 w5 → addL st (xs.getD k zLn).l = .inr st' → LyAt w5 (w.heap.size + 1 + 1) (w.heap.size + 1) st' → Ly1 w w5 xs (k + 1) st') := fun w4 w5 st' q1 q2 q3 q4 => q1.next q2 hkx q3 q4
      have HST : Hid (∀ e, addL st (xs.getD k zLn).l = .inl e → layoutL (xs.map LnP.l) = .inl e) := fun e q => addsL_stop hkx H1.out.sum q
      generalize xs.getD k zLn = X at *
      have HC : Hid (∀ W, Below wr.heap.size wr W → Calls Tryz.prog 65 #[.pointer (some ⟨w.heap.size + 1 + 1, 0, none⟩), .agg #[.int .i64 X.lab, .int .u8 (X.x.op : Int), .int .i64 X.x.a, .int .i64 X.x.b, .slice X.ao X.x.arms.length X.cp]] W (LyR W (w.heap.size + 1 + 1) (w.heap.size + 1) st (addL st X.l))) := fun W q => lnadd_as (H1.out.ly.below q) (by have := H1.out.len; have := HM.out; omega) ⟨H1.out.lo, by have := H1.out.hi; have := HM.out; omega⟩ (hXi.below q) hAX
      subst ha1
      have d0 : wr.cell? ⟨b1, o1 + k * 5, none⟩ = some (.int .i64 X.lab) := g1 0 (by omega)
      have d1 : wr.cell? ⟨b1, o1 + k * 5 + 1, none⟩ = some (.int .u8 (X.x.op : Int)) := g1 1 (by omega)
      have d2 : wr.cell? ⟨b1, o1 + k * 5 + 2, none⟩ = some (.int .i64 X.x.a) := g1 2 (by omega)
      have d3 : wr.cell? ⟨b1, o1 + k * 5 + 3, none⟩ = some (.int .i64 X.x.b) := g1 3 (by omega)
      have d4 : wr.cell? ⟨b1, o1 + k * 5 + 4, none⟩ = some (.slice X.ao X.x.arms.length X.cp) := g1 4 (by omega)
      obtain ⟨R, HR⟩ : ∃ R, Hid (addL st X.l = R) := ⟨_, rfl⟩
      rw [HR.out] at HC
      clear g1 hXi hAX
      generalize X.l = XL at *
      generalize X.lab = pK at *
      generalize (X.x.op : Int) = pO at *
      generalize X.x.a = pA at *
      generalize X.x.b = pB at *
      generalize X.ao = ps at *
      generalize X.x.arms.length = pn at *
      generalize X.cp = pc at *
      have hlt2 : (k : Int) < (n : Int) := by omega
      have hk0 : (0 : Int) ≤ (k : Int) := by omega
      have oX := Own.new wr #[.int .i64 pK, .int .u8 pO, .int .i64 pA, .int .i64 pB, .slice ps pn pc] 56
      have hb4 := new_below wr (.cells #[.int .i64 pK, .int .u8 pO, .int .i64 pA, .int .i64 pB, .slice ps pn pc] 56)
      go_upto_region 5 with fail
      generalize wr.alloc (.cells #[.int .i64 pK, .int .u8 pO, .int .i64 pA, .int .i64 pB, .slice ps pn pc] 56) = w4 at *
      obtain ⟨x0, x1, x2, x3, x4, xf⟩ := lown5 oX
      clear d0 d1 d2 d3 d4
      have H4 : Hid (Ly1 w w4 xs k st) := H1.out.step hb4
      go_wp2_with fail
      refine Calls.mono (HC.out w4 hb4) ?_
      cases R with
      | inl er =>
        rintro e w5 ⟨⟨rfl, -⟩, hf⟩
        obtain ⟨o0, hbel⟩ := H4.out.stop hf
        have hLR := HST.out er HR.out
        have HRET : Hid (∀ W, Below w.heap.size w W → LoR w (layoutL (xs.map LnP.l)) (.returned (.tuple #[.agg #[.map none, .int .i64 0], .int .i64 (er : Int)])) W) := fun W q => by rw [hLR]; exact ⟨rfl, q⟩
        have her := addL_er HR.out
        clear x0 x1 x2 x3 x4 xf oX hb4 HC HNX HST HR H1 H4 hf hLR
        have hr1 : ((er : Int) == 0) = false := by rw [beq_eq_false_iff_ne]; omega
        have hr2 : ((er : Int) != 0) = true := by simp [bne, hr1]
        have RES : Hid (Below w.heap.size w w5) := hbel
        have m0 := o0.cell 0
        have m1 := o0.cell 1
        have mf := o0.froz
        simp only [List.getElem?_toArray, List.getElem?_cons_zero, List.getElem?_cons_succ] at m0 m1
        go_wp2
        (try simp only [Exit.inBlock, Exit.then])
        exact bodyPost_ret (results_lo rfl rfl (own_put2 o0 _ _)) rfl (HRET.out _ (below_put2 RES.out _ _))
      | inr st' =>
        rintro e w5 ⟨⟨rfl, hly⟩, hf⟩
        have HN5 : Hid (Ly1 w w5 xs (k + 1) st') := HNX.out w4 w5 st' H4.out hf HR.out hly
        clear x0 x1 x2 x3 x4 xf oX hb4 HC HNX HST HR H1 H4 hf hly
        go_wp2
        first
          | (go_roundw
             case rel => exact ⟨k + 1, st', hlt, by go_num, HN5.out⟩
             case measure => simp [intOf]; omega)
    · obtain rfl : k = n := by omega
      go_wp2_with fail
      go_loopw [27] (fun i wr => ∃ j : Nat, j ≤ k ∧ i = .int .i64 (j : Int) ∧ Ly1 w wr xs k st ∧ ∀ i, i < j → leadsB st.1 (xs.getD i zLn).x = true) (fun i _ => k - (intOf i).toNat)
      case atStart => exact ⟨0, Nat.zero_le _, rfl, H1.out, fun i hi => by omega⟩
      case round =>
        clear H1
        obtain ⟨j, hj, rfl, hl1, hpre⟩ := hrel
        have H1 : Hid (Ly1 w wr xs k st) := hl1
        have HPR : Hid (∀ i, i < j → leadsB st.1 (xs.getD i zLn).x = true) := hpre
        clear hl1 hpre
        by_cases hlt : j < k
        · have hkx : j < xs.length := by rw [← HN.out]; exact hlt
          obtain ⟨b1, o1, ha1, g1⟩ := (HROW.out.below H1.out.bel).at hkx
          have hXi := (HX.out _ (getD_in (z := zLn) hkx)).below H1.out.bel
          have hAX := HA.out _ (getD_in (z := zLn) hkx)
          unfold lnF at g1
          have HNX : Hid (leadsB st.1 (xs.getD j zLn).x = true → ∀ i, i < j + 1 → leadsB st.1 (xs.getD i zLn).x = true) := fun q i hi => by
            by_cases e : i = j
            · subst e; exact q
            · exact HPR.out i (by omega)
          have HST : Hid (leadsB st.1 (xs.getD j zLn).x = false → layoutL (xs.map LnP.l) = .inl 150) := fun q => layoutL_bad (by have := H1.out.sum; rw [HN.out] at this; exact this) hkx q
          generalize xs.getD j zLn = X at *
          have HC : Hid (∀ W, Below wr.heap.size wr W → Calls Tryz.prog 66 #[.agg #[.map (some (w.heap.size + 1)), .int .i64 st.2], insV X.x (.slice X.ao X.x.arms.length X.cp)] W fun e w' => e = .returned (.bool (leadsB st.1 X.x)) ∧ Below W.heap.size W w') := fun W q => lnleads_as (H1.out.ly.below q).pl st.2 (hXi.below q).ins _ rfl hAX
          unfold insV at HC
          subst ha1
          have d0 : wr.cell? ⟨b1, o1 + j * 5, none⟩ = some (.int .i64 X.lab) := g1 0 (by omega)
          have d1 : wr.cell? ⟨b1, o1 + j * 5 + 1, none⟩ = some (.int .u8 (X.x.op : Int)) := g1 1 (by omega)
          have d2 : wr.cell? ⟨b1, o1 + j * 5 + 2, none⟩ = some (.int .i64 X.x.a) := g1 2 (by omega)
          have d3 : wr.cell? ⟨b1, o1 + j * 5 + 3, none⟩ = some (.int .i64 X.x.b) := g1 3 (by omega)
          have d4 : wr.cell? ⟨b1, o1 + j * 5 + 4, none⟩ = some (.slice X.ao X.x.arms.length X.cp) := g1 4 (by omega)
          obtain ⟨B, HB⟩ : ∃ B, Hid (leadsB st.1 X.x = B) := ⟨_, rfl⟩
          rw [HB.out] at HC HNX HST
          clear HB
          clear g1 hXi hAX HPR
          generalize X.lab = pK at *
          generalize (X.x.op : Int) = pO at *
          generalize X.x.a = pA at *
          generalize X.x.b = pB at *
          generalize X.ao = ps at *
          generalize X.x.arms.length = pn at *
          generalize X.cp = pc at *
          have hlt2 : (j : Int) < (k : Int) := by omega
          have hk0 : (0 : Int) ≤ (j : Int) := by omega
          have oX := Own.new wr #[.int .i64 pK, .int .u8 pO, .int .i64 pA, .int .i64 pB, .slice ps pn pc] 56
          have hb4 := new_below wr (.cells #[.int .i64 pK, .int .u8 pO, .int .i64 pA, .int .i64 pB, .slice ps pn pc] 56)
          go_upto_region 12 with fail
          generalize wr.alloc (.cells #[.int .i64 pK, .int .u8 pO, .int .i64 pA, .int .i64 pB, .slice ps pn pc] 56) = w4 at *
          obtain ⟨x0, x1, x2, x3, x4, xf⟩ := lown5 oX
          clear d0 d1 d2 d3 d4
          have H4 : Hid (Ly1 w w4 xs k st) := H1.out.step hb4
          have oL := H4.out.ly.own
          have z0 := oL.cell 0
          have z1 := oL.cell 1
          have zf := oL.froz
          simp only [List.getElem?_toArray, List.getElem?_cons_zero, List.getElem?_cons_succ] at z0 z1
          go_wp2_with fail
          refine Calls.mono (HC.out w4 hb4) ?_
          rintro e w5 ⟨rfl, hb5⟩
          have H5 : Hid (Ly1 w w5 xs k st) := H4.out.step hb5
          clear x0 x1 x2 x3 x4 xf oX hb4 HC H1 H4 hb5 z0 z1 zf oL
          cases B with
          | true =>
            have HPR2 : Hid (∀ i, i < j + 1 → leadsB st.1 (xs.getD i zLn).x = true) := HNX.out rfl
            clear HNX HST
            go_wp2
            first
              | (go_roundw
                 case rel => exact ⟨j + 1, hlt, by go_num, H5.out, HPR2.out⟩
                 case measure => simp [intOf]; omega)
          | false =>
            have HRET : Hid (∀ W, Below w.heap.size w W → LoR w (layoutL (xs.map LnP.l)) (.returned (.tuple #[.agg #[.map none, .int .i64 0], .int .i64 150])) W) := fun W q => by rw [HST.out rfl]; exact ⟨rfl, q⟩
            have RES : Hid (Below w.heap.size w w5) := H5.out.bel
            have o0 := H5.out.g0
            clear HNX HST H5
            have m0 := o0.cell 0
            have m1 := o0.cell 1
            have mf := o0.froz
            simp only [List.getElem?_toArray, List.getElem?_cons_zero, List.getElem?_cons_succ] at m0 m1
            go_wp2
            (try simp only [Exit.inBlock, Exit.then])
            exact bodyPost_ret (results_lo rfl rfl (own_put2 o0 _ _)) rfl (HRET.out _ (below_put2 RES.out _ _))
        · obtain rfl : j = k := by omega
          have HRET : Hid (∀ W, PlAt W (w.heap.size + 1) st.1 → Below w.heap.size w W → LoR w (layoutL (xs.map LnP.l)) (.returned (.tuple #[.agg #[.map (some (w.heap.size + 1)), .int .i64 st.2], .int .i64 0])) W) := fun W q1 q2 => by
            rw [layoutL_good (st := st) (by have := H1.out.sum; rw [HN.out] at this; exact this) (fun i hi => HPR.out i (by rw [HN.out]; exact hi))]
            exact ⟨w.heap.size + 1, rfl, by omega, q1, q2⟩
          have o0 := H1.out.g0
          have oL := H1.out.ly.own
          have RES : Hid (Below w.heap.size w wr) := H1.out.bel
          have RPL : Hid (PlAt wr (w.heap.size + 1) st.1) := H1.out.ly.pl
          clear H1 HPR
          have m0 := o0.cell 0
          have m1 := o0.cell 1
          have mf := o0.froz
          have z0 := oL.cell 0
          have z1 := oL.cell 1
          have zf := oL.froz
          simp only [List.getElem?_toArray, List.getElem?_cons_zero, List.getElem?_cons_succ] at m0 m1 z0 z1
          go_wp2
          (try simp only [Exit.inBlock, Exit.then])
          exact bodyPost_ret (results_lo rfl rfl (own_put2 o0 _ _)) rfl (HRET.out _ (RPL.out.on ((fr_put2 wr w.heap.size _ _).block (w.heap.size + 1) RPL.out.lt (by omega))) (below_put2 RES.out _ _))
end Go.Proofs.YtkmmnocooibljaaGreatDoor
