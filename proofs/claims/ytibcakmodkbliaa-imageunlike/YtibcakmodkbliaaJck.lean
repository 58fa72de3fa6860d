/-
  image.Check's parts: what is there, types that may be.
  image.Check's parts: a type that may be.
  CONTRACTS of effectOf and Takes.
  image.Check's parts: a function that may be.
  image.Check's parts: a function.
  image.Check's parts: a function, an error.
  image.Check's parts: a whole module.
-/
import Derived.Test.YtibcakmodkbliaaTk8
import Derived.Test.YtibcakmodkbliaaTk17
import Derived.Test.YtibcakmodkbliaaTk18
import Derived.Test.YtibcakmodkbliaaTk19
import Derived.Test.YtibcakmodkbliaaTk20
import Derived.Test.YtibcakmodkbliaaTk21
import Derived.Test.YtibcakmodkbliaaEn
import Derived.Test.YtibcakmodkbliaaAl
namespace Go.Proofs.Ytibcakmodkbliaa
open Go.RowKit
set_option linter.unusedVariables false

/-- Is a type's number there? (n: how many types the table has.) -/
def thr (n : Nat) (x : Int) : Bool := if x < 16 then decide (1 ≤ x) && decide (x ≤ 5) else decide (x - 16 < (n : Int))
theorem all_iff {α : Type} (p : α → Bool) (z : α) (xs : List α) : xs.all p = true ↔ ∀ j, j < xs.length → p (xs.getD j z) = true := by
  rw [List.all_eq_true]
  constructor
  · intro h j hj; exact h _ (getD_in hj)
  · intro h x hx
    obtain ⟨i, hi, e⟩ := List.mem_iff_getElem.1 hx
    have := h i hi
    rw [← e]; simpa [List.getD, hi] using this
theorem all_false {α : Type} (p : α → Bool) (z : α) (xs : List α) (j : Nat) (hj : j < xs.length) (h : p (xs.getD j z) = false) : xs.all p = false := by
  cases q : xs.all p with
  | false => rfl
  | true => rw [(all_iff p z xs).1 q j hj] at h; cases h
set_option maxHeartbeats 2000000 in
set_option maxRecDepth 100000 in
theorem isThere_as {w : World} (m : MoP) (hm : m.tys.length ≤ 100000) (x : Int) (h1 : -9223372036854775808 ≤ x) (h2 : x ≤ 9223372036854775807) :
    Calls Try.prog 38 #[.int .i64 x, .agg m.cs] w fun e w' => e = .returned (.bool (thr m.tys.length x)) ∧ Below w.heap.size w w' := by
  have o0 := Own.new w m.cs 26
  have b0 := new_below w (.cells m.cs 26)
  unfold MoP.cs at *
  obtain ⟨B, HB⟩ : ∃ B, Hid (thr m.tys.length x = B) := ⟨_, rfl⟩
  rw [HB.out]
  generalize m.tys.length = n at *
  generalize m.txs.length = n2 at *
  generalize m.fns.length = n3 at *
  clear hm
  by_cases hx : x < 16
  · have hb : B = (decide (1 ≤ x) && decide (x ≤ 5)) := by rw [← HB.out]; unfold thr; rw [if_pos hx]
    clear HB
    by_cases hx1 : 1 ≤ x
    · rw [decide_eq_true hx1, Bool.true_and] at hb
      subst hb
      go_enter Try.func38, Try.ntmps38
      go_upto_region 1 with fail
      generalize w.alloc _ = w1 at *
      go_wp2
      go_ret
      exact ⟨rfl, b0⟩
    · rw [decide_eq_false hx1, Bool.false_and] at hb
      subst hb
      go_enter Try.func38, Try.ntmps38
      go_upto_region 1 with fail
      generalize w.alloc _ = w1 at *
      go_wp2
      go_ret
      exact ⟨rfl, b0⟩
  · have hb : B = decide (x - 16 < (n : Int)) := by rw [← HB.out]; unfold thr; rw [if_neg hx]
    subst hb
    clear HB
    obtain ⟨x0, x1, x2, xf⟩ := own3 o0
    go_enter Try.func38, Try.ntmps38
    go_upto_region 1 with fail
    generalize w.alloc _ = w1 at *
    go_wp2
    go_ret
    exact ⟨rfl, b0⟩
set_option maxHeartbeats 2000000 in
set_option maxRecDepth 100000 in
theorem areThere_as {w : World} (m : MoP) (hm : m.tys.length ≤ 100000) {a : Option Addr} {n c : Nat} {xs : List Int} (hr : RowAt w a 1 xs.length (inF xs)) (hn : n = xs.length) (hmx : n ≤ 100000) (hx : ∀ y ∈ xs, N64 y) :
    Calls Try.prog 39 #[.slice a n c, .agg m.cs] w fun e w' => e = .returned (.bool (xs.all (thr m.tys.length))) ∧ Below w.heap.size w w' := by
  have o0 := Own.new w m.cs 26
  have b0 := new_below w (.cells m.cs 26)
  have HR : Hid (∀ W, Below w.heap.size w W → RowAt W a 1 xs.length (inF xs)) := fun W h => hr.below h
  have HT : Hid (∀ W y, N64 y → Calls Try.prog 38 #[.int .i64 y, .agg m.cs] W fun e w' => e = .returned (.bool (thr m.tys.length y)) ∧ Below W.heap.size W w') := fun W y h => isThere_as m hm y h.1 h.2
  have HX : Hid (∀ y ∈ xs, N64 y) := hx
  have HN : Hid (n = xs.length) := hn
  have HM : Hid (n ≤ 100000) := hmx
  obtain ⟨B, HB⟩ : ∃ B, Hid (xs.all (thr m.tys.length) = B) := ⟨_, rfl⟩
  rw [HB.out]
  unfold MoP.cs at *
  generalize m.tys.length = n1 at *
  generalize m.txs.length = n2 at *
  generalize m.fns.length = n3 at *
  clear hm hr hn hmx hx
  go_enter Try.func39, Try.ntmps39
  go_upto_region 1 with fail
  have REL : Hid (Own (w.alloc (.cells #[.slice m.ta n1 m.tc, .slice m.sa n2 m.sc, .slice m.fa n3 m.fc] 26)) w.heap.size #[.slice m.ta n1 m.tc, .slice m.sa n2 m.sc, .slice m.fa n3 m.fc] 26 ∧ Below w.heap.size w (w.alloc (.cells #[.slice m.ta n1 m.tc, .slice m.sa n2 m.sc, .slice m.fa n3 m.fc] 26))) := ⟨o0, b0⟩
  clear o0 b0
  generalize w.alloc _ = w1 at *
  go_wp2_with fail
  go_loopw [9] (fun i wr => ∃ k : Nat, k ≤ n ∧ i = .int .i64 (k : Int) ∧ (∀ j, j < k → thr n1 (xs.getD j 0) = true) ∧ Own wr w.heap.size #[.slice m.ta n1 m.tc, .slice m.sa n2 m.sc, .slice m.fa n3 m.fc] 26 ∧ Below w.heap.size w wr) (fun i _ => n - (intOf i).toNat)
  case atStart => exact ⟨0, Nat.zero_le _, rfl, fun j hj => by omega, REL.out⟩
  case round =>
    clear REL
    obtain ⟨k, hk, rfl, hpre, ho, hb⟩ := hrel
    have HP : Hid (∀ j, j < k → thr n1 (xs.getD j 0) = true) := hpre
    clear hpre
    by_cases hlt : k < n
    · have hka : k < xs.length := by rw [← HN.out]; exact hlt
      obtain ⟨b, off, rfl, hc⟩ := (HR.out _ hb).at hka
      have d0 : wr.cell? ⟨b, off + k, none⟩ = some (.int .i64 (xs.getD k 0)) := by have := hc 0 (by omega); rw [Nat.mul_one] at this; exact this
      have hN := HX.out _ (getD_in (z := 0) hka)
      obtain ⟨V, HV⟩ : ∃ V, Hid (xs.getD k 0 = V) := ⟨_, rfl⟩
      rw [HV.out] at d0 hN
      have hcall := HT.out wr V hN
      obtain ⟨x0, x1, x2, xf⟩ := own3 ho
      clear hc hN
      obtain ⟨T, HTT⟩ : ∃ T, Hid (thr n1 V = T) := ⟨_, rfl⟩
      rw [HTT.out] at hcall
      go_wp2_with fail
      refine hcall.mono ?_
      rintro e w2 ⟨rfl, k2⟩
      have ho2 := ho.below k2
      have hb2 := hb.trans (k2.mono hb.size)
      clear hcall x0 x1 x2 xf ho hb d0
      cases T with
      | true =>
        have HP2 : Hid (∀ j, j < k + 1 → thr n1 (xs.getD j 0) = true) := fun j hj => by
          by_cases e : j = k
          · subst e; rw [HV.out]; exact HTT.out
          · exact HP.out j (by omega)
        have hkk : k ≤ 100000 := by have := HM.out; omega
        go_wp2
        go_roundw
        case rel => exact ⟨k + 1, hlt, by go_num, HP2.out, ho2, hb2⟩
        case measure => simp [intOf]; omega
      | false =>
        obtain rfl : false = B := by rw [← HB.out]; exact (all_false _ 0 xs k hka (by rw [HV.out]; exact HTT.out)).symm
        go_wp2
        go_ret
        exact ⟨rfl, hb2⟩
    · obtain rfl : true = B := by rw [← HB.out]; exact ((all_iff _ 0 xs).2 (fun j hj => HP.out j (by have := HN.out; omega))).symm
      clear ho
      go_wp2
      go_ret
      exact ⟨rfl, hb⟩
set_option maxHeartbeats 2000000 in
set_option maxRecDepth 100000 in
theorem fieldsThere_as {w : World} (m : MoP) (hm : m.tys.length ≤ 100000) {a : Option Addr} {n c : Nat} {xs : List Fl} (hr : RowAt w a 2 xs.length (flF xs)) (hn : n = xs.length) (hmx : n ≤ 100000) (hx : ∀ y ∈ xs, N64 y.typ) :
    Calls Try.prog 36 #[.slice a n c, .agg m.cs] w fun e w' => e = .returned (.bool (xs.all fun f => thr m.tys.length f.typ)) ∧ Below w.heap.size w w' := by
  have o0 := Own.new w m.cs 26
  have b0 := new_below w (.cells m.cs 26)
  have HR : Hid (∀ W, Below w.heap.size w W → RowAt W a 2 xs.length (flF xs)) := fun W h => hr.below h
  have HT : Hid (∀ W y, N64 y → Calls Try.prog 38 #[.int .i64 y, .agg m.cs] W fun e w' => e = .returned (.bool (thr m.tys.length y)) ∧ Below W.heap.size W w') := fun W y h => isThere_as m hm y h.1 h.2
  have HX : Hid (∀ y ∈ xs, N64 y.typ) := hx
  have HN : Hid (n = xs.length) := hn
  have HM : Hid (n ≤ 100000) := hmx
  obtain ⟨B, HB⟩ : ∃ B, Hid ((xs.all fun f => thr m.tys.length f.typ) = B) := ⟨_, rfl⟩
  rw [HB.out]
  unfold MoP.cs at *
  generalize m.tys.length = n1 at *
  generalize m.txs.length = n2 at *
  generalize m.fns.length = n3 at *
  clear hm hr hn hmx hx
  go_enter Try.func36, Try.ntmps36
  go_upto_region 1 with fail
  have REL : Hid (Own (w.alloc (.cells #[.slice m.ta n1 m.tc, .slice m.sa n2 m.sc, .slice m.fa n3 m.fc] 26)) w.heap.size #[.slice m.ta n1 m.tc, .slice m.sa n2 m.sc, .slice m.fa n3 m.fc] 26 ∧ Below w.heap.size w (w.alloc (.cells #[.slice m.ta n1 m.tc, .slice m.sa n2 m.sc, .slice m.fa n3 m.fc] 26))) := ⟨o0, b0⟩
  clear o0 b0
  generalize w.alloc _ = w1 at *
  go_wp2_with fail
  go_loopw [9] (fun i wr => ∃ k : Nat, k ≤ n ∧ i = .int .i64 (k : Int) ∧ (∀ j, j < k → thr n1 (xs.getD j zFl).typ = true) ∧ Own wr w.heap.size #[.slice m.ta n1 m.tc, .slice m.sa n2 m.sc, .slice m.fa n3 m.fc] 26 ∧ Below w.heap.size w wr) (fun i _ => n - (intOf i).toNat)
  case atStart => exact ⟨0, Nat.zero_le _, rfl, fun j hj => by omega, REL.out⟩
  case round =>
    clear REL
    obtain ⟨k, hk, rfl, hpre, ho, hb⟩ := hrel
    have HP : Hid (∀ j, j < k → thr n1 (xs.getD j zFl).typ = true) := hpre
    clear hpre
    by_cases hlt : k < n
    · have hka : k < xs.length := by rw [← HN.out]; exact hlt
      obtain ⟨f, HV⟩ : ∃ f, Hid (xs.getD k zFl = f) := ⟨_, rfl⟩
      obtain ⟨b, off, rfl, c0, c1⟩ := flCells (HR.out _ hb) hka f HV.out
      have hN : N64 f.typ := by rw [← HV.out]; exact HX.out _ (getD_in hka)
      obtain ⟨nm, ty⟩ := f
      simp only at c0 c1 hN
      have oF := Own.new wr #[.string nm, .int .i64 ty] 38
      have bF := new_below wr (.cells #[.string nm, .int .i64 ty] 38)
      have hoF := ho.below bF
      have hbF := hb.trans (bF.mono hb.size)
      clear ho hb bF
      go_upto_region 4 with fail
      clear c0 c1
      generalize wr.alloc (.cells #[.string nm, .int .i64 ty] 38) = w5 at *
      obtain ⟨y0, y1, yf⟩ := own2 oF
      obtain ⟨x0, x1, x2, xf⟩ := own3 hoF
      have hcall := HT.out w5 ty hN
      obtain ⟨T, HTT⟩ : ∃ T, Hid (thr n1 ty = T) := ⟨_, rfl⟩
      rw [HTT.out] at hcall
      clear hN
      go_wp2_with fail
      refine hcall.mono ?_
      rintro e w2 ⟨rfl, k2⟩
      have ho2 := hoF.below k2
      have hb2 := hbF.trans (k2.mono hbF.size)
      clear hcall x0 x1 x2 xf hoF hbF y0 y1 yf oF
      cases T with
      | true =>
        have HP2 : Hid (∀ j, j < k + 1 → thr n1 (xs.getD j zFl).typ = true) := fun j hj => by
          by_cases e : j = k
          · subst e; rw [HV.out]; exact HTT.out
          · exact HP.out j (by omega)
        have hkk : k ≤ 100000 := by have := HM.out; omega
        go_wp2
        go_roundw
        case rel => exact ⟨k + 1, hlt, by go_num, HP2.out, ho2, hb2⟩
        case measure => simp [intOf]; omega
      | false =>
        obtain rfl : false = B := by rw [← HB.out]; exact (all_false (fun f : Fl => thr n1 f.typ) zFl xs k hka (by rw [HV.out]; exact HTT.out)).symm
        go_wp2
        go_ret
        exact ⟨rfl, hb2⟩
    · obtain rfl : true = B := by rw [← HB.out]; exact ((all_iff (fun f : Fl => thr n1 f.typ) zFl xs).2 (fun j hj => HP.out j (by have := HN.out; omega))).symm
      clear ho
      go_wp2
      go_ret
      exact ⟨rfl, hb⟩
def tyFit (t : Ty) : Bool := decide (t.fields.length ≤ 32) && (decide (t.name.size ≤ 65536) && t.fields.all fun f => decide (f.name.size ≤ 65536))
set_option maxHeartbeats 2000000 in
set_option maxRecDepth 100000 in
theorem typeFits_as {w : World} {t : TyP} (ht : TyIn w t) (hs : t.t.fields.length ≤ 100000) :
    Calls Try.prog 27 #[.agg (tyA t)] w fun e w' => e = .returned (.bool (tyFit t.t)) ∧ Below w.heap.size w w' := by
  have o0 := Own.new w (tyA t) 36
  have b0 := new_below w (.cells (tyA t) 36)
  have HR : Hid (∀ W, Below w.heap.size w W → RowAt W t.fa 2 t.t.fields.length (flF t.t.fields)) := fun W h => ht.row.below h
  have HE : Hid (∀ y ∈ t.t.fields, y.name.size ≤ big) := fun y hy => (ht.each y hy).1
  have HNM : Hid (t.t.name.size ≤ big) := ht.name
  obtain ⟨n, hn⟩ : ∃ n, n = t.t.fields.length := ⟨_, rfl⟩
  have HN : Hid (n = t.t.fields.length) := hn
  have HM : Hid (n ≤ 100000) := by rw [hn]; exact hs
  obtain ⟨B, HB⟩ : ∃ B, Hid (tyFit t.t = B) := ⟨_, rfl⟩
  rw [HB.out]
  unfold tyA at *
  rw [← hn] at o0 b0 ⊢
  obtain ⟨NS, HNS⟩ : ∃ NS : Int, Hid ((t.t.name.size : Int) = NS) := ⟨_, rfl⟩
  clear ht hs hn
  go_enter Try.func27, Try.ntmps27
  go_upto_region 1 with fail
  generalize w.alloc _ = w1 at *
  obtain ⟨x0, x1, x2, x3, x4, xf⟩ := own5' o0
  by_cases h32 : 32 < n
  · obtain rfl : false = B := by rw [← HB.out]; unfold tyFit; rw [decide_eq_false (by rw [← HN.out]; omega)]; rfl
    clear HN HM
    go_wp2
    go_ret
    exact ⟨rfl, b0⟩
  · by_cases h6 : 65536 < NS
    · obtain rfl : false = B := by rw [← HB.out]; unfold tyFit; rw [decide_eq_false (show ¬ t.t.name.size ≤ 65536 by have := HNS.out; omega), Bool.false_and, Bool.and_false]
      have hd : decide (65536 < (t.t.name.size : Int)) = true := by rw [HNS.out]; simpa using h6
      clear HN HM
      go_wp2
      go_ret
      exact ⟨rfl, b0⟩
    · have hd : decide (65536 < (t.t.name.size : Int)) = false := by rw [HNS.out]; simpa using h6
      have HB2 : Hid ((t.t.fields.all fun f => decide (f.name.size ≤ 65536)) = B) := by
        rw [Hid, ← HB.out]; unfold tyFit
        rw [decide_eq_true (show t.t.fields.length ≤ 32 by rw [← HN.out]; omega), decide_eq_true (show t.t.name.size ≤ 65536 by have := HNS.out; omega), Bool.true_and, Bool.true_and]
      clear HB h6
      have REL : Hid (Below w.heap.size w w1) := b0
      clear b0
      go_wp2_with fail
      clear x0 x1 x2 x3 x4 xf o0 hd
      go_loopw [18] (fun i wr => ∃ k : Nat, k ≤ n ∧ i = .int .i64 (k : Int) ∧ (∀ j, j < k → decide ((t.t.fields.getD j zFl).name.size ≤ 65536) = true) ∧ Below w.heap.size w wr) (fun i _ => n - (intOf i).toNat)
      case atStart => exact ⟨0, Nat.zero_le _, rfl, fun j hj => by omega, REL.out⟩
      case round =>
        clear REL
        obtain ⟨k, hk, rfl, hpre, hb⟩ := hrel
        have HP : Hid (∀ j, j < k → decide ((t.t.fields.getD j zFl).name.size ≤ 65536) = true) := hpre
        clear hpre
        by_cases hlt : k < n
        · have hka : k < t.t.fields.length := by rw [← HN.out]; exact hlt
          obtain ⟨f, HV⟩ : ∃ f, Hid (t.t.fields.getD k zFl = f) := ⟨_, rfl⟩
          obtain ⟨b, off, hfa, c0, c1⟩ := flCells (HR.out _ hb) hka f HV.out
          obtain ⟨nm, ty⟩ := f
          simp only at c0 c1
          rw [hfa]
          have oF := Own.new wr #[.string nm, .int .i64 ty] 38
          have bF := new_below wr (.cells #[.string nm, .int .i64 ty] 38)
          have hbF := hb.trans (bF.mono hb.size)
          clear hb bF
          go_upto_region 6 with fail
          clear c0 c1
          generalize wr.alloc (.cells #[.string nm, .int .i64 ty] 38) = w5 at *
          obtain ⟨y0, y1, yf⟩ := own2 oF
          obtain ⟨NM, HNm⟩ : ∃ NM : Int, Hid ((nm.size : Int) = NM) := ⟨_, rfl⟩
          by_cases h7 : 65536 < NM
          · have hd : decide (65536 < (nm.size : Int)) = true := by rw [HNm.out]; simpa using h7
            obtain rfl : false = B := by rw [← HB2.out]; exact (all_false (fun f : Fl => decide (f.name.size ≤ 65536)) zFl _ k hka (by rw [HV.out]; exact decide_eq_false (by have := HNm.out; show ¬ nm.size ≤ 65536; omega))).symm
            clear h7
            go_wp2
            go_ret
            exact ⟨rfl, hbF⟩
          · have hd : decide (65536 < (nm.size : Int)) = false := by rw [HNm.out]; simpa using h7
            have HP2 : Hid (∀ j, j < k + 1 → decide ((t.t.fields.getD j zFl).name.size ≤ 65536) = true) := fun j hj => by
              by_cases e : j = k
              · subst e; rw [HV.out]; exact decide_eq_true (by have := HNm.out; show nm.size ≤ 65536; omega)
              · exact HP.out j (by omega)
            have hkk : k ≤ 100000 := by have := HM.out; omega
            clear h7
            go_wp2
            go_roundw
            case rel => exact ⟨k + 1, hlt, by go_num, HP2.out, hbF⟩
            case measure => simp [intOf]; omega
        · obtain rfl : true = B := by rw [← HB2.out]; exact ((all_iff (fun f : Fl => decide (f.name.size ≤ 65536)) zFl _).2 (fun j hj => HP.out j (by have := HN.out; omega))).symm
          go_wp2
          go_ret
          exact ⟨rfl, hb⟩
end Go.Proofs.Ytibcakmodkbliaa
namespace Go.Proofs.Ytibcakmodkbliaa
open Go.RowKit
set_option linter.unusedVariables false

def bare (t : Ty) : Bool := decide (t.name = ⟨#[]⟩) && decide (t.fields.length = 0)
def tyMay (n : Nat) (t : Ty) : Bool := if t.kind = 6 then (decide (t.elem = 0) && (decide (t.len = 0) && t.fields.all fun f => thr n f.typ)) else if t.kind = 7 then (bare t && (thr n t.elem && (decide (0 ≤ t.len) && decide (t.len ≤ 65536)))) else if t.kind = 8 then (bare t && (thr n t.elem && decide (t.len = 0))) else false
def tyErr (n : Nat) (t : Ty) : Nat := if tyFit t = true then (if tyMay n t = true then 0 else 130) else 3
theorem ba_ne' {a b : ByteArray} (h : ¬ a = b) : (a.toList == b.toList) = false := by rw [ba_eq]; simp [h]
theorem ba_self' (a : ByteArray) : (a.toList == a.toList) = true := by rw [ba_eq]; simp
set_option maxHeartbeats 2000000 in
set_option maxRecDepth 100000 in
theorem isBare_as {w : World} (t : TyP) : Calls Try.prog 37 #[.agg (tyA t)] w fun e w' => e = .returned (.bool (bare t.t)) ∧ Below w.heap.size w w' := by
  have o0 := Own.new w (tyA t) 36
  have b0 := new_below w (.cells (tyA t) 36)
  obtain ⟨B, HB⟩ : ∃ B, Hid (bare t.t = B) := ⟨_, rfl⟩
  rw [HB.out]
  have HB2 : Hid (B = (decide (t.t.name = ⟨#[]⟩) && decide (t.t.fields.length = 0))) := by rw [Hid, ← HB.out]; rfl
  clear HB
  unfold tyA at *
  generalize t.t.fields.length = n at *
  generalize t.t.name = nm at *
  by_cases hq : nm = ⟨#[]⟩
  · by_cases hn : n = 0
    · obtain rfl : B = true := by rw [HB2.out]; simp [hq, hn]
      subst hn hq
      clear HB2
      go_enter Try.func37, Try.ntmps37
      go_upto_region 1 with fail
      generalize w.alloc _ = w1 at *
      obtain ⟨x0, x1, x2, x3, x4, xf⟩ := own5' o0
      go_wp2
      go_ret
      exact ⟨rfl, b0⟩
    · obtain rfl : B = false := by rw [HB2.out]; simp [hn]
      subst hq
      clear HB2
      have hd : ((n : Int) == 0) = false := by simp; omega
      go_enter Try.func37, Try.ntmps37
      go_upto_region 1 with fail
      generalize w.alloc _ = w1 at *
      obtain ⟨x0, x1, x2, x3, x4, xf⟩ := own5' o0
      go_wp2
      go_ret
      exact ⟨rfl, b0⟩
  · obtain rfl : B = false := by rw [HB2.out]; simp [hq]
    clear HB2
    have hd : (nm.toList == []) = false := by
      have h := ba_ne' hq
      rwa [show (⟨#[]⟩ : ByteArray).toList = [] by rw [ByteArray.toList_eq]] at h
    go_enter Try.func37, Try.ntmps37
    go_upto_region 1 with fail
    generalize w.alloc _ = w1 at *
    obtain ⟨x0, x1, x2, x3, x4, xf⟩ := own5' o0
    go_wp2
    go_ret
    exact ⟨rfl, b0⟩
set_option maxHeartbeats 2000000 in
set_option maxRecDepth 100000 in
theorem typeMayBe_as {w : World} (m : MoP) (hm : m.tys.length ≤ 100000) {t : TyP} (ht : TyIn w t) (hs : t.t.fields.length ≤ 100000) :
    Calls Try.prog 28 #[.agg (tyA t), .agg m.cs] w fun e w' => e = .returned (.bool (tyMay m.tys.length t.t)) ∧ Below w.heap.size w w' := by
  obtain ⟨B, HB⟩ : ∃ B, Hid (tyMay m.tys.length t.t = B) := ⟨_, rfl⟩
  rw [HB.out]
  have HF : Hid (∀ W, Below w.heap.size w W → Calls Try.prog 36 #[.slice t.fa t.t.fields.length t.fc, .agg m.cs] W fun e w' => e = .returned (.bool (t.t.fields.all fun f => thr m.tys.length f.typ)) ∧ Below W.heap.size W w') := fun W hb => fieldsThere_as m hm (ht.row.below hb) rfl hs (fun y hy => (ht.each y hy).2)
  have HBA : Hid (∀ W, Calls Try.prog 37 #[.agg (tyA t)] W fun e w' => e = .returned (.bool (bare t.t)) ∧ Below W.heap.size W w') := fun W => isBare_as t
  have HTH : Hid (∀ W, Calls Try.prog 38 #[.int .i64 t.t.elem, .agg m.cs] W fun e w' => e = .returned (.bool (thr m.tys.length t.t.elem)) ∧ Below W.heap.size W w') := fun W => isThere_as m hm t.t.elem ht.elem.1 ht.elem.2
  have HB2 : Hid (B = if t.t.kind = 6 then (decide (t.t.elem = 0) && (decide (t.t.len = 0) && t.t.fields.all fun f => thr m.tys.length f.typ)) else if t.t.kind = 7 then (bare t.t && (thr m.tys.length t.t.elem && (decide (0 ≤ t.t.len) && decide (t.t.len ≤ 65536)))) else if t.t.kind = 8 then (bare t.t && (thr m.tys.length t.t.elem && decide (t.t.len = 0))) else false) := by rw [Hid, ← HB.out]; rfl
  have o0 := Own.new w (tyA t) 36
  have b0 := new_below w (.cells (tyA t) 36)
  clear HB ht hs hm
  unfold tyA MoP.cs at *
  generalize (t.t.fields.all fun f => thr m.tys.length f.typ) = AL at *
  generalize bare t.t = BA at *
  generalize thr m.tys.length t.t.elem = TH at *
  generalize t.t.fields.length = nf at *
  generalize t.t.name = nm at *
  generalize t.t.elem = E at *
  generalize t.t.len = L at *
  generalize t.t.kind = k at *
  generalize m.tys.length = n1 at *
  generalize m.txs.length = n2 at *
  generalize m.fns.length = n3 at *
  obtain ⟨KI, hKI⟩ : ∃ KI : Int, (k : Int) = KI := ⟨_, rfl⟩
  have HK : Hid ((k : Int) = KI) := hKI
  rw [hKI] at o0 b0 HBA ⊢
  clear hKI
  go_enter Try.func28, Try.ntmps28
  go_upto_region 1 with fail
  have e1 : (w.alloc (.cells #[.int .u8 KI, .string nm, .slice t.fa nf t.fc, .int .i64 E, .int .i64 L] 36)).heap.size = w.heap.size + 1 := World.size_alloc _ _
  generalize w.alloc (.cells #[.int .u8 KI, .string nm, .slice t.fa nf t.fc, .int .i64 E, .int .i64 L] 36) = w1 at *
  have om := Own.new w1 #[.slice m.ta n1 m.tc, .slice m.sa n2 m.sc, .slice m.fa n3 m.fc] 26
  have bm := new_below w1 (.cells #[.slice m.ta n1 m.tc, .slice m.sa n2 m.sc, .slice m.fa n3 m.fc] 26)
  have o2 := o0.below bm
  have b2 := b0.trans (bm.mono b0.size)
  rw [e1] at om
  clear o0 b0 bm e1
  generalize w1.alloc (.cells #[.slice m.ta n1 m.tc, .slice m.sa n2 m.sc, .slice m.fa n3 m.fc] 26) = w2 at *
  obtain ⟨x0, x1, x2, x3, x4, xf⟩ := own5' o2
  obtain ⟨m0, m1, m2, mf⟩ := own3 om
  by_cases h6 : KI = 6
  · have HB3 : Hid (B = (decide (E = 0) && (decide (L = 0) && AL))) := by have := HK.out; rw [Hid, HB2.out, if_pos (by omega)]
    subst h6
    clear HB2 HK
    by_cases hE : E = 0
    · subst hE
      by_cases hL : L = 0
      · subst hL
        obtain rfl : B = AL := by rw [HB3.out]; simp
        have hC := HF.out w2 b2
        go_wp2_with fail
        refine hC.mono ?_
        rintro e w3 ⟨rfl, k3⟩
        have b3 := b2.trans (k3.mono b2.size)
        clear hC x0 x1 x2 x3 x4 xf m0 m1 m2 mf k3
        go_wp2
        go_ret
        exact ⟨rfl, b3⟩
      · obtain rfl : B = false := by rw [HB3.out]; simp [hL]
        have hq : (L == 0) = false := by simp [hL]
        clear HB3
        go_wp2
        go_ret
        exact ⟨rfl, b2⟩
    · obtain rfl : B = false := by rw [HB3.out]; simp [hE]
      have hq : (E == 0) = false := by simp [hE]
      clear HB3
      go_wp2
      go_ret
      exact ⟨rfl, b2⟩
  · have q6 : (KI == 6) = false := by simp [h6]
    by_cases h7 : KI = 7
    · have HB3 : Hid (B = (BA && (TH && (decide (0 ≤ L) && decide (L ≤ 65536))))) := by have := HK.out; rw [Hid, HB2.out, if_neg (by omega), if_pos (by omega)]
      subst h7
      clear HB2 HK HF h6
      have hC := HBA.out w2
      go_wp2_with fail
      refine hC.mono ?_
      rintro e w3 ⟨rfl, k3⟩
      have o3 := o2.below k3
      have om3 := om.below k3
      have b3 := b2.trans (k3.mono b2.size)
      clear hC x0 x1 x2 x3 x4 xf m0 m1 m2 mf k3 o2 om b2 HBA
      obtain ⟨x0, x1, x2, x3, x4, xf⟩ := own5' o3
      obtain ⟨m0, m1, m2, mf⟩ := own3 om3
      cases BA with
      | false =>
        obtain rfl : B = false := by rw [HB3.out]; simp
        clear HB3
        go_wp2
        go_ret
        exact ⟨rfl, b3⟩
      | true =>
        have hC := HTH.out w3
        go_wp2_with fail
        refine hC.mono ?_
        rintro e w4 ⟨rfl, k4⟩
        have o4 := o3.below k4
        have b4 := b3.trans (k4.mono b3.size)
        clear hC x0 x1 x2 x3 x4 xf m0 m1 m2 mf k4 o3 om3 b3 HTH
        obtain ⟨x0, x1, x2, x3, x4, xf⟩ := own5' o4
        cases TH with
        | false =>
          obtain rfl : B = false := by rw [HB3.out]; simp
          clear HB3
          go_wp2
          go_ret
          exact ⟨rfl, b4⟩
        | true =>
          by_cases hL : 0 ≤ L
          · obtain rfl : B = decide (L ≤ 65536) := by rw [HB3.out]; simp [hL]
            clear HB3
            go_wp2
            go_ret
            exact ⟨rfl, b4⟩
          · obtain rfl : B = false := by rw [HB3.out]; simp [hL]
            clear HB3
            go_wp2
            go_ret
            exact ⟨rfl, b4⟩
    · have q7 : (KI == 7) = false := by simp [h7]
      by_cases h8 : KI = 8
      · have HB3 : Hid (B = (BA && (TH && decide (L = 0)))) := by have := HK.out; rw [Hid, HB2.out, if_neg (by omega), if_neg (by omega), if_pos (by omega)]
        subst h8
        clear HB2 HK HF h6 h7
        have hC := HBA.out w2
        go_wp2_with fail
        refine hC.mono ?_
        rintro e w3 ⟨rfl, k3⟩
        have o3 := o2.below k3
        have om3 := om.below k3
        have b3 := b2.trans (k3.mono b2.size)
        clear hC x0 x1 x2 x3 x4 xf m0 m1 m2 mf k3 o2 om b2 HBA
        obtain ⟨x0, x1, x2, x3, x4, xf⟩ := own5' o3
        obtain ⟨m0, m1, m2, mf⟩ := own3 om3
        cases BA with
        | false =>
          obtain rfl : B = false := by rw [HB3.out]; simp
          clear HB3
          go_wp2
          go_ret
          exact ⟨rfl, b3⟩
        | true =>
          have hC := HTH.out w3
          go_wp2_with fail
          refine hC.mono ?_
          rintro e w4 ⟨rfl, k4⟩
          have o4 := o3.below k4
          have b4 := b3.trans (k4.mono b3.size)
          clear hC x0 x1 x2 x3 x4 xf m0 m1 m2 mf k4 o3 om3 b3 HTH
          obtain ⟨x0, x1, x2, x3, x4, xf⟩ := own5' o4
          cases TH with
          | false =>
            obtain rfl : B = false := by rw [HB3.out]; simp
            clear HB3
            go_wp2
            go_ret
            exact ⟨rfl, b4⟩
          | true =>
            by_cases hL : L = 0
            · obtain rfl : B = true := by rw [HB3.out]; simp [hL]
              subst hL
              clear HB3
              go_wp2
              go_ret
              exact ⟨rfl, b4⟩
            · obtain rfl : B = false := by rw [HB3.out]; simp [hL]
              have hq : (L == 0) = false := by simp [hL]
              clear HB3
              go_wp2
              go_ret
              exact ⟨rfl, b4⟩
      · have q8 : (KI == 8) = false := by simp [h8]
        obtain rfl : B = false := by have := HK.out; rw [HB2.out, if_neg (by omega), if_neg (by omega), if_neg (by omega)]
        clear HB2 HK h6 h7 h8
        go_wp2
        go_ret
        exact ⟨rfl, b2⟩
set_option maxHeartbeats 2000000 in
set_option maxRecDepth 100000 in
theorem checkType_as {w : World} (m : MoP) (hm : m.tys.length ≤ 100000) {t : TyP} (ht : TyIn w t) (hs : t.t.fields.length ≤ 100000) :
    Calls Try.prog 21 #[.agg (tyA t), .agg m.cs] w fun e w' => e = .returned (.int .i64 (tyErr m.tys.length t.t : Nat)) ∧ Below w.heap.size w w' := by
  obtain ⟨R, HR⟩ : ∃ R, Hid (tyErr m.tys.length t.t = R) := ⟨_, rfl⟩
  rw [HR.out]
  have HFT : Hid (∀ W, Below w.heap.size w W → Calls Try.prog 27 #[.agg (tyA t)] W fun e w' => e = .returned (.bool (tyFit t.t)) ∧ Below W.heap.size W w') := fun W hb => typeFits_as (ht.below hb) hs
  have HMB : Hid (∀ W, Below w.heap.size w W → Calls Try.prog 28 #[.agg (tyA t), .agg m.cs] W fun e w' => e = .returned (.bool (tyMay m.tys.length t.t)) ∧ Below W.heap.size W w') := fun W hb => typeMayBe_as m hm (ht.below hb) hs
  have HR2 : Hid (R = if tyFit t.t = true then (if tyMay m.tys.length t.t = true then 0 else 130) else 3) := by rw [Hid, ← HR.out]; rfl
  clear HR ht hs hm
  have o0 := Own.new w (tyA t) 36
  have b0 := new_below w (.cells (tyA t) 36)
  unfold tyA MoP.cs at *
  generalize tyFit t.t = F1 at *
  generalize tyMay m.tys.length t.t = F2 at *
  generalize t.t.fields.length = nf at *
  generalize t.t.name = nm at *
  generalize t.t.elem = E at *
  generalize t.t.len = L at *
  generalize (t.t.kind : Int) = KI at *
  generalize m.tys.length = n1 at *
  generalize m.txs.length = n2 at *
  generalize m.fns.length = n3 at *
  go_enter Try.func21, Try.ntmps21
  go_upto_region 1 with fail
  have e1 : (w.alloc (.cells #[.int .u8 KI, .string nm, .slice t.fa nf t.fc, .int .i64 E, .int .i64 L] 36)).heap.size = w.heap.size + 1 := World.size_alloc _ _
  generalize w.alloc (.cells #[.int .u8 KI, .string nm, .slice t.fa nf t.fc, .int .i64 E, .int .i64 L] 36) = w1 at *
  have om := Own.new w1 #[.slice m.ta n1 m.tc, .slice m.sa n2 m.sc, .slice m.fa n3 m.fc] 26
  have bm := new_below w1 (.cells #[.slice m.ta n1 m.tc, .slice m.sa n2 m.sc, .slice m.fa n3 m.fc] 26)
  have o2 := o0.below bm
  have b2 := b0.trans (bm.mono b0.size)
  rw [e1] at om
  clear o0 b0 bm e1
  generalize w1.alloc (.cells #[.slice m.ta n1 m.tc, .slice m.sa n2 m.sc, .slice m.fa n3 m.fc] 26) = w2 at *
  obtain ⟨x0, x1, x2, x3, x4, xf⟩ := own5' o2
  obtain ⟨m0, m1, m2, mf⟩ := own3 om
  have hC := HFT.out w2 b2
  go_wp2_with fail
  refine hC.mono ?_
  rintro e w3 ⟨rfl, k3⟩
  have o3 := o2.below k3
  have om3 := om.below k3
  have b3 := b2.trans (k3.mono b2.size)
  clear hC x0 x1 x2 x3 x4 xf m0 m1 m2 mf k3 o2 om b2 HFT
  obtain ⟨x0, x1, x2, x3, x4, xf⟩ := own5' o3
  obtain ⟨m0, m1, m2, mf⟩ := own3 om3
  cases F1 with
  | false =>
    obtain rfl : R = 3 := HR2.out
    clear HR2
    go_wp2
    go_ret
    exact ⟨rfl, b3⟩
  | true =>
    have hC := HMB.out w3 b3
    go_wp2_with fail
    refine hC.mono ?_
    rintro e w4 ⟨rfl, k4⟩
    have b4 := b3.trans (k4.mono b3.size)
    clear hC x0 x1 x2 x3 x4 xf m0 m1 m2 mf k4 o3 om3 b3 HMB
    cases F2 with
    | false =>
      obtain rfl : R = 130 := HR2.out
      clear HR2
      go_wp2
      go_ret
      exact ⟨rfl, b4⟩
    | true =>
      obtain rfl : R = 0 := HR2.out
      clear HR2
      go_wp2
      go_ret
      exact ⟨rfl, b4⟩
end Go.Proofs.Ytibcakmodkbliaa
namespace Go.Proofs.Ytibcakmodkbliaa
open Go.RowKit
set_option linter.unusedVariables false

def EffAt (op : Nat) : Prop := ∀ (w : World) (m : MoP) (hm : MoIn w m) (hs : Small m 100000) (a b : Int) (ha : (op = 6 ∨ op = 50 ∨ (36 ≤ op ∧ op ≤ 45)) → 0 ≤ a ∧ a ≤ 65535) (hb : (36 ≤ op ∧ op ≤ 38) → 0 ≤ b ∧ b ≤ 65535) (ao : Option Addr) (n cp : Nat),
  Calls Try.prog 50 #[.agg #[.int .u8 (op : Int), .int .i64 a, .int .i64 b, .slice ao n cp], .agg m.cs] w (OutRet w (effM m op a b))
theorem ef1 : EffAt 1 := fun w m hm hs a b ha hb ao n cp => effectOf1 hm hs a b ao n cp
theorem ef2 : EffAt 2 := fun w m hm hs a b ha hb ao n cp => effectOf2 hm hs a b ao n cp
theorem ef3 : EffAt 3 := fun w m hm hs a b ha hb ao n cp => effectOf3 hm hs a b ao n cp
theorem ef4 : EffAt 4 := fun w m hm hs a b ha hb ao n cp => effectOf4 hm hs a b ao n cp
theorem ef5 : EffAt 5 := fun w m hm hs a b ha hb ao n cp => effectOf5 hm hs a b ao n cp
theorem ef6 : EffAt 6 := fun w m hm hs a b ha hb ao n cp => effectOf6 hm hs a b (ha (by omega)) ao n cp
theorem ef7 : EffAt 7 := fun w m hm hs a b ha hb ao n cp => effectOf7 hm hs a b ao n cp
theorem ef8 : EffAt 8 := fun w m hm hs a b ha hb ao n cp => effectOf8 hm hs a b ao n cp
theorem ef9 : EffAt 9 := fun w m hm hs a b ha hb ao n cp => effectOf9 hm hs a b ao n cp
theorem ef10 : EffAt 10 := fun w m hm hs a b ha hb ao n cp => effectOf10 hm hs a b ao n cp
theorem ef11 : EffAt 11 := fun w m hm hs a b ha hb ao n cp => effectOf11 hm hs a b ao n cp
theorem ef12 : EffAt 12 := fun w m hm hs a b ha hb ao n cp => effectOf12 hm hs a b ao n cp
theorem ef13 : EffAt 13 := fun w m hm hs a b ha hb ao n cp => effectOf13 hm hs a b ao n cp
theorem ef14 : EffAt 14 := fun w m hm hs a b ha hb ao n cp => effectOf14 hm hs a b ao n cp
theorem ef15 : EffAt 15 := fun w m hm hs a b ha hb ao n cp => effectOf15 hm hs a b ao n cp
theorem ef16 : EffAt 16 := fun w m hm hs a b ha hb ao n cp => effectOf16 hm hs a b ao n cp
theorem ef17 : EffAt 17 := fun w m hm hs a b ha hb ao n cp => effectOf17 hm hs a b ao n cp
theorem ef18 : EffAt 18 := fun w m hm hs a b ha hb ao n cp => effectOf18 hm hs a b ao n cp
theorem ef19 : EffAt 19 := fun w m hm hs a b ha hb ao n cp => effectOf19 hm hs a b ao n cp
theorem ef20 : EffAt 20 := fun w m hm hs a b ha hb ao n cp => effectOf20 hm hs a b ao n cp
theorem ef21 : EffAt 21 := fun w m hm hs a b ha hb ao n cp => effectOf21 hm hs a b ao n cp
theorem ef22 : EffAt 22 := fun w m hm hs a b ha hb ao n cp => effectOf22 hm hs a b ao n cp
theorem ef23 : EffAt 23 := fun w m hm hs a b ha hb ao n cp => effectOf23 hm hs a b ao n cp
theorem ef24 : EffAt 24 := fun w m hm hs a b ha hb ao n cp => effectOf24 hm hs a b ao n cp
theorem ef25 : EffAt 25 := fun w m hm hs a b ha hb ao n cp => effectOf25 hm hs a b ao n cp
theorem ef26 : EffAt 26 := fun w m hm hs a b ha hb ao n cp => effectOf26 hm hs a b ao n cp
theorem ef27 : EffAt 27 := fun w m hm hs a b ha hb ao n cp => effectOf27 hm hs a b ao n cp
theorem ef28 : EffAt 28 := fun w m hm hs a b ha hb ao n cp => effectOf28 hm hs a b ao n cp
theorem ef29 : EffAt 29 := fun w m hm hs a b ha hb ao n cp => effectOf29 hm hs a b ao n cp
theorem ef30 : EffAt 30 := fun w m hm hs a b ha hb ao n cp => effectOf30 hm hs a b ao n cp
theorem ef31 : EffAt 31 := fun w m hm hs a b ha hb ao n cp => effectOf31 hm hs a b ao n cp
theorem ef32 : EffAt 32 := fun w m hm hs a b ha hb ao n cp => effectOf32 hm hs a b ao n cp
theorem ef33 : EffAt 33 := fun w m hm hs a b ha hb ao n cp => effectOf33 hm hs a b ao n cp
theorem ef34 : EffAt 34 := fun w m hm hs a b ha hb ao n cp => effectOf34 hm hs a b ao n cp
theorem ef35 : EffAt 35 := fun w m hm hs a b ha hb ao n cp => effectOf35 hm hs a b ao n cp
theorem ef36 : EffAt 36 := fun w m hm hs a b ha hb ao n cp => effectOf36 hm hs a b (ha (by omega)) (hb (by omega)) ao n cp
theorem ef37 : EffAt 37 := fun w m hm hs a b ha hb ao n cp => effectOf37 hm hs a b (ha (by omega)) (hb (by omega)) ao n cp
theorem ef38 : EffAt 38 := fun w m hm hs a b ha hb ao n cp => effectOf38 hm hs a b (ha (by omega)) (hb (by omega)) ao n cp
theorem ef39 : EffAt 39 := fun w m hm hs a b ha hb ao n cp => effectOf39 hm hs a b (ha (by omega)) ao n cp
theorem ef40 : EffAt 40 := fun w m hm hs a b ha hb ao n cp => effectOf40 hm hs a b (ha (by omega)) ao n cp
theorem ef41 : EffAt 41 := fun w m hm hs a b ha hb ao n cp => effectOf41 hm hs a b (ha (by omega)) ao n cp
theorem ef42 : EffAt 42 := fun w m hm hs a b ha hb ao n cp => effectOf42 hm hs a b (ha (by omega)) ao n cp
theorem ef43 : EffAt 43 := fun w m hm hs a b ha hb ao n cp => effectOf43 hm hs a b (ha (by omega)) ao n cp
theorem ef44 : EffAt 44 := fun w m hm hs a b ha hb ao n cp => effectOf44 hm hs a b (ha (by omega)) ao n cp
theorem ef45 : EffAt 45 := fun w m hm hs a b ha hb ao n cp => effectOf45 hm hs a b (ha (by omega)) ao n cp
theorem ef46 : EffAt 46 := fun w m hm hs a b ha hb ao n cp => effectOf46 hm hs a b ao n cp
theorem ef47 : EffAt 47 := fun w m hm hs a b ha hb ao n cp => effectOf47 hm hs a b ao n cp
theorem ef48 : EffAt 48 := fun w m hm hs a b ha hb ao n cp => effectOf48 hm hs a b ao n cp
theorem ef49 : EffAt 49 := fun w m hm hs a b ha hb ao n cp => effectOf49 hm hs a b ao n cp
theorem ef50 : EffAt 50 := fun w m hm hs a b ha hb ao n cp => effectOf50 hm hs a b (ha (by omega)) ao n cp
theorem ef51 : EffAt 51 := fun w m hm hs a b ha hb ao n cp => effectOf51 hm hs a b ao n cp
theorem ef52 : EffAt 52 := fun w m hm hs a b ha hb ao n cp => effectOf52 hm hs a b ao n cp
theorem eff_at : ∀ op : Nat, 1 ≤ op → op ≤ 52 → EffAt op
  | 0, h, _ => absurd h (by omega)
  | 1, _, _ => ef1
  | 2, _, _ => ef2
  | 3, _, _ => ef3
  | 4, _, _ => ef4
  | 5, _, _ => ef5
  | 6, _, _ => ef6
  | 7, _, _ => ef7
  | 8, _, _ => ef8
  | 9, _, _ => ef9
  | 10, _, _ => ef10
  | 11, _, _ => ef11
  | 12, _, _ => ef12
  | 13, _, _ => ef13
  | 14, _, _ => ef14
  | 15, _, _ => ef15
  | 16, _, _ => ef16
  | 17, _, _ => ef17
  | 18, _, _ => ef18
  | 19, _, _ => ef19
  | 20, _, _ => ef20
  | 21, _, _ => ef21
  | 22, _, _ => ef22
  | 23, _, _ => ef23
  | 24, _, _ => ef24
  | 25, _, _ => ef25
  | 26, _, _ => ef26
  | 27, _, _ => ef27
  | 28, _, _ => ef28
  | 29, _, _ => ef29
  | 30, _, _ => ef30
  | 31, _, _ => ef31
  | 32, _, _ => ef32
  | 33, _, _ => ef33
  | 34, _, _ => ef34
  | 35, _, _ => ef35
  | 36, _, _ => ef36
  | 37, _, _ => ef37
  | 38, _, _ => ef38
  | 39, _, _ => ef39
  | 40, _, _ => ef40
  | 41, _, _ => ef41
  | 42, _, _ => ef42
  | 43, _, _ => ef43
  | 44, _, _ => ef44
  | 45, _, _ => ef45
  | 46, _, _ => ef46
  | 47, _, _ => ef47
  | 48, _, _ => ef48
  | 49, _, _ => ef49
  | 50, _, _ => ef50
  | 51, _, _ => ef51
  | 52, _, _ => ef52
  | n + 53, _, h => absurd h (by omega)
theorem ok_short {x : In} (h : x.ok = true) : (1 ≤ x.op ∧ x.op ≤ 52) ∧ ((x.op = 6 ∨ x.op = 50 ∨ (36 ≤ x.op ∧ x.op ≤ 45)) → 0 ≤ x.a ∧ x.a ≤ 65535) ∧ ((36 ≤ x.op ∧ x.op ≤ 38) → 0 ≤ x.b ∧ x.b ≤ 65535) := by
  unfold In.ok at h
  cases hl : lay x.op with
  | none => rw [hl] at h; cases h
  | some l =>
    rw [hl] at h
    simp only at h
    have hr := (lay_ok hl).2
    unfold Lay.has at h
    rw [Bool.and_eq_true, Bool.and_eq_true] at h
    refine ⟨hr, fun hx => ?_, fun hx => ?_⟩
    · have ha : l.a = nShort := by
        by_cases h37 : x.op = 37 ∨ x.op = 38
        · have : lay x.op = some ⟨nShort, nShort, false⟩ := by unfold lay; rw [if_neg (by omega), if_neg (by omega), if_neg (by omega), if_neg (by omega), if_pos h37]
          rw [this] at hl; cases hl; rfl
        · have : lay x.op = some ⟨nShort, nNone, false⟩ := by unfold lay; rw [if_neg (by omega), if_neg (by omega), if_neg (by omega), if_pos (by omega)]
          rw [this] at hl; cases hl; rfl
      have := h.1
      rw [ha] at this
      unfold Nm.may nShort at this
      simpa using this
    · have hb : l.b = nShort ∨ l.b = nNone := by
        by_cases h37 : x.op = 37 ∨ x.op = 38
        · have : lay x.op = some ⟨nShort, nShort, false⟩ := by unfold lay; rw [if_neg (by omega), if_neg (by omega), if_neg (by omega), if_neg (by omega), if_pos h37]
          rw [this] at hl; cases hl; exact .inl rfl
        · have : lay x.op = some ⟨nShort, nNone, false⟩ := by unfold lay; rw [if_neg (by omega), if_neg (by omega), if_neg (by omega), if_pos (by omega)]
          rw [this] at hl; cases hl; exact .inr rfl
      have := h.2.1
      rcases hb with hb | hb
      · rw [hb] at this; unfold Nm.may nShort at this; simpa using this
      · rw [hb] at this; unfold Nm.may nNone at this
        have h2 : 0 ≤ x.b ∧ x.b ≤ 0 := by simpa using this
        omega
theorem effectOf_as {w : World} {m : MoP} (hm : MoIn w m) (hs : Small m 100000) {x : In} (hk : x.ok = true) (ao : Option Addr) (n cp : Nat) :
    Calls Try.prog 50 #[insV x (.slice ao n cp), .agg m.cs] w (OutRet w (effM m x.op x.a x.b)) := by
  obtain ⟨⟨h1, h2⟩, h3, h4⟩ := ok_short hk
  exact eff_at x.op h1 h2 w m hm hs x.a x.b h3 h4 ao n cp
/-- What Takes tells: the lists, the error. -/
def takM (m : MoP) (x : In) : (List Int × List Int) × Nat := if x.ok = true then (match effM m x.op x.a x.b with | none => (([], []), 2) | some r => (r, 0)) else (([], []), 120)
def TakRet (w : World) (T : (List Int × List Int) × Nat) (e : Ending) (w' : World) : Prop := ∃ ta tc pa pc, e = .returned (.tuple #[.slice ta T.1.1.length tc, .slice pa T.1.2.length pc, .int .i64 (T.2 : Int)]) ∧ IntNew w' w.heap.size (.slice ta T.1.1.length tc) T.1.1 ∧ IntNew w' w.heap.size (.slice pa T.1.2.length pc) T.1.2 ∧ Below w.heap.size w w'
set_option maxHeartbeats 2000000 in
set_option maxRecDepth 100000 in
theorem takes_as {w : World} {m : MoP} (hm : MoIn w m) (hs : Small m 100000) {x : In} {ao : Option Addr} {cp : Nat} (hl : InLies w x ao) (n : Nat) (hn : n = x.arms.length) (hmx : n ≤ 1000000) :
    Calls Try.prog 45 #[insV x (.slice ao n cp), .agg m.cs] w (TakRet w (takM m x)) := by
  obtain ⟨R, HR⟩ : ∃ R, Hid (takM m x = R) := ⟨_, rfl⟩
  rw [HR.out]
  have HSZ : Hid (∀ W, Below w.heap.size w W → Calls Try.prog 49 #[insV x (.slice ao n cp)] W fun e w' => e = .returned (.int .i64 x.size) ∧ Below W.heap.size W w') := fun W hb => size_as (hl.below hb) n hn hmx
  have HEF : Hid (x.ok = true → ∀ W, Below w.heap.size w W → Calls Try.prog 50 #[insV x (.slice ao n cp), .agg m.cs] W (OutRet W (effM m x.op x.a x.b))) := fun hk W hb => effectOf_as (hm.below hb) hs hk ao n cp
  have HPOS : Hid (x.ok = true ↔ 0 < x.size) := size_pos x
  clear hm hs hl hn hmx
  have ox := Own.new w #[.int .u8 (x.op : Int), .int .i64 x.a, .int .i64 x.b, .slice ao n cp] 84
  have bx := new_below w (.cells #[.int .u8 (x.op : Int), .int .i64 x.a, .int .i64 x.b, .slice ao n cp] 84)
  unfold MoP.cs at *
  go_enter Try.func45, Try.ntmps45
  go_upto_region 1 with fail
  have e1 : (w.alloc (.cells #[.int .u8 (x.op : Int), .int .i64 x.a, .int .i64 x.b, .slice ao n cp] 84)).heap.size = w.heap.size + 1 := World.size_alloc _ _
  generalize w.alloc (.cells #[.int .u8 (x.op : Int), .int .i64 x.a, .int .i64 x.b, .slice ao n cp] 84) = w1 at *
  have om := Own.new w1 #[.slice m.ta m.tys.length m.tc, .slice m.sa m.txs.length m.sc, .slice m.fa m.fns.length m.fc] 26
  have bm := new_below w1 (.cells #[.slice m.ta m.tys.length m.tc, .slice m.sa m.txs.length m.sc, .slice m.fa m.fns.length m.fc] 26)
  have ox1 := ox.below bm
  have b2 := bx.trans (bm.mono bx.size)
  rw [e1] at om
  clear ox bx bm e1
  generalize w1.alloc (.cells #[.slice m.ta m.tys.length m.tc, .slice m.sa m.txs.length m.sc, .slice m.fa m.fns.length m.fc] 26) = w2 at *
  have hC := HSZ.out w2 b2
  obtain ⟨x0, x1, x2, x3, xf⟩ := own4 ox1
  obtain ⟨SZ, hSZ⟩ : ∃ SZ : Nat, x.size = SZ := ⟨_, rfl⟩
  rw [hSZ] at hC HPOS
  go_wp2_with fail
  refine hC.mono ?_
  rintro e w3 ⟨rfl, k3⟩
  have ox3 := ox1.below k3
  have om3 := om.below k3
  have b3 := b2.trans (k3.mono b2.size)
  clear hC x0 x1 x2 x3 xf ox1 om b2 k3 hSZ HSZ
  obtain ⟨x0, x1, x2, x3, xf⟩ := own4 ox3
  obtain ⟨m0, m1, m2, mf⟩ := own3 om3
  cases hk : x.ok with
  | false =>
    obtain rfl : (([], []), 120) = R := by rw [← HR.out]; unfold takM; rw [if_neg (by rw [hk]; simp)]
    have hz : SZ = 0 := by
      have := HPOS.out
      rw [hk] at this
      simp at this
      omega
    subst hz
    clear HPOS HEF HR hk x0 x1 x2 x3 xf m0 m1 m2 mf
    go_wp2
    go_ret3
    exact ⟨_, _, _, _, rfl, IntNew.nil _ _, IntNew.nil _ _, b3⟩
  | true =>
    have hz : 0 < SZ := HPOS.out.1 hk
    have hzd : ((SZ : Int) == 0) = false := by simp; omega
    have hE := HEF.out hk w3 b3
    have HRR : Hid (R = match effM m x.op x.a x.b with | none => (([], []), 2) | some r => (r, 0)) := by rw [Hid, ← HR.out]; unfold takM; rw [if_pos hk]
    clear HPOS HEF HR hk hz
    cases hf : effM m x.op x.a x.b with
    | none =>
      rw [hf] at hE HRR
      obtain rfl : R = (([], []), 2) := HRR.out
      clear HRR hf
      go_wp2_with fail
      refine hE.mono ?_
      rintro e w4 ⟨⟨ta, tn, tc, pa, pn, pc, rfl⟩, k4⟩
      have b4 := b3.trans (k4.mono b3.size)
      have b5 := b4.alloc b4.size (.cells #[.slice ta tn tc, .slice pa pn pc] 103)
      clear hE k4 b3 x0 x1 x2 x3 xf m0 m1 m2 mf
      go_wp2
      go_ret3
      exact ⟨_, _, _, _, rfl, IntNew.nil _ _, IntNew.nil _ _, b5⟩
    | some r =>
      rw [hf] at hE HRR
      obtain rfl : R = (r, 0) := HRR.out
      clear HRR hf
      go_wp2_with fail
      refine hE.mono ?_
      rintro e w4 ⟨⟨ta, tc, pa, pc, rfl, i4, j4⟩, k4⟩
      have b4 := b3.trans (k4.mono b3.size)
      have bn := new_below w4 (.cells #[.slice ta r.1.length tc, .slice pa r.2.length pc] 103)
      have oE := Own.new w4 #[.slice ta r.1.length tc, .slice pa r.2.length pc] 103
      have b5 := b4.alloc b4.size (.cells #[.slice ta r.1.length tc, .slice pa r.2.length pc] 103)
      have i5 := (i4.mono b3.size).below bn
      have j5 := (j4.mono b3.size).below bn
      clear hE k4 b3 x0 x1 x2 x3 xf m0 m1 m2 mf i4 j4 b4 bn
      go_upto_region 6 with fail
      generalize w4.alloc (.cells #[.slice ta r.1.length tc, .slice pa r.2.length pc] 103) = w5 at *
      obtain ⟨y0, y1, yf⟩ := own2 oE
      go_quiet (fail)
      go_wp2
      go_ret3
      exact ⟨_, _, _, _, rfl, ⟨i5.row.drewN _, i5.new⟩, ⟨j5.row.drewN _, j5.new⟩, below_drawn b5 _⟩
end Go.Proofs.Ytibcakmodkbliaa
namespace Go.Proofs.Ytibcakmodkbliaa
open Go.RowKit
set_option linter.unusedVariables false

theorem allR_ok (xs : List Nat) (hb : ∀ c ∈ xs, c < 256) : ∀ (f p : Nat), ∀ x ∈ (allR xs f p).1, x.ok = true := by
  intro f
  induction f with
  | zero => intro p x hx; cases hx
  | succ f ih =>
    intro p x hx
    unfold allR at hx
    by_cases h1 : xs.length ≤ p
    · rw [if_pos h1] at hx; cases hx
    · rw [if_neg h1] at hx
      simp only at hx
      by_cases h2 : (dec xs p).2.2 ≠ 0
      · rw [if_pos h2] at hx; cases hx
      · rw [if_neg h2] at hx
        by_cases h3 : (allR xs f (dec xs p).2.1).2.2 ≠ 0
        · rw [if_pos h3] at hx; cases hx
        · rw [if_neg h3] at hx
          rcases List.mem_cons.1 hx with rfl | hx
          · cases hd : dec xs p with
            | mk X q =>
              obtain ⟨q, er⟩ := q
              rw [hd] at h2
              have h0 : er = 0 := by simpa using h2
              subst h0
              exact (dec_forth xs hb p X q hd).2.2.2.1
          · exact ih _ x hx
theorem may_in' {k : Nm} (hk : k.Ok) {n : Int} (h : k.may n = true) : -9223372036854775808 ≤ n ∧ n ≤ 9223372036854775807 := by
  have := of_decide_eq_true h
  have := hk.l64
  have := hk.h64
  omega
/-- What is an instruction has numbers in bounds. -/
theorem ok_in' {x : In} (h : x.ok = true) : x.op < 256 ∧ (-9223372036854775808 ≤ x.a ∧ x.a ≤ 9223372036854775807) ∧ (-9223372036854775808 ≤ x.b ∧ x.b ≤ 9223372036854775807) ∧ (∀ y ∈ x.arms, (-9223372036854775808 ≤ y.1 ∧ y.1 ≤ 9223372036854775807) ∧ (-9223372036854775808 ≤ y.2 ∧ y.2 ≤ 9223372036854775807)) ∧ x.arms.length ≤ 65535 := by
  unfold In.ok at h
  cases hl : lay x.op with
  | none => rw [hl] at h; cases h
  | some l =>
    rw [hl] at h
    simp only [Lay.has, Bool.and_eq_true] at h
    obtain ⟨h1, h2, h3⟩ := h
    obtain ⟨hok, ho1, ho2⟩ := lay_ok hl
    refine ⟨by omega, may_in' hok.a h1, may_in' hok.b h2, ?_⟩
    unfold Lay.hasArms at h3
    by_cases ha : l.arms = true
    · rw [if_pos ha, Bool.and_eq_true, decide_eq_true_eq, List.all_eq_true] at h3
      refine ⟨fun y hy => ?_, h3.1⟩
      have := h3.2 y hy
      rw [Bool.and_eq_true] at this
      exact ⟨may_in' (okVal _) this.1, may_in' okPlace this.2⟩
    · rw [if_neg ha] at h3
      rw [List.isEmpty_iff.1 h3]
      exact ⟨by simp, by simp⟩
def insMay (m : MoP) (lo : Int) (x : In) : Bool := if (x.op = 7 ∨ x.op = 8) ∧ lo ≤ x.a then false else decide ((takM m x).2 = 0)
def codeMay (m : MoP) (lo : Int) (code : List Nat) : Bool := decide ((allD code).2.2 = 0) && (allD code).1.all (insMay m lo)
def roFit (r : Ro) : Bool := decide (r.params.length ≤ 32) && (decide (r.results.length ≤ 8) && (decide (r.locals ≤ 256) && (decide (r.code.length ≤ 65536) && (decide (r.name.size ≤ 65536) && decide (r.stack ≤ 4096)))))
def roMay (m : MoP) (r : Ro) : Bool := r.params.all (thr m.tys.length) && (r.results.all (thr m.tys.length) && (decide ((r.params.length : Int) ≤ r.locals) && (decide (0 ≤ r.stack) && codeMay m r.locals r.code)))
def roErr (m : MoP) (r : Ro) : Nat := if roFit r = true then (if roMay m r = true then 0 else 130) else 3
set_option maxHeartbeats 2000000 in
set_option maxRecDepth 100000 in
theorem insMay_as {w : World} {m : MoP} (hm : MoIn w m) (hs : Small m 100000) {x : In} {ao : Option Addr} {cp : Nat} (hl : InLies w x ao) (n : Nat) (hn : n = x.arms.length) (hmx : n ≤ 1000000) (lo : Int) (hlo : N64 lo) :
    Calls Try.prog 43 #[insV x (.slice ao n cp), .int .i64 lo, .agg m.cs] w fun e w' => e = .returned (.bool (insMay m lo x)) ∧ Below w.heap.size w w' := by
  obtain ⟨R, HR⟩ : ∃ R, Hid (insMay m lo x = R) := ⟨_, rfl⟩
  rw [HR.out]
  have HTK : Hid (∀ W, Below w.heap.size w W → Calls Try.prog 45 #[insV x (.slice ao n cp), .agg m.cs] W (TakRet W (takM m x))) := fun W hb => takes_as (hm.below hb) hs (hl.below hb) n hn hmx
  have HR2 : Hid (R = if (x.op = 7 ∨ x.op = 8) ∧ lo ≤ x.a then false else decide ((takM m x).2 = 0)) := by rw [Hid, ← HR.out]; rfl
  clear hm hs hl hn hmx HR
  generalize takM m x = T at *
  unfold MoP.cs insV at *
  generalize m.tys.length = n1 at *
  generalize m.txs.length = n2 at *
  generalize m.fns.length = n3 at *
  generalize x.a = A at *
  obtain ⟨OP, hOP⟩ : ∃ OP : Int, (x.op : Int) = OP := ⟨_, rfl⟩
  have HOP : Hid ((x.op : Int) = OP) := hOP
  rw [hOP] at HTK ⊢
  clear hOP hlo
  have ox := Own.new w #[.int .u8 OP, .int .i64 A, .int .i64 x.b, .slice ao n cp] 84
  have bx := new_below w (.cells #[.int .u8 OP, .int .i64 A, .int .i64 x.b, .slice ao n cp] 84)
  go_enter Try.func43, Try.ntmps43
  go_upto_region 1 with fail
  have e1 : (w.alloc (.cells #[.int .u8 OP, .int .i64 A, .int .i64 x.b, .slice ao n cp] 84)).heap.size = w.heap.size + 1 := World.size_alloc _ _
  generalize w.alloc (.cells #[.int .u8 OP, .int .i64 A, .int .i64 x.b, .slice ao n cp] 84) = w1 at *
  have om := Own.new w1 #[.slice m.ta n1 m.tc, .slice m.sa n2 m.sc, .slice m.fa n3 m.fc] 26
  have bm := new_below w1 (.cells #[.slice m.ta n1 m.tc, .slice m.sa n2 m.sc, .slice m.fa n3 m.fc] 26)
  have ox1 := ox.below bm
  have b2 := bx.trans (bm.mono bx.size)
  rw [e1] at om
  clear ox bx bm e1
  generalize w1.alloc (.cells #[.slice m.ta n1 m.tc, .slice m.sa n2 m.sc, .slice m.fa n3 m.fc] 26) = w2 at *
  obtain ⟨x0, x1, x2, x3, xf⟩ := own4 ox1
  obtain ⟨m0, m1, m2, mf⟩ := own3 om
  by_cases h7 : OP = 7
  · by_cases hA : lo ≤ A
    · obtain rfl : R = false := by have := HOP.out; rw [HR2.out, if_pos ⟨by omega, hA⟩]
      subst h7
      clear HR2 HOP HTK
      go_wp2
      go_ret
      exact ⟨rfl, b2⟩
    · have HR3 : Hid (R = decide (T.2 = 0)) := by rw [Hid, HR2.out, if_neg (by omega)]
      subst h7
      clear HR2 HOP
      have hC := HTK.out w2 b2
      go_wp2_with fail
      refine hC.mono ?_
      rintro e w3 ⟨ta, tc, pa, pc, rfl, -, -, k3⟩
      have b3 := b2.trans (k3.mono b2.size)
      clear hC x0 x1 x2 x3 xf m0 m1 m2 mf k3 ox1 om b2 HTK
      obtain ⟨⟨T1, T2⟩, T3⟩ := T
      by_cases h0 : T3 = 0
      · subst h0
        obtain rfl : R = true := by rw [HR3.out]; rfl
        clear HR3
        go_wp2
        go_ret
        exact ⟨rfl, b3⟩
      · obtain rfl : R = false := by rw [HR3.out]; simp [h0]
        have hd : ((T3 : Int) == 0) = false := by simp; omega
        clear HR3
        go_wp2
        go_ret
        exact ⟨rfl, b3⟩
  · have q7 : (OP == 7) = false := by simp [h7]
    by_cases h8 : OP = 8
    · by_cases hA : lo ≤ A
      · obtain rfl : R = false := by have := HOP.out; rw [HR2.out, if_pos ⟨by omega, hA⟩]
        subst h8
        clear HR2 HOP HTK h7
        go_wp2
        go_ret
        exact ⟨rfl, b2⟩
      · have HR3 : Hid (R = decide (T.2 = 0)) := by rw [Hid, HR2.out, if_neg (by omega)]
        subst h8
        clear HR2 HOP h7
        have hC := HTK.out w2 b2
        go_wp2_with fail
        refine hC.mono ?_
        rintro e w3 ⟨ta, tc, pa, pc, rfl, -, -, k3⟩
        have b3 := b2.trans (k3.mono b2.size)
        clear hC x0 x1 x2 x3 xf m0 m1 m2 mf k3 ox1 om b2 HTK
        obtain ⟨⟨T1, T2⟩, T3⟩ := T
        by_cases h0 : T3 = 0
        · subst h0
          obtain rfl : R = true := by rw [HR3.out]; rfl
          clear HR3
          go_wp2
          go_ret
          exact ⟨rfl, b3⟩
        · obtain rfl : R = false := by rw [HR3.out]; simp [h0]
          have hd : ((T3 : Int) == 0) = false := by simp; omega
          clear HR3
          go_wp2
          go_ret
          exact ⟨rfl, b3⟩
    · have q8 : (OP == 8) = false := by simp [h8]
      have HR3 : Hid (R = decide (T.2 = 0)) := by have := HOP.out; rw [Hid, HR2.out, if_neg (by omega)]
      clear HR2 HOP h7 h8
      have hC := HTK.out w2 b2
      go_wp2_with fail
      refine hC.mono ?_
      rintro e w3 ⟨ta, tc, pa, pc, rfl, -, -, k3⟩
      have b3 := b2.trans (k3.mono b2.size)
      clear hC x0 x1 x2 x3 xf m0 m1 m2 mf k3 ox1 om b2 HTK
      obtain ⟨⟨T1, T2⟩, T3⟩ := T
      by_cases h0 : T3 = 0
      · subst h0
        obtain rfl : R = true := by rw [HR3.out]; rfl
        clear HR3
        go_wp2
        go_ret
        exact ⟨rfl, b3⟩
      · obtain rfl : R = false := by rw [HR3.out]; simp [h0]
        have hd : ((T3 : Int) == 0) = false := by simp; omega
        clear HR3
        go_wp2
        go_ret
        exact ⟨rfl, b3⟩
set_option maxHeartbeats 2000000 in
set_option maxRecDepth 100000 in
theorem funcFits_as {w : World} (r : RoP) : Calls Try.prog 29 #[.agg (roA r)] w fun e w' => e = .returned (.bool (roFit r.r)) ∧ Below w.heap.size w w' := by
  obtain ⟨R, HR⟩ : ∃ R, Hid (roFit r.r = R) := ⟨_, rfl⟩
  rw [HR.out]
  have HR2 : Hid (R = (decide ((r.r.params.length : Int) ≤ 32) && (decide ((r.r.results.length : Int) ≤ 8) && (decide (r.r.locals ≤ 256) && (decide ((r.r.code.length : Int) ≤ 65536) && (decide ((r.r.name.size : Int) ≤ 65536) && decide (r.r.stack ≤ 4096))))))) := by
    rw [Hid, ← HR.out]; unfold roFit
    congr 1
    · exact decide_eq_decide.2 (by omega)
    · congr 1
      · exact decide_eq_decide.2 (by omega)
      · congr 1
        congr 1
        · exact decide_eq_decide.2 (by omega)
        · congr 1
          exact decide_eq_decide.2 (by omega)
  have o0 := Own.new w (roA r) 41
  have b0 := new_below w (.cells (roA r) 41)
  clear HR
  unfold roA at *
  generalize r.r.params.length = n1 at *
  generalize r.r.results.length = n2 at *
  generalize r.r.code.length = n3 at *
  generalize r.r.name = nm at *
  generalize r.r.locals = L at *
  generalize r.r.stack = S at *
  go_enter Try.func29, Try.ntmps29
  go_upto_region 1 with fail
  generalize w.alloc _ = w1 at *
  obtain ⟨x0, x1, x2, x3, x4, x5, xf⟩ := own6 o0
  clear o0
  cases d0 : decide ((n1 : Int) ≤ 32) with
  | false =>
    obtain rfl : R = false := by rw [HR2.out, d0]; simp
    clear HR2
    go_wp2
    go_ret
    exact ⟨rfl, b0⟩
  | true =>
    cases d1 : decide ((n2 : Int) ≤ 8) with
    | false =>
      obtain rfl : R = false := by rw [HR2.out, d1]; simp
      clear HR2
      go_wp2
      go_ret
      exact ⟨rfl, b0⟩
    | true =>
      cases d2 : decide (L ≤ 256) with
      | false =>
        obtain rfl : R = false := by rw [HR2.out, d2]; simp
        clear HR2
        go_wp2
        go_ret
        exact ⟨rfl, b0⟩
      | true =>
        cases d3 : decide ((n3 : Int) ≤ 65536) with
        | false =>
          obtain rfl : R = false := by rw [HR2.out, d3]; simp
          clear HR2
          go_wp2
          go_ret
          exact ⟨rfl, b0⟩
        | true =>
          cases d4 : decide ((nm.size : Int) ≤ 65536) with
          | false =>
            obtain rfl : R = false := by rw [HR2.out, d4]; simp
            clear HR2
            go_wp2
            go_ret
            exact ⟨rfl, b0⟩
          | true =>
            obtain rfl : R = decide (S ≤ 4096) := by rw [HR2.out, d0, d1, d2, d3, d4]; simp
            clear HR2
            go_wp2
            go_ret
            exact ⟨rfl, b0⟩
end Go.Proofs.Ytibcakmodkbliaa
namespace Go.Proofs.Ytibcakmodkbliaa
open Go.RowKit
set_option linter.unusedVariables false

theorem getD_map_fst (ps : List (In × Value)) (k : Nat) (h : k < ps.length) : (ps.map Prod.fst).getD k zI = (ps.getD k (zI, undef)).1 := by
  simp [List.getD, h]
theorem allR_len (xs : List Nat) (hb : ∀ c ∈ xs, c < 256) : ∀ (f p : Nat), (allR xs f p).1.length ≤ f := by
  intro f
  induction f with
  | zero => intro p; exact Nat.le_refl _
  | succ f ih =>
    intro p
    unfold allR
    by_cases h1 : xs.length ≤ p
    · rw [if_pos h1]; exact Nat.zero_le _
    · rw [if_neg h1]
      simp only
      by_cases h2 : (dec xs p).2.2 ≠ 0
      · rw [if_pos h2]; exact Nat.zero_le _
      · rw [if_neg h2]
        by_cases h3 : (allR xs f (dec xs p).2.1).2.2 ≠ 0
        · rw [if_pos h3]; exact Nat.zero_le _
        · rw [if_neg h3]; simp only [List.length_cons]; have := ih (dec xs p).2.1; omega
theorem infoR : (Try.prog.info? 84).map (·.size) = some 4 := by kernel_rfl
set_option maxHeartbeats 2000000 in
set_option maxRecDepth 100000 in
theorem codeMay_as {w : World} {m : MoP} (hm : MoIn w m) (hs : Small m 100000) {r : RoP} (hr : RoIn w r) (hc : r.r.code.length ≤ 100000) :
    Calls Try.prog 40 #[.agg (roA r), .agg m.cs] w fun e w' => e = .returned (.bool (codeMay m r.r.locals r.r.code)) ∧ Below w.heap.size w w' := by
  obtain ⟨R, HR⟩ : ∃ R, Hid (codeMay m r.r.locals r.r.code = R) := ⟨_, rfl⟩
  rw [HR.out]
  have HAL : Hid (∀ W, Below w.heap.size w W → Calls Try.prog 42 #[.slice r.ca r.r.code.length r.cc] W (AllRet W (allD r.r.code))) := fun W hb => all_as (hr.code.below hb) rfl (by omega)
  have HIN : Hid (∀ W x ao cp n, Below w.heap.size w W → InLies W x ao → n = x.arms.length → n ≤ 1000000 → Calls Try.prog 43 #[insV x (.slice ao n cp), .int .i64 r.r.locals, .agg m.cs] W fun e w' => e = .returned (.bool (insMay m r.r.locals x)) ∧ Below W.heap.size W w') := fun W x ao cp n hb hl hn hx => insMay_as (hm.below hb) hs hl n hn hx _ hr.locals
  have HOK : Hid (∀ x ∈ (allD r.r.code).1, x.ok = true) := allR_ok _ hr.code.1 _ _
  have HR2 : Hid (R = (decide ((allD r.r.code).2.2 = 0) && (allD r.r.code).1.all (insMay m r.r.locals))) := by rw [Hid, ← HR.out]; rfl
  have HLEN : Hid ((allD r.r.code).1.length ≤ 100000) := by
    have := allR_len r.r.code hr.code.1 r.r.code.length 0
    unfold Hid allD; omega
  clear hm hs hr hc HR
  have o0 := Own.new w (roA r) 41
  have b0 := new_below w (.cells (roA r) 41)
  unfold roA MoP.cs at *
  generalize allD r.r.code = AD at *
  generalize insMay m r.r.locals = IM at *
  generalize r.r.params.length = np at *
  generalize r.r.results.length = nr at *
  generalize r.r.code.length = nc at *
  generalize r.r.name = nm at *
  generalize r.r.locals = lo at *
  generalize r.r.stack = st at *
  generalize m.tys.length = n1 at *
  generalize m.txs.length = n2 at *
  generalize m.fns.length = n3 at *
  go_enter Try.func40, Try.ntmps40
  go_upto_region 1 with fail
  have e1 : (w.alloc (.cells #[.string nm, .slice r.pa np r.pc, .slice r.ra nr r.rc, .int .i64 lo, .int .i64 st, .slice r.ca nc r.cc] 41)).heap.size = w.heap.size + 1 := World.size_alloc _ _
  generalize w.alloc (.cells #[.string nm, .slice r.pa np r.pc, .slice r.ra nr r.rc, .int .i64 lo, .int .i64 st, .slice r.ca nc r.cc] 41) = w1 at *
  have om := Own.new w1 #[.slice m.ta n1 m.tc, .slice m.sa n2 m.sc, .slice m.fa n3 m.fc] 26
  have bm := new_below w1 (.cells #[.slice m.ta n1 m.tc, .slice m.sa n2 m.sc, .slice m.fa n3 m.fc] 26)
  have o2 := o0.below bm
  have b2 := b0.trans (bm.mono b0.size)
  rw [e1] at om
  clear o0 b0 bm e1
  generalize w1.alloc (.cells #[.slice m.ta n1 m.tc, .slice m.sa n2 m.sc, .slice m.fa n3 m.fc] 26) = w2 at *
  obtain ⟨x0, x1, x2, x3, x4, x5, xf⟩ := own6 o2
  obtain ⟨m0, m1, m2, mf⟩ := own3 om
  have hC := HAL.out w2 b2
  obtain ⟨AL, AP, AE⟩ := AD
  go_wp2_with fail
  refine hC.mono ?_
  rintro e w3 ⟨vl, vp, ps, rfl, hps, hrow, -, -, k3⟩
  have o3 := o2.below k3
  have om3 := om.below k3
  have b3 := b2.trans (k3.mono b2.size)
  clear hC x0 x1 x2 x3 x4 x5 xf m0 m1 m2 mf k3 o2 om b2 HAL
  simp only at hps HR2 HOK HLEN
  have HPS : Hid (ps.map Prod.fst = AL) := hps
  have HPL : Hid (ps.length ≤ 100000) := by have := HLEN.out; rw [← hps, List.length_map] at this; exact this
  clear hps HLEN
  by_cases h0 : AE = 0
  · subst h0
    have HR3 : Hid (R = AL.all IM) := by rw [Hid, HR2.out]; simp
    clear HR2
    obtain ⟨al, cl, rfl, -⟩ := hrow.row.shape
    obtain ⟨N, hN⟩ : ∃ N, N = ps.length := ⟨_, rfl⟩
    have HN : Hid (N = ps.length) := hN
    rw [← hN] at hrow ⊢
    clear hN
    have REL : Hid (Own w3 w.heap.size #[.string nm, .slice r.pa np r.pc, .slice r.ra nr r.rc, .int .i64 lo, .int .i64 st, .slice r.ca nc r.cc] 41 ∧ Own w3 (w.heap.size + 1) #[.slice m.ta n1 m.tc, .slice m.sa n2 m.sc, .slice m.fa n3 m.fc] 26 ∧ InsRow w3 0 (.slice al N cl) ps ∧ Below w.heap.size w w3) := ⟨o3, om3, ⟨hrow.row, fun _ _ => Nat.zero_le _, fun y hy => ⟨(hrow.arms y hy).1, fun _ _ => Nat.zero_le _⟩⟩, b3⟩
    clear o3 om3 b3 hrow
    go_upto_region 4 with fail
    go_wp2_with fail
    go_loopw [21] (fun i wr => ∃ k : Nat, k ≤ N ∧ i = .int .i64 (k : Int) ∧ (∀ j, j < k → IM (ps.getD j (zI, undef)).1 = true) ∧ Own wr w.heap.size #[.string nm, .slice r.pa np r.pc, .slice r.ra nr r.rc, .int .i64 lo, .int .i64 st, .slice r.ca nc r.cc] 41 ∧ Own wr (w.heap.size + 1) #[.slice m.ta n1 m.tc, .slice m.sa n2 m.sc, .slice m.fa n3 m.fc] 26 ∧ InsRow wr 0 (.slice al N cl) ps ∧ Below w.heap.size w wr) (fun i _ => N - (intOf i).toNat)
    case atStart => exact ⟨0, Nat.zero_le _, rfl, fun j hj => by omega, REL.out⟩
    case round =>
      clear REL
      obtain ⟨k, hk, rfl, hpre, ho, hom, hrow, hb⟩ := hrel
      have HP : Hid (∀ j, j < k → IM (ps.getD j (zI, undef)).1 = true) := hpre
      clear hpre
      by_cases hlt : k < N
      · have hka : k < ps.length := by rw [← HN.out]; exact hlt
        obtain ⟨y, HY⟩ : ∃ y, Hid (ps.getD k (zI, undef) = y) := ⟨_, rfl⟩
        have hmem : y ∈ ps := by rw [← HY.out]; exact getD_in hka
        obtain ⟨i0, i1, i2, i3⟩ := insC_get ps k hka
        rw [HY.out] at i0 i1 i2 i3
        have hxok : y.1.ok = true := HOK.out y.1 (by rw [← HPS.out]; exact List.mem_map.2 ⟨y, hmem, rfl⟩)
        obtain ⟨q1, q2, q3, q4, q5⟩ := ok_in' hxok
        obtain ⟨ao, cp, hyv, hal⟩ := rw_armLies (hrow.arms y hmem).1 q4
        have hrr := hrow.row
        rw [← HN.out] at hrr
        obtain ⟨g, cap, cur, hge, -⟩ := hrr.block (by omega)
        have c0 := hge ▸ hrr
        cases hge
        have d0 := Rw.cells hrr _ _ i0
        have d1 := Rw.cells hrr _ _ i1
        have d2 := Rw.cells hrr _ _ i2
        have d3 := Rw.cells hrr _ _ i3
        obtain ⟨x, v⟩ := y
        simp only at hyv hal q1 q2 q3 q4 q5 d0 d1 d2 d3 hxok
        subst hyv
        have oX := Own.new wr #[.int .u8 (x.op : Int), .int .i64 x.a, .int .i64 x.b, .slice ao x.arms.length cp] 84
        have bX := new_below wr (.cells #[.int .u8 (x.op : Int), .int .i64 x.a, .int .i64 x.b, .slice ao x.arms.length cp] 84)
        have hal2 := hal.below bX
        have ho2 := ho.below bX
        have hom2 := hom.below bX
        have hrow2 := hrow.below bX
        have hb2 := hb.trans (bX.mono hb.size)
        clear c0 i0 i1 i2 i3 hrr ho hom hrow hb bX hal hmem
        go_upto_region 7 with fail
        clear d0 d1 d2 d3
        generalize wr.alloc (.cells #[.int .u8 (x.op : Int), .int .i64 x.a, .int .i64 x.b, .slice ao x.arms.length cp] 84) = w5 at *
        have hC := HIN.out w5 x ao cp _ hb2 ⟨q1, q2, q3, hal2⟩ rfl (by omega)
        obtain ⟨y0, y1, y2, y3, yf⟩ := own4 oX
        obtain ⟨x0, x1, x2, x3, x4, x5, xf⟩ := own6 ho2
        obtain ⟨m0, m1, m2, mf⟩ := own3 hom2
        obtain ⟨T, HT⟩ : ∃ T, Hid (IM x = T) := ⟨_, rfl⟩
        rw [HT.out] at hC
        clear q1 q2 q3 q4 q5 hxok hal2
        go_wp2_with fail
        refine hC.mono ?_
        rintro e w6 ⟨rfl, k6⟩
        have ho6 := ho2.below k6
        have hom6 := hom2.below k6
        have hrow6 := hrow2.below k6
        have hb6 := hb2.trans (k6.mono hb2.size)
        clear hC x0 x1 x2 x3 x4 x5 xf m0 m1 m2 mf k6 ho2 hom2 hrow2 hb2 y0 y1 y2 y3 yf oX
        cases T with
        | true =>
          have HP2 : Hid (∀ j, j < k + 1 → IM (ps.getD j (zI, undef)).1 = true) := fun j hj => by
            by_cases e : j = k
            · subst e; rw [HY.out]; exact HT.out
            · exact HP.out j (by omega)
          have hkk : k ≤ 100000 := by have := HPL.out; omega
          go_wp2
          go_roundw
          case rel => exact ⟨k + 1, hlt, by go_num, HP2.out, ho6, hom6, hrow6, hb6⟩
          case measure => simp [intOf]; omega
        | false =>
          obtain rfl : false = R := by
            rw [HR3.out, ← HPS.out]
            exact (all_false IM zI (ps.map Prod.fst) k (by rw [List.length_map]; exact hka) (by rw [getD_map_fst ps k hka, HY.out]; exact HT.out)).symm
          go_wp2
          go_ret
          exact ⟨rfl, hb6⟩
      · obtain rfl : true = R := by
          rw [HR3.out, ← HPS.out]
          exact ((all_iff IM zI (ps.map Prod.fst)).2 (fun j hj => by rw [List.length_map] at hj; rw [getD_map_fst ps j hj]; exact HP.out j (by have := HN.out; omega))).symm
        clear ho hom hrow
        go_wp2
        go_ret
        exact ⟨rfl, hb⟩
  · obtain rfl : R = false := by rw [HR2.out]; simp [h0]
    have hd : ((AE : Int) == 0) = false := by simp; omega
    clear HR2
    go_wp2
    go_ret
    exact ⟨rfl, b3⟩
end Go.Proofs.Ytibcakmodkbliaa
namespace Go.Proofs.Ytibcakmodkbliaa
open Go.RowKit
set_option linter.unusedVariables false

set_option maxHeartbeats 2000000 in
set_option maxRecDepth 100000 in
theorem funcMay_as {w : World} {m : MoP} (hm : MoIn w m) (hs : Small m 100000) {r : RoP} (hr : RoIn w r) (hc : r.r.params.length ≤ 100000 ∧ r.r.results.length ≤ 100000 ∧ r.r.code.length ≤ 100000) :
    Calls Try.prog 30 #[.agg (roA r), .agg m.cs] w fun e w' => e = .returned (.bool (roMay m r.r)) ∧ Below w.heap.size w w' := by
  obtain ⟨R, HR⟩ : ∃ R, Hid (roMay m r.r = R) := ⟨_, rfl⟩
  rw [HR.out]
  have H1 : Hid (∀ W, Below w.heap.size w W → Calls Try.prog 39 #[.slice r.pa r.r.params.length r.pc, .agg m.cs] W fun e w' => e = .returned (.bool (r.r.params.all (thr m.tys.length))) ∧ Below W.heap.size W w') := fun W hb => areThere_as m hs.ty (hr.params.below hb) rfl hc.1 hr.eachp
  have H2 : Hid (∀ W, Below w.heap.size w W → Calls Try.prog 39 #[.slice r.ra r.r.results.length r.rc, .agg m.cs] W fun e w' => e = .returned (.bool (r.r.results.all (thr m.tys.length))) ∧ Below W.heap.size W w') := fun W hb => areThere_as m hs.ty (hr.results.below hb) rfl hc.2.1 hr.eachr
  have H3 : Hid (∀ W, Below w.heap.size w W → Calls Try.prog 40 #[.agg (roA r), .agg m.cs] W fun e w' => e = .returned (.bool (codeMay m r.r.locals r.r.code)) ∧ Below W.heap.size W w') := fun W hb => codeMay_as (hm.below hb) hs (hr.below hb) hc.2.2
  have HR2 : Hid (R = (r.r.params.all (thr m.tys.length) && (r.r.results.all (thr m.tys.length) && (decide ((r.r.params.length : Int) ≤ r.r.locals) && (decide (0 ≤ r.r.stack) && codeMay m r.r.locals r.r.code))))) := by rw [Hid, ← HR.out]; rfl
  clear hm hs hr hc HR
  have o0 := Own.new w (roA r) 41
  have b0 := new_below w (.cells (roA r) 41)
  unfold roA MoP.cs at *
  generalize r.r.params.all (thr m.tys.length) = P1 at *
  generalize r.r.results.all (thr m.tys.length) = P2 at *
  generalize codeMay m r.r.locals r.r.code = P5 at *
  generalize r.r.params.length = np at *
  generalize r.r.results.length = nr at *
  generalize r.r.code.length = nc at *
  generalize r.r.name = nm at *
  generalize r.r.locals = lo at *
  generalize r.r.stack = st at *
  generalize m.tys.length = n1 at *
  generalize m.txs.length = n2 at *
  generalize m.fns.length = n3 at *
  go_enter Try.func30, Try.ntmps30
  go_upto_region 1 with fail
  have e1 : (w.alloc (.cells #[.string nm, .slice r.pa np r.pc, .slice r.ra nr r.rc, .int .i64 lo, .int .i64 st, .slice r.ca nc r.cc] 41)).heap.size = w.heap.size + 1 := World.size_alloc _ _
  generalize w.alloc (.cells #[.string nm, .slice r.pa np r.pc, .slice r.ra nr r.rc, .int .i64 lo, .int .i64 st, .slice r.ca nc r.cc] 41) = w1 at *
  have om := Own.new w1 #[.slice m.ta n1 m.tc, .slice m.sa n2 m.sc, .slice m.fa n3 m.fc] 26
  have bm := new_below w1 (.cells #[.slice m.ta n1 m.tc, .slice m.sa n2 m.sc, .slice m.fa n3 m.fc] 26)
  have o2 := o0.below bm
  have b2 := b0.trans (bm.mono b0.size)
  rw [e1] at om
  clear o0 b0 bm e1
  generalize w1.alloc (.cells #[.slice m.ta n1 m.tc, .slice m.sa n2 m.sc, .slice m.fa n3 m.fc] 26) = w2 at *
  obtain ⟨x0, x1, x2, x3, x4, x5, xf⟩ := own6 o2
  obtain ⟨m0, m1, m2, mf⟩ := own3 om
  have hC := H1.out w2 b2
  go_wp2_with fail
  refine hC.mono ?_
  rintro e w3 ⟨rfl, k⟩
  have o3 := o2.below k
  have om3 := om.below k
  have b3 := b2.trans (k.mono b2.size)
  clear hC x0 x1 x2 x3 x4 x5 xf m0 m1 m2 mf k o2 om b2 H1
  obtain ⟨x0, x1, x2, x3, x4, x5, xf⟩ := own6 o3
  obtain ⟨m0, m1, m2, mf⟩ := own3 om3
  cases P1 with
  | false =>
    obtain rfl : R = false := by rw [HR2.out]; simp
    clear HR2
    go_wp2
    go_ret
    exact ⟨rfl, b3⟩
  | true =>
    have hC := H2.out w3 b3
    go_wp2_with fail
    refine hC.mono ?_
    rintro e w4 ⟨rfl, k⟩
    have o4 := o3.below k
    have om4 := om3.below k
    have b4 := b3.trans (k.mono b3.size)
    clear hC x0 x1 x2 x3 x4 x5 xf m0 m1 m2 mf k o3 om3 b3 H2
    obtain ⟨x0, x1, x2, x3, x4, x5, xf⟩ := own6 o4
    obtain ⟨m0, m1, m2, mf⟩ := own3 om4
    cases P2 with
    | false =>
      obtain rfl : R = false := by rw [HR2.out]; simp
      clear HR2
      go_wp2
      go_ret
      exact ⟨rfl, b4⟩
    | true =>
      cases d3 : decide ((np : Int) ≤ lo) with
      | false =>
        obtain rfl : R = false := by rw [HR2.out, d3]; simp
        clear HR2
        go_wp2
        go_ret
        exact ⟨rfl, b4⟩
      | true =>
        cases d4 : decide (0 ≤ st) with
        | false =>
          obtain rfl : R = false := by rw [HR2.out, d3, d4]; simp
          clear HR2
          go_wp2
          go_ret
          exact ⟨rfl, b4⟩
        | true =>
          obtain rfl : R = P5 := by rw [HR2.out, d3, d4]; simp
          clear HR2
          have hC := H3.out w4 b4
          go_wp2_with fail
          refine hC.mono ?_
          rintro e w5 ⟨rfl, k⟩
          have o5 := o4.below k
          have om5 := om4.below k
          have b5 := b4.trans (k.mono b4.size)
          clear hC x0 x1 x2 x3 x4 x5 xf m0 m1 m2 mf k o4 om4 b4 H3
          obtain ⟨x0, x1, x2, x3, x4, x5, xf⟩ := own6 o5
          obtain ⟨m0, m1, m2, mf⟩ := own3 om5
          clear x0 x1 x2 x3 x4 x5 xf m0 m1 m2 mf
          go_wp2
          go_ret
          exact ⟨rfl, b5⟩
set_option maxHeartbeats 2000000 in
set_option maxRecDepth 100000 in
theorem checkFunc_as {w : World} {m : MoP} (hm : MoIn w m) (hs : Small m 100000) {r : RoP} (hr : RoIn w r) (hc : r.r.params.length ≤ 100000 ∧ r.r.results.length ≤ 100000 ∧ r.r.code.length ≤ 100000) :
    Calls Try.prog 22 #[.agg (roA r), .agg m.cs] w fun e w' => e = .returned (.int .i64 (roErr m r.r : Nat)) ∧ Below w.heap.size w w' := by
  obtain ⟨R, HR⟩ : ∃ R, Hid (roErr m r.r = R) := ⟨_, rfl⟩
  rw [HR.out]
  have HFT : Hid (∀ W, Calls Try.prog 29 #[.agg (roA r)] W fun e w' => e = .returned (.bool (roFit r.r)) ∧ Below W.heap.size W w') := fun W => funcFits_as r
  have HMB : Hid (∀ W, Below w.heap.size w W → Calls Try.prog 30 #[.agg (roA r), .agg m.cs] W fun e w' => e = .returned (.bool (roMay m r.r)) ∧ Below W.heap.size W w') := fun W hb => funcMay_as (hm.below hb) hs (hr.below hb) hc
  have HR2 : Hid (R = if roFit r.r = true then (if roMay m r.r = true then 0 else 130) else 3) := by rw [Hid, ← HR.out]; rfl
  clear HR hr hs hm hc
  have o0 := Own.new w (roA r) 41
  have b0 := new_below w (.cells (roA r) 41)
  unfold roA MoP.cs at *
  generalize roFit r.r = F1 at *
  generalize roMay m r.r = F2 at *
  generalize r.r.params.length = np at *
  generalize r.r.results.length = nr at *
  generalize r.r.code.length = nc at *
  generalize r.r.name = nm at *
  generalize r.r.locals = lo at *
  generalize r.r.stack = st at *
  generalize m.tys.length = n1 at *
  generalize m.txs.length = n2 at *
  generalize m.fns.length = n3 at *
  go_enter Try.func22, Try.ntmps22
  go_upto_region 1 with fail
  have e1 : (w.alloc (.cells #[.string nm, .slice r.pa np r.pc, .slice r.ra nr r.rc, .int .i64 lo, .int .i64 st, .slice r.ca nc r.cc] 41)).heap.size = w.heap.size + 1 := World.size_alloc _ _
  generalize w.alloc (.cells #[.string nm, .slice r.pa np r.pc, .slice r.ra nr r.rc, .int .i64 lo, .int .i64 st, .slice r.ca nc r.cc] 41) = w1 at *
  have om := Own.new w1 #[.slice m.ta n1 m.tc, .slice m.sa n2 m.sc, .slice m.fa n3 m.fc] 26
  have bm := new_below w1 (.cells #[.slice m.ta n1 m.tc, .slice m.sa n2 m.sc, .slice m.fa n3 m.fc] 26)
  have o2 := o0.below bm
  have b2 := b0.trans (bm.mono b0.size)
  rw [e1] at om
  clear o0 b0 bm e1
  generalize w1.alloc (.cells #[.slice m.ta n1 m.tc, .slice m.sa n2 m.sc, .slice m.fa n3 m.fc] 26) = w2 at *
  obtain ⟨x0, x1, x2, x3, x4, x5, xf⟩ := own6 o2
  obtain ⟨m0, m1, m2, mf⟩ := own3 om
  have hC := HFT.out w2
  go_wp2_with fail
  refine hC.mono ?_
  rintro e w3 ⟨rfl, k3⟩
  have o3 := o2.below k3
  have om3 := om.below k3
  have b3 := b2.trans (k3.mono b2.size)
  clear hC x0 x1 x2 x3 x4 x5 xf m0 m1 m2 mf k3 o2 om b2 HFT
  obtain ⟨x0, x1, x2, x3, x4, x5, xf⟩ := own6 o3
  obtain ⟨m0, m1, m2, mf⟩ := own3 om3
  cases F1 with
  | false =>
    obtain rfl : R = 3 := HR2.out
    clear HR2
    go_wp2
    go_ret
    exact ⟨rfl, b3⟩
  | true =>
    have hC := HMB.out w3 b3
    go_wp2_with fail
    refine hC.mono ?_
    rintro e w4 ⟨rfl, k4⟩
    have b4 := b3.trans (k4.mono b3.size)
    clear hC x0 x1 x2 x3 x4 x5 xf m0 m1 m2 mf k4 o3 om3 b3 HMB
    cases F2 with
    | false =>
      obtain rfl : R = 130 := HR2.out
      clear HR2
      go_wp2
      go_ret
      exact ⟨rfl, b4⟩
    | true =>
      obtain rfl : R = 0 := HR2.out
      clear HR2
      go_wp2
      go_ret
      exact ⟨rfl, b4⟩
end Go.Proofs.Ytibcakmodkbliaa
namespace Go.Proofs.Ytibcakmodkbliaa
open Go.RowKit
set_option linter.unusedVariables false

/-- The first error of a list. -/
def fE {α : Type} (f : α → Nat) : List α → Nat
  | [] => 0
  | x :: r => if f x = 0 then fE f r else f x
theorem fE_hit {α : Type} (f : α → Nat) (z : α) (e : Nat) (he : e ≠ 0) : ∀ (l : List α) (k : Nat), k < l.length → (∀ j, j < k → f (l.getD j z) = 0) → f (l.getD k z) = e → fE f l = e := by
  intro l
  induction l with
  | nil => intro k h; cases h
  | cons x r ih =>
    intro k hk hp h
    unfold fE
    cases k with
    | zero =>
      have h' : f x = e := h
      rw [h', if_neg he]
    | succ k =>
      have h0 : f x = 0 := hp 0 (by omega)
      rw [if_pos h0]
      exact ih k (by simpa using hk) (fun j hj => hp (j + 1) (by omega)) h
theorem fE_zero {α : Type} (f : α → Nat) (z : α) : ∀ (l : List α), (∀ j, j < l.length → f (l.getD j z) = 0) → fE f l = 0 := by
  intro l
  induction l with
  | nil => intro _; rfl
  | cons x r ih =>
    intro hp
    unfold fE
    have h0 : f x = 0 := hp 0 (by simp)
    rw [if_pos h0]
    exact ih (fun j hj => hp (j + 1) (by simpa using hj))
def txErr (s : ByteArray) : Nat := if 65536 < s.size then 3 else 0
def partsE (m : MoP) : Nat := if 256 < m.tys.length ∨ 32768 < m.txs.length ∨ 256 < m.fns.length then 3 else
  if fE (fun t : TyP => tyErr m.tys.length t.t) m.tys ≠ 0 then fE (fun t : TyP => tyErr m.tys.length t.t) m.tys else
  if fE txErr m.txs ≠ 0 then fE txErr m.txs else fE (fun r : RoP => roErr m r.r) m.fns
theorem txCell {w : World} {a : Option Addr} {xs : List ByteArray} (h : RowAt w a 1 xs.length (txF xs)) {i : Nat} (hi : i < xs.length) (s : ByteArray) (hs : xs.getD i ⟨#[]⟩ = s) : ∃ b off, a = some ⟨b, off, none⟩ ∧ w.cell? ⟨b, off + i, none⟩ = some (.string s) := by
  obtain ⟨b, off, e, hc⟩ := h.at hi
  subst hs
  have := hc 0 (by omega)
  rw [Nat.mul_one] at this
  exact ⟨b, off, e, this⟩
set_option maxHeartbeats 4000000 in
set_option maxRecDepth 100000 in
theorem parts_as {w : World} {m : MoP} (hm : MoIn w m) (hs : Small m 100000) :
    Calls Try.prog 14 #[.agg m.cs] w fun e w' => e = .returned (.int .i64 (partsE m : Nat)) ∧ Below w.heap.size w w' := by
  obtain ⟨R, HR⟩ : ∃ R, Hid (partsE m = R) := ⟨_, rfl⟩
  rw [HR.out]
  have HT1 : Hid (∀ W, Below w.heap.size w W → RowAt W m.ta 5 m.tys.length (tyF m.tys)) := fun W hb => hm.tyr.below hb
  have HX1 : Hid (∀ W, Below w.heap.size w W → RowAt W m.sa 1 m.txs.length (txF m.txs)) := fun W hb => hm.txr.below hb
  have HF1 : Hid (∀ W, Below w.heap.size w W → RowAt W m.fa 6 m.fns.length (roF m.fns)) := fun W hb => hm.fnr.below hb
  obtain ⟨n1, hn1⟩ : ∃ n, n = m.tys.length := ⟨_, rfl⟩
  obtain ⟨n2, hn2⟩ : ∃ n, n = m.txs.length := ⟨_, rfl⟩
  obtain ⟨n3, hn3⟩ : ∃ n, n = m.fns.length := ⟨_, rfl⟩
  have HT2 : Hid (∀ t ∈ m.tys, ∀ W, Below w.heap.size w W → Calls Try.prog 21 #[.agg (tyA t), .agg #[.slice m.ta n1 m.tc, .slice m.sa n2 m.sc, .slice m.fa n3 m.fc]] W fun e w' => e = .returned (.int .i64 (tyErr m.tys.length t.t : Nat)) ∧ Below W.heap.size W w') := fun t ht W hb => by
    rw [hn1, hn2, hn3]
    exact checkType_as m hs.ty ((hm.ty t ht).below hb) (hs.fl t ht)
  have HF2 : Hid (∀ r ∈ m.fns, ∀ W, Below w.heap.size w W → Calls Try.prog 22 #[.agg (roA r), .agg #[.slice m.ta n1 m.tc, .slice m.sa n2 m.sc, .slice m.fa n3 m.fc]] W fun e w' => e = .returned (.int .i64 (roErr m r.r : Nat)) ∧ Below W.heap.size W w') := fun r hr W hb => by
    rw [hn1, hn2, hn3]
    exact checkFunc_as (hm.below hb) hs ((hm.fn r hr).below hb) (hs.ro r hr)
  have HN1 : Hid (n1 = m.tys.length ∧ n1 ≤ 100000) := ⟨hn1, by rw [hn1]; exact hs.ty⟩
  have HN2 : Hid (n2 = m.txs.length ∧ n2 ≤ 100000) := ⟨hn2, by rw [hn2]; exact hs.tx⟩
  have HN3 : Hid (n3 = m.fns.length ∧ n3 ≤ 100000) := ⟨hn3, by rw [hn3]; exact hs.fn⟩
  have HR2 : Hid (R = if (256 < (n1 : Int) ∨ 32768 < (n2 : Int) ∨ 256 < (n3 : Int)) then 3 else if fE (fun t : TyP => tyErr m.tys.length t.t) m.tys ≠ 0 then fE (fun t : TyP => tyErr m.tys.length t.t) m.tys else
      if fE txErr m.txs ≠ 0 then fE txErr m.txs else fE (fun r : RoP => roErr m r.r) m.fns) := by
    rw [Hid, ← HR.out]; unfold partsE
    exact ite_congr (propext (by omega)) (fun _ => rfl) (fun _ => rfl)
  clear HR hm hs
  unfold MoP.cs at *
  rw [← hn1, ← hn2, ← hn3]
  have o0 := Own.new w #[.slice m.ta n1 m.tc, .slice m.sa n2 m.sc, .slice m.fa n3 m.fc] 26
  have b0 := new_below w (.cells #[.slice m.ta n1 m.tc, .slice m.sa n2 m.sc, .slice m.fa n3 m.fc] 26)
  clear hn1 hn2 hn3
  go_enter Try.func14, Try.ntmps14
  go_upto_region 1 with fail
  generalize w.alloc _ = w1 at *
  obtain ⟨m0, m1, m2, mf⟩ := own3 o0
  cases d1 : decide ((256 : Int) < n1) with
  | true =>
    obtain rfl : R = 3 := by rw [HR2.out, if_pos (.inl (of_decide_eq_true d1))]
    clear HR2
    go_wp2
    go_ret
    exact ⟨rfl, b0⟩
  | false =>
  cases d2 : decide ((32768 : Int) < n2) with
  | true =>
    obtain rfl : R = 3 := by rw [HR2.out, if_pos (.inr (.inl (of_decide_eq_true d2)))]
    clear HR2
    go_wp2
    go_ret
    exact ⟨rfl, b0⟩
  | false =>
  cases d3 : decide ((256 : Int) < n3) with
  | true =>
    obtain rfl : R = 3 := by rw [HR2.out, if_pos (.inr (.inr (of_decide_eq_true d3)))]
    clear HR2
    go_wp2
    go_ret
    exact ⟨rfl, b0⟩
  | false =>
  have HR3 : Hid (R = if fE (fun t : TyP => tyErr m.tys.length t.t) m.tys ≠ 0 then fE (fun t : TyP => tyErr m.tys.length t.t) m.tys else
      if fE txErr m.txs ≠ 0 then fE txErr m.txs else fE (fun r : RoP => roErr m r.r) m.fns) := by
    rw [Hid, HR2.out, if_neg (by have := of_decide_eq_false d1; have := of_decide_eq_false d2; have := of_decide_eq_false d3; omega)]
  clear HR2
  have REL : Hid (Own w1 w.heap.size #[.slice m.ta n1 m.tc, .slice m.sa n2 m.sc, .slice m.fa n3 m.fc] 26 ∧ Below w.heap.size w w1) := ⟨o0, b0⟩
  go_upto_region 4 with fail
  clear m0 m1 m2 mf o0 b0 d1 d2 d3
  go_wp2_with fail
  go_loopw [30] (fun i wr => ∃ k : Nat, k ≤ n1 ∧ i = .int .i64 (k : Int) ∧ (∀ j, j < k → tyErr m.tys.length (m.tys.getD j zTP).t = 0) ∧ Own wr w.heap.size #[.slice m.ta n1 m.tc, .slice m.sa n2 m.sc, .slice m.fa n3 m.fc] 26 ∧ Below w.heap.size w wr) (fun i _ => n1 - (intOf i).toNat)
  case atStart => exact ⟨0, Nat.zero_le _, rfl, fun j hj => by omega, REL.out⟩
  case round =>
    clear REL
    obtain ⟨k, hk, rfl, hpre, ho, hb⟩ := hrel
    have HP : Hid (∀ j, j < k → tyErr m.tys.length (m.tys.getD j zTP).t = 0) := hpre
    clear hpre
    by_cases hlt : k < n1
    · have hka : k < m.tys.length := by rw [← HN1.out.1]; exact hlt
      obtain ⟨t, HV⟩ : ∃ t, Hid (m.tys.getD k zTP = t) := ⟨_, rfl⟩
      have hmem : t ∈ m.tys := by rw [← HV.out]; exact getD_in hka
      obtain ⟨b, off, hta, c0, c1, c2, c3, c4⟩ := tyCells (HT1.out _ hb) hka t HV.out
      have hCC := HT2.out t hmem
      have oT := Own.new wr (tyA t) 36
      have bT := new_below wr (.cells (tyA t) 36)
      have ho2 := ho.below bT
      have hb2 := hb.trans (bT.mono hb.size)
      obtain ⟨E, HE⟩ : ∃ E, Hid (tyErr m.tys.length t.t = E) := ⟨_, rfl⟩
      rw [HE.out] at hCC
      unfold tyA at *
      rw [hta]
      have HTA : Hid (m.ta = some ⟨b, off, none⟩) := hta
      clear ho hb bT hmem hta
      go_upto_region 6 with fail
      clear c0 c1 c2 c3 c4
      generalize wr.alloc _ = w5 at *
      have hC := hCC w5 hb2
      obtain ⟨y0, y1, y2, y3, y4, yf⟩ := own5' oT
      obtain ⟨m0, m1, m2, mf⟩ := own3 ho2
      clear hCC
      go_wp2_with fail
      refine hC.mono ?_
      rintro e w6 ⟨rfl, k6⟩
      have ho6 := ho2.below k6
      have hb6 := hb2.trans (k6.mono hb2.size)
      clear hC y0 y1 y2 y3 y4 yf m0 m1 m2 mf k6 ho2 hb2 oT
      by_cases h0 : E = 0
      · subst h0
        have HP2 : Hid (∀ j, j < k + 1 → tyErr m.tys.length (m.tys.getD j zTP).t = 0) := fun j hj => by
          by_cases e : j = k
          · subst e; rw [HV.out]; exact HE.out
          · exact HP.out j (by omega)
        have hkk : k ≤ 100000 := by have := HN1.out.2; omega
        go_wp2
        rw [← HTA.out]
        go_roundw
        case rel => exact ⟨k + 1, hlt, by go_num, HP2.out, ho6, hb6⟩
        case measure => simp [intOf]; omega
      · have hfe : fE (fun t : TyP => tyErr m.tys.length t.t) m.tys = E := fE_hit _ zTP E h0 m.tys k hka HP.out (by rw [HV.out]; exact HE.out)
        obtain rfl : R = E := by rw [HR3.out, hfe, if_pos h0]
        have hd : ((R : Int) == 0) = false := by simp; omega
        clear HR3 hfe
        go_wp2
        go_ret
        exact ⟨rfl, hb6⟩
    · have hz : fE (fun t : TyP => tyErr m.tys.length t.t) m.tys = 0 := fE_zero _ zTP m.tys (fun j hj => HP.out j (by have := HN1.out.1; omega))
      have HR4 : Hid (R = if fE txErr m.txs ≠ 0 then fE txErr m.txs else fE (fun r : RoP => roErr m r.r) m.fns) := by rw [Hid, HR3.out, hz, if_neg (by simp)]
      clear HR3 hz HP
      have REL : Hid (Own wr w.heap.size #[.slice m.ta n1 m.tc, .slice m.sa n2 m.sc, .slice m.fa n3 m.fc] 26 ∧ Below w.heap.size w wr) := ⟨ho, hb⟩
      obtain ⟨m0, m1, m2, mf⟩ := own3 ho
      clear ho hb
      go_upto_region 11 with fail
      clear m0 m1 m2 mf
      go_wp2_with fail
      go_loopw [44] (fun i wr => ∃ k : Nat, k ≤ n2 ∧ i = .int .i64 (k : Int) ∧ (∀ j, j < k → txErr (m.txs.getD j ⟨#[]⟩) = 0) ∧ Own wr w.heap.size #[.slice m.ta n1 m.tc, .slice m.sa n2 m.sc, .slice m.fa n3 m.fc] 26 ∧ Below w.heap.size w wr) (fun i _ => n2 - (intOf i).toNat)
      case atStart => exact ⟨0, Nat.zero_le _, rfl, fun j hj => by omega, REL.out⟩
      case round =>
        clear REL
        obtain ⟨k, hk, rfl, hpre, ho, hb⟩ := hrel
        have HP : Hid (∀ j, j < k → txErr (m.txs.getD j ⟨#[]⟩) = 0) := hpre
        clear hpre
        by_cases hlt : k < n2
        · have hka : k < m.txs.length := by rw [← HN2.out.1]; exact hlt
          obtain ⟨t, HV⟩ : ∃ t, Hid (m.txs.getD k ⟨#[]⟩ = t) := ⟨_, rfl⟩
          obtain ⟨b, off, hta, c0⟩ := txCell (HX1.out _ hb) hka t HV.out
          rw [hta]
          have HTA : Hid (m.sa = some ⟨b, off, none⟩) := hta
          clear hta
          cases hd : decide ((65536 : Int) < t.size) with
          | true =>
            have h3 : txErr t = 3 := by unfold txErr; rw [if_pos (by have := of_decide_eq_true hd; omega)]
            have hfe : fE txErr m.txs = 3 := fE_hit _ ⟨#[]⟩ 3 (by omega) m.txs k hka HP.out (by rw [HV.out]; exact h3)
            obtain rfl : R = 3 := by rw [HR4.out, hfe, if_pos (by omega)]
            clear HR4 hfe h3 ho
            go_wp2
            go_ret
            exact ⟨rfl, hb⟩
          | false =>
            have h3 : txErr t = 0 := by unfold txErr; rw [if_neg (by have := of_decide_eq_false hd; omega)]
            have HP2 : Hid (∀ j, j < k + 1 → txErr (m.txs.getD j ⟨#[]⟩) = 0) := fun j hj => by
              by_cases e : j = k
              · subst e; rw [HV.out]; exact h3
              · exact HP.out j (by omega)
            have hkk : k ≤ 100000 := by have := HN2.out.2; omega
            clear h3
            go_wp2
            rw [← HTA.out]
            go_roundw
            case rel => exact ⟨k + 1, hlt, by go_num, HP2.out, ho, hb⟩
            case measure => simp [intOf]; omega
        · have hz : fE txErr m.txs = 0 := fE_zero _ ⟨#[]⟩ m.txs (fun j hj => HP.out j (by have := HN2.out.1; omega))
          have HR5 : Hid (R = fE (fun r : RoP => roErr m r.r) m.fns) := by rw [Hid, HR4.out, hz, if_neg (by simp)]
          clear HR4 hz HP
          have REL : Hid (Own wr w.heap.size #[.slice m.ta n1 m.tc, .slice m.sa n2 m.sc, .slice m.fa n3 m.fc] 26 ∧ Below w.heap.size w wr) := ⟨ho, hb⟩
          obtain ⟨m0, m1, m2, mf⟩ := own3 ho
          clear ho hb
          go_upto_region 17 with fail
          clear m0 m1 m2 mf
          go_wp2_with fail
          go_loopw [55] (fun i wr => ∃ k : Nat, k ≤ n3 ∧ i = .int .i64 (k : Int) ∧ (∀ j, j < k → roErr m (m.fns.getD j zRP).r = 0) ∧ Own wr w.heap.size #[.slice m.ta n1 m.tc, .slice m.sa n2 m.sc, .slice m.fa n3 m.fc] 26 ∧ Below w.heap.size w wr) (fun i _ => n3 - (intOf i).toNat)
          case atStart => exact ⟨0, Nat.zero_le _, rfl, fun j hj => by omega, REL.out⟩
          case round =>
            clear REL
            obtain ⟨k, hk, rfl, hpre, ho, hb⟩ := hrel
            have HP : Hid (∀ j, j < k → roErr m (m.fns.getD j zRP).r = 0) := hpre
            clear hpre
            by_cases hlt : k < n3
            · have hka : k < m.fns.length := by rw [← HN3.out.1]; exact hlt
              obtain ⟨t, HV⟩ : ∃ t, Hid (m.fns.getD k zRP = t) := ⟨_, rfl⟩
              have hmem : t ∈ m.fns := by rw [← HV.out]; exact getD_in hka
              obtain ⟨b, off, hta, c0, c1, c2, c3, c4, c5⟩ := roCells (HF1.out _ hb) hka t HV.out
              have hCC := HF2.out t hmem
              have oT := Own.new wr (roA t) 41
              have bT := new_below wr (.cells (roA t) 41)
              have ho2 := ho.below bT
              have hb2 := hb.trans (bT.mono hb.size)
              obtain ⟨E, HE⟩ : ∃ E, Hid (roErr m t.r = E) := ⟨_, rfl⟩
              rw [HE.out] at hCC
              unfold roA at *
              rw [hta]
              have HTA : Hid (m.fa = some ⟨b, off, none⟩) := hta
              clear ho hb bT hmem hta
              go_upto_region 19 with fail
              clear c0 c1 c2 c3 c4 c5
              generalize wr.alloc _ = w5 at *
              have hC := hCC w5 hb2
              obtain ⟨y0, y1, y2, y3, y4, y5, yf⟩ := own6 oT
              obtain ⟨m0, m1, m2, mf⟩ := own3 ho2
              clear hCC
              go_wp2_with fail
              refine hC.mono ?_
              rintro e w6 ⟨rfl, k6⟩
              have ho6 := ho2.below k6
              have hb6 := hb2.trans (k6.mono hb2.size)
              clear hC y0 y1 y2 y3 y4 y5 yf m0 m1 m2 mf k6 ho2 hb2 oT
              by_cases h0 : E = 0
              · subst h0
                have HP2 : Hid (∀ j, j < k + 1 → roErr m (m.fns.getD j zRP).r = 0) := fun j hj => by
                  by_cases e : j = k
                  · subst e; rw [HV.out]; exact HE.out
                  · exact HP.out j (by omega)
                have hkk : k ≤ 100000 := by have := HN3.out.2; omega
                go_wp2
                rw [← HTA.out]
                go_roundw
                case rel => exact ⟨k + 1, hlt, by go_num, HP2.out, ho6, hb6⟩
                case measure => simp [intOf]; omega
              · have hfe : fE (fun r : RoP => roErr m r.r) m.fns = E := fE_hit _ zRP E h0 m.fns k hka HP.out (by rw [HV.out]; exact HE.out)
                obtain rfl : R = E := by rw [HR5.out, hfe]
                have hd : ((R : Int) == 0) = false := by simp; omega
                clear HR5 hfe
                go_wp2
                go_ret
                exact ⟨rfl, hb6⟩
            · obtain rfl : R = 0 := by rw [HR5.out]; exact fE_zero _ zRP m.fns (fun j hj => HP.out j (by have := HN3.out.1; omega))
              clear HR5 HP ho
              go_wp2
              go_ret
              exact ⟨rfl, hb⟩
end Go.Proofs.Ytibcakmodkbliaa
