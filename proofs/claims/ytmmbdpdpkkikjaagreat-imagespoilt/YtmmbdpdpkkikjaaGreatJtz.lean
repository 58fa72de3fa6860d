/-
  image.Check's parts: what is there, types that may be.
  image.Check's parts: a type that may be.
  CONTRACTS of effectOf and Takes.
-/
import Derived.Test.YtmmbdpdpkkikjaaGreatJtb
import Derived.Test.YtmmbdpdpkkikjaaGreatJts
import Derived.Test.YtmmbdpdpkkikjaaGreatTk18
import Derived.Test.YtmmbdpdpkkikjaaGreatTk19
import Derived.Test.YtmmbdpdpkkikjaaGreatTk20
import Derived.Test.YtmmbdpdpkkikjaaGreatTk21
import Derived.Test.YtmmbdpdpkkikjaaGreatJwr
namespace Go.Proofs.YtmmbdpdpkkikjaaGreat
open Go.RowKit
set_option linter.unusedVariables false

/-- Is a type's number there? (n: how many types the table has.) -/
def thr (n : Nat) (x : Int) : Bool := if x < 16 then decide (1 ≤ x) && decide (x ≤ 5) else decide (x - 16 < (n : Int))
theorem all_iff {α : Type} (p : α → Bool) (z : α) (xs : List α) : xs.all p = true ↔ ∀ j, j < xs.length → p (xs.getD j z) = true := by
  rw [List.all_eq_true]
  constructor
  · intro h j hj; exact h _ (getD_in hj)
  · intro h x hx
    obtain ⟨i, hi, e⟩ := List.mem_iff_getElem.1 hx
    have := h i hi
    rw [← e]; simpa [List.getD, hi] using this
theorem all_false {α : Type} (p : α → Bool) (z : α) (xs : List α) (j : Nat) (hj : j < xs.length) (h : p (xs.getD j z) = false) : xs.all p = false := by
  cases q : xs.all p with
  | false => rfl
  | true => rw [(all_iff p z xs).1 q j hj] at h; cases h
set_option maxHeartbeats 2000000 in
set_option maxRecDepth 100000 in
theorem isThere_as {w : World} (m : MoP) (hm : m.tys.length ≤ 100000) (x : Int) (h1 : -9223372036854775808 ≤ x) (h2 : x ≤ 9223372036854775807) :
    Calls Tryz.prog 147 #[.int .i64 x, .agg m.cs] w fun e w' => e = .returned (.bool (thr m.tys.length x)) ∧ Below w.heap.size w w' := by
  have o0 := Own.new w m.cs 26
  have b0 := new_below w (.cells m.cs 26)
  unfold MoP.cs at *
  obtain ⟨B, HB⟩ : ∃ B, Hid (thr m.tys.length x = B) := ⟨_, rfl⟩
  rw [HB.out]
  generalize m.tys.length = n at *
  generalize m.txs.length = n2 at *
  generalize m.fns.length = n3 at *
  clear hm
  by_cases hx : x < 16
  · have hb : B = (decide (1 ≤ x) && decide (x ≤ 5)) := by rw [← HB.out]; unfold thr; rw [if_pos hx]
    clear HB
    by_cases hx1 : 1 ≤ x
    · rw [decide_eq_true hx1, Bool.true_and] at hb
      subst hb
      go_enter Tryz.func147, Tryz.ntmps147
      go_upto_region 1 with fail
      generalize w.alloc _ = w1 at *
      go_wp2
      go_ret
      exact ⟨rfl, b0⟩
    · rw [decide_eq_false hx1, Bool.false_and] at hb
      subst hb
      go_enter Tryz.func147, Tryz.ntmps147
      go_upto_region 1 with fail
      generalize w.alloc _ = w1 at *
      go_wp2
      go_ret
      exact ⟨rfl, b0⟩
  · have hb : B = decide (x - 16 < (n : Int)) := by rw [← HB.out]; unfold thr; rw [if_neg hx]
    subst hb
    clear HB
    obtain ⟨x0, x1, x2, xf⟩ := own3 o0
    go_enter Tryz.func147, Tryz.ntmps147
    go_upto_region 1 with fail
    generalize w.alloc _ = w1 at *
    go_wp2
    go_ret
    exact ⟨rfl, b0⟩
set_option maxHeartbeats 2000000 in
set_option maxRecDepth 100000 in
theorem areThere_as {w : World} (m : MoP) (hm : m.tys.length ≤ 100000) {a : Option Addr} {n c : Nat} {xs : List Int} (hr : RowAt w a 1 xs.length (inF xs)) (hn : n = xs.length) (hmx : n ≤ 100000) (hx : ∀ y ∈ xs, N64 y) :
    Calls Tryz.prog 148 #[.slice a n c, .agg m.cs] w fun e w' => e = .returned (.bool (xs.all (thr m.tys.length))) ∧ Below w.heap.size w w' := by
  have o0 := Own.new w m.cs 26
  have b0 := new_below w (.cells m.cs 26)
  have HR : Hid (∀ W, Below w.heap.size w W → RowAt W a 1 xs.length (inF xs)) := fun W h => hr.below h
  have HT : Hid (∀ W y, N64 y → Calls Tryz.prog 147 #[.int .i64 y, .agg m.cs] W fun e w' => e = .returned (.bool (thr m.tys.length y)) ∧ Below W.heap.size W w') := fun W y h => isThere_as m hm y h.1 h.2
  have HX : Hid (∀ y ∈ xs, N64 y) := hx
  have HN : Hid (n = xs.length) := hn
  have HM : Hid (n ≤ 100000) := hmx
  obtain ⟨B, HB⟩ : ∃ B, Hid (xs.all (thr m.tys.length) = B) := ⟨_, rfl⟩
  rw [HB.out]
  unfold MoP.cs at *
  generalize m.tys.length = n1 at *
  generalize m.txs.length = n2 at *
  generalize m.fns.length = n3 at *
  clear hm hr hn hmx hx
  go_enter Tryz.func148, Tryz.ntmps148
  go_upto_region 1 with fail
  have REL : Hid (Own (w.alloc (.cells #[.slice m.ta n1 m.tc, .slice m.sa n2 m.sc, .slice m.fa n3 m.fc] 26)) w.heap.size #[.slice m.ta n1 m.tc, .slice m.sa n2 m.sc, .slice m.fa n3 m.fc] 26 ∧ Below w.heap.size w (w.alloc (.cells #[.slice m.ta n1 m.tc, .slice m.sa n2 m.sc, .slice m.fa n3 m.fc] 26))) := ⟨o0, b0⟩
  clear o0 b0
  generalize w.alloc _ = w1 at *
  go_wp2_with fail
  go_loopw [9] (fun i wr => ∃ k : Nat, k ≤ n ∧ i = .int .i64 (k : Int) ∧ (∀ j, j < k → thr n1 (xs.getD j 0) = true) ∧ Own wr w.heap.size #[.slice m.ta n1 m.tc, .slice m.sa n2 m.sc, .slice m.fa n3 m.fc] 26 ∧ Below w.heap.size w wr) (fun i _ => n - (intOf i).toNat)
  case atStart => exact ⟨0, Nat.zero_le _, rfl, fun j hj => by omega, REL.out⟩
  case round =>
    clear REL
    obtain ⟨k, hk, rfl, hpre, ho, hb⟩ := hrel
    have HP : Hid (∀ j, j < k → thr n1 (xs.getD j 0) = true) := hpre
    clear hpre
    by_cases hlt : k < n
    · have hka : k < xs.length := by rw [← HN.out]; exact hlt
      obtain ⟨b, off, rfl, hc⟩ := (HR.out _ hb).at hka
      have d0 : wr.cell? ⟨b, off + k, none⟩ = some (.int .i64 (xs.getD k 0)) := by have := hc 0 (by omega); rw [Nat.mul_one] at this; exact this
      have hN := HX.out _ (getD_in (z := 0) hka)
      obtain ⟨V, HV⟩ : ∃ V, Hid (xs.getD k 0 = V) := ⟨_, rfl⟩
      rw [HV.out] at d0 hN
      have hcall := HT.out wr V hN
      obtain ⟨x0, x1, x2, xf⟩ := own3 ho
      clear hc hN
      obtain ⟨T, HTT⟩ : ∃ T, Hid (thr n1 V = T) := ⟨_, rfl⟩
      rw [HTT.out] at hcall
      go_wp2_with fail
      refine hcall.mono ?_
      rintro e w2 ⟨rfl, k2⟩
      have ho2 := ho.below k2
      have hb2 := hb.trans (k2.mono hb.size)
      clear hcall x0 x1 x2 xf ho hb d0
      cases T with
      | true =>
        have HP2 : Hid (∀ j, j < k + 1 → thr n1 (xs.getD j 0) = true) := fun j hj => by
          by_cases e : j = k
          · subst e; rw [HV.out]; exact HTT.out
          · exact HP.out j (by omega)
        have hkk : k ≤ 100000 := by have := HM.out; omega
        go_wp2
        go_roundw
        case rel => exact ⟨k + 1, hlt, by go_num, HP2.out, ho2, hb2⟩
        case measure => simp [intOf]; omega
      | false =>
        obtain rfl : false = B := by rw [← HB.out]; exact (all_false _ 0 xs k hka (by rw [HV.out]; exact HTT.out)).symm
        go_wp2
        go_ret
        exact ⟨rfl, hb2⟩
    · obtain rfl : true = B := by rw [← HB.out]; exact ((all_iff _ 0 xs).2 (fun j hj => HP.out j (by have := HN.out; omega))).symm
      clear ho
      go_wp2
      go_ret
      exact ⟨rfl, hb⟩
set_option maxHeartbeats 2000000 in
set_option maxRecDepth 100000 in
theorem fieldsThere_as {w : World} (m : MoP) (hm : m.tys.length ≤ 100000) {a : Option Addr} {n c : Nat} {xs : List Fl} (hr : RowAt w a 2 xs.length (flF xs)) (hn : n = xs.length) (hmx : n ≤ 100000) (hx : ∀ y ∈ xs, N64 y.typ) :
    Calls Tryz.prog 145 #[.slice a n c, .agg m.cs] w fun e w' => e = .returned (.bool (xs.all fun f => thr m.tys.length f.typ)) ∧ Below w.heap.size w w' := by
  have o0 := Own.new w m.cs 26
  have b0 := new_below w (.cells m.cs 26)
  have HR : Hid (∀ W, Below w.heap.size w W → RowAt W a 2 xs.length (flF xs)) := fun W h => hr.below h
  have HT : Hid (∀ W y, N64 y → Calls Tryz.prog 147 #[.int .i64 y, .agg m.cs] W fun e w' => e = .returned (.bool (thr m.tys.length y)) ∧ Below W.heap.size W w') := fun W y h => isThere_as m hm y h.1 h.2
  have HX : Hid (∀ y ∈ xs, N64 y.typ) := hx
  have HN : Hid (n = xs.length) := hn
  have HM : Hid (n ≤ 100000) := hmx
  obtain ⟨B, HB⟩ : ∃ B, Hid ((xs.all fun f => thr m.tys.length f.typ) = B) := ⟨_, rfl⟩
  rw [HB.out]
  unfold MoP.cs at *
  generalize m.tys.length = n1 at *
  generalize m.txs.length = n2 at *
  generalize m.fns.length = n3 at *
  clear hm hr hn hmx hx
  go_enter Tryz.func145, Tryz.ntmps145
  go_upto_region 1 with fail
  have REL : Hid (Own (w.alloc (.cells #[.slice m.ta n1 m.tc, .slice m.sa n2 m.sc, .slice m.fa n3 m.fc] 26)) w.heap.size #[.slice m.ta n1 m.tc, .slice m.sa n2 m.sc, .slice m.fa n3 m.fc] 26 ∧ Below w.heap.size w (w.alloc (.cells #[.slice m.ta n1 m.tc, .slice m.sa n2 m.sc, .slice m.fa n3 m.fc] 26))) := ⟨o0, b0⟩
  clear o0 b0
  generalize w.alloc _ = w1 at *
  go_wp2_with fail
  go_loopw [9] (fun i wr => ∃ k : Nat, k ≤ n ∧ i = .int .i64 (k : Int) ∧ (∀ j, j < k → thr n1 (xs.getD j zFl).typ = true) ∧ Own wr w.heap.size #[.slice m.ta n1 m.tc, .slice m.sa n2 m.sc, .slice m.fa n3 m.fc] 26 ∧ Below w.heap.size w wr) (fun i _ => n - (intOf i).toNat)
  case atStart => exact ⟨0, Nat.zero_le _, rfl, fun j hj => by omega, REL.out⟩
  case round =>
    clear REL
    obtain ⟨k, hk, rfl, hpre, ho, hb⟩ := hrel
    have HP : Hid (∀ j, j < k → thr n1 (xs.getD j zFl).typ = true) := hpre
    clear hpre
    by_cases hlt : k < n
    · have hka : k < xs.length := by rw [← HN.out]; exact hlt
      obtain ⟨f, HV⟩ : ∃ f, Hid (xs.getD k zFl = f) := ⟨_, rfl⟩
      obtain ⟨b, off, rfl, c0, c1⟩ := flCells (HR.out _ hb) hka f HV.out
      have hN : N64 f.typ := by rw [← HV.out]; exact HX.out _ (getD_in hka)
      obtain ⟨nm, ty⟩ := f
      simp only at c0 c1 hN
      have oF := Own.new wr #[.string nm, .int .i64 ty] 51
      have bF := new_below wr (.cells #[.string nm, .int .i64 ty] 51)
      have hoF := ho.below bF
      have hbF := hb.trans (bF.mono hb.size)
      clear ho hb bF
      go_upto_region 4 with fail
      clear c0 c1
      generalize wr.alloc (.cells #[.string nm, .int .i64 ty] 51) = w5 at *
      obtain ⟨y0, y1, yf⟩ := own2 oF
      obtain ⟨x0, x1, x2, xf⟩ := own3 hoF
      have hcall := HT.out w5 ty hN
      obtain ⟨T, HTT⟩ : ∃ T, Hid (thr n1 ty = T) := ⟨_, rfl⟩
      rw [HTT.out] at hcall
      clear hN
      go_wp2_with fail
      refine hcall.mono ?_
      rintro e w2 ⟨rfl, k2⟩
      have ho2 := hoF.below k2
      have hb2 := hbF.trans (k2.mono hbF.size)
      clear hcall x0 x1 x2 xf hoF hbF y0 y1 yf oF
      cases T with
      | true =>
        have HP2 : Hid (∀ j, j < k + 1 → thr n1 (xs.getD j zFl).typ = true) := fun j hj => by
          by_cases e : j = k
          · subst e; rw [HV.out]; exact HTT.out
          · exact HP.out j (by omega)
        have hkk : k ≤ 100000 := by have := HM.out; omega
        go_wp2
        go_roundw
        case rel => exact ⟨k + 1, hlt, by go_num, HP2.out, ho2, hb2⟩
        case measure => simp [intOf]; omega
      | false =>
        obtain rfl : false = B := by rw [← HB.out]; exact (all_false (fun f : Fl => thr n1 f.typ) zFl xs k hka (by rw [HV.out]; exact HTT.out)).symm
        go_wp2
        go_ret
        exact ⟨rfl, hb2⟩
    · obtain rfl : true = B := by rw [← HB.out]; exact ((all_iff (fun f : Fl => thr n1 f.typ) zFl xs).2 (fun j hj => HP.out j (by have := HN.out; omega))).symm
      clear ho
      go_wp2
      go_ret
      exact ⟨rfl, hb⟩
def tyFit (t : Ty) : Bool := decide (t.fields.length ≤ 32) && (decide (t.name.size ≤ 65536) && t.fields.all fun f => decide (f.name.size ≤ 65536))
set_option maxHeartbeats 2000000 in
set_option maxRecDepth 100000 in
theorem typeFits_as {w : World} {t : TyP} (ht : TyIn w t) (hs : t.t.fields.length ≤ 100000) :
    Calls Tryz.prog 118 #[.agg (tyA t)] w fun e w' => e = .returned (.bool (tyFit t.t)) ∧ Below w.heap.size w w' := by
  have o0 := Own.new w (tyA t) 49
  have b0 := new_below w (.cells (tyA t) 49)
  have HR : Hid (∀ W, Below w.heap.size w W → RowAt W t.fa 2 t.t.fields.length (flF t.t.fields)) := fun W h => ht.row.below h
  have HE : Hid (∀ y ∈ t.t.fields, y.name.size ≤ big) := fun y hy => (ht.each y hy).1
  have HNM : Hid (t.t.name.size ≤ big) := ht.name
  obtain ⟨n, hn⟩ : ∃ n, n = t.t.fields.length := ⟨_, rfl⟩
  have HN : Hid (n = t.t.fields.length) := hn
  have HM : Hid (n ≤ 100000) := by rw [hn]; exact hs
  obtain ⟨B, HB⟩ : ∃ B, Hid (tyFit t.t = B) := ⟨_, rfl⟩
  rw [HB.out]
  unfold tyA at *
  rw [← hn] at o0 b0 ⊢
  obtain ⟨NS, HNS⟩ : ∃ NS : Int, Hid ((t.t.name.size : Int) = NS) := ⟨_, rfl⟩
  clear ht hs hn
  go_enter Tryz.func118, Tryz.ntmps118
  go_upto_region 1 with fail
  generalize w.alloc _ = w1 at *
  obtain ⟨x0, x1, x2, x3, x4, xf⟩ := own5' o0
  by_cases h32 : 32 < n
  · obtain rfl : false = B := by rw [← HB.out]; unfold tyFit; rw [decide_eq_false (by rw [← HN.out]; omega)]; rfl
    clear HN HM
    go_wp2
    go_ret
    exact ⟨rfl, b0⟩
  · by_cases h6 : 65536 < NS
    · obtain rfl : false = B := by rw [← HB.out]; unfold tyFit; rw [decide_eq_false (show ¬ t.t.name.size ≤ 65536 by have := HNS.out; omega), Bool.false_and, Bool.and_false]
      have hd : decide (65536 < (t.t.name.size : Int)) = true := by rw [HNS.out]; simpa using h6
      clear HN HM
      go_wp2
      go_ret
      exact ⟨rfl, b0⟩
    · have hd : decide (65536 < (t.t.name.size : Int)) = false := by rw [HNS.out]; simpa using h6
      have HB2 : Hid ((t.t.fields.all fun f => decide (f.name.size ≤ 65536)) = B) := by
        rw [Hid, ← HB.out]; unfold tyFit
        rw [decide_eq_true (show t.t.fields.length ≤ 32 by rw [← HN.out]; omega), decide_eq_true (show t.t.name.size ≤ 65536 by have := HNS.out; omega), Bool.true_and, Bool.true_and]
      clear HB h6
      have REL : Hid (Below w.heap.size w w1) := b0
      clear b0
      go_wp2_with fail
      clear x0 x1 x2 x3 x4 xf o0 hd
      go_loopw [18] (fun i wr => ∃ k : Nat, k ≤ n ∧ i = .int .i64 (k : Int) ∧ (∀ j, j < k → decide ((t.t.fields.getD j zFl).name.size ≤ 65536) = true) ∧ Below w.heap.size w wr) (fun i _ => n - (intOf i).toNat)
      case atStart => exact ⟨0, Nat.zero_le _, rfl, fun j hj => by omega, REL.out⟩
      case round =>
        clear REL
        obtain ⟨k, hk, rfl, hpre, hb⟩ := hrel
        have HP : Hid (∀ j, j < k → decide ((t.t.fields.getD j zFl).name.size ≤ 65536) = true) := hpre
        clear hpre
        by_cases hlt : k < n
        · have hka : k < t.t.fields.length := by rw [← HN.out]; exact hlt
          obtain ⟨f, HV⟩ : ∃ f, Hid (t.t.fields.getD k zFl = f) := ⟨_, rfl⟩
          obtain ⟨b, off, hfa, c0, c1⟩ := flCells (HR.out _ hb) hka f HV.out
          obtain ⟨nm, ty⟩ := f
          simp only at c0 c1
          rw [hfa]
          have oF := Own.new wr #[.string nm, .int .i64 ty] 51
          have bF := new_below wr (.cells #[.string nm, .int .i64 ty] 51)
          have hbF := hb.trans (bF.mono hb.size)
          clear hb bF
          go_upto_region 6 with fail
          clear c0 c1
          generalize wr.alloc (.cells #[.string nm, .int .i64 ty] 51) = w5 at *
          obtain ⟨y0, y1, yf⟩ := own2 oF
          obtain ⟨NM, HNm⟩ : ∃ NM : Int, Hid ((nm.size : Int) = NM) := ⟨_, rfl⟩
          by_cases h7 : 65536 < NM
          · have hd : decide (65536 < (nm.size : Int)) = true := by rw [HNm.out]; simpa using h7
            obtain rfl : false = B := by rw [← HB2.out]; exact (all_false (fun f : Fl => decide (f.name.size ≤ 65536)) zFl _ k hka (by rw [HV.out]; exact decide_eq_false (by have := HNm.out; show ¬ nm.size ≤ 65536; omega))).symm
            clear h7
            go_wp2
            go_ret
            exact ⟨rfl, hbF⟩
          · have hd : decide (65536 < (nm.size : Int)) = false := by rw [HNm.out]; simpa using h7
            have HP2 : Hid (∀ j, j < k + 1 → decide ((t.t.fields.getD j zFl).name.size ≤ 65536) = true) := fun j hj => by
              by_cases e : j = k
              · subst e; rw [HV.out]; exact decide_eq_true (by have := HNm.out; show nm.size ≤ 65536; omega)
              · exact HP.out j (by omega)
            have hkk : k ≤ 100000 := by have := HM.out; omega
            clear h7
            go_wp2
            go_roundw
            case rel => exact ⟨k + 1, hlt, by go_num, HP2.out, hbF⟩
            case measure => simp [intOf]; omega
        · obtain rfl : true = B := by rw [← HB2.out]; exact ((all_iff (fun f : Fl => decide (f.name.size ≤ 65536)) zFl _).2 (fun j hj => HP.out j (by have := HN.out; omega))).symm
          go_wp2
          go_ret
          exact ⟨rfl, hb⟩
end Go.Proofs.YtmmbdpdpkkikjaaGreat
namespace Go.Proofs.YtmmbdpdpkkikjaaGreat
open Go.RowKit
set_option linter.unusedVariables false

def bare (t : Ty) : Bool := decide (t.name = ⟨#[]⟩) && decide (t.fields.length = 0)
def tyMay (n : Nat) (t : Ty) : Bool := if t.kind = 6 then (decide (t.elem = 0) && (decide (t.len = 0) && t.fields.all fun f => thr n f.typ)) else if t.kind = 7 then (bare t && (thr n t.elem && (decide (0 ≤ t.len) && decide (t.len ≤ 65536)))) else if t.kind = 8 then (bare t && (thr n t.elem && decide (t.len = 0))) else false
def tyErr (n : Nat) (t : Ty) : Nat := if tyFit t = true then (if tyMay n t = true then 0 else 130) else 3
theorem ba_ne' {a b : ByteArray} (h : ¬ a = b) : (a.toList == b.toList) = false := by rw [ba_eq]; simp [h]
theorem ba_self' (a : ByteArray) : (a.toList == a.toList) = true := by rw [ba_eq]; simp
set_option maxHeartbeats 2000000 in
set_option maxRecDepth 100000 in
theorem isBare_as {w : World} (t : TyP) : Calls Tryz.prog 146 #[.agg (tyA t)] w fun e w' => e = .returned (.bool (bare t.t)) ∧ Below w.heap.size w w' := by
  have o0 := Own.new w (tyA t) 49
  have b0 := new_below w (.cells (tyA t) 49)
  obtain ⟨B, HB⟩ : ∃ B, Hid (bare t.t = B) := ⟨_, rfl⟩
  rw [HB.out]
  have HB2 : Hid (B = (decide (t.t.name = ⟨#[]⟩) && decide (t.t.fields.length = 0))) := by rw [Hid, ← HB.out]; rfl
  clear HB
  unfold tyA at *
  generalize t.t.fields.length = n at *
  generalize t.t.name = nm at *
  by_cases hq : nm = ⟨#[]⟩
  · by_cases hn : n = 0
    · obtain rfl : B = true := by rw [HB2.out]; simp [hq, hn]
      subst hn hq
      clear HB2
      go_enter Tryz.func146, Tryz.ntmps146
      go_upto_region 1 with fail
      generalize w.alloc _ = w1 at *
      obtain ⟨x0, x1, x2, x3, x4, xf⟩ := own5' o0
      go_wp2
      go_ret
      exact ⟨rfl, b0⟩
    · obtain rfl : B = false := by rw [HB2.out]; simp [hn]
      subst hq
      clear HB2
      have hd : ((n : Int) == 0) = false := by simp; omega
      go_enter Tryz.func146, Tryz.ntmps146
      go_upto_region 1 with fail
      generalize w.alloc _ = w1 at *
      obtain ⟨x0, x1, x2, x3, x4, xf⟩ := own5' o0
      go_wp2
      go_ret
      exact ⟨rfl, b0⟩
  · obtain rfl : B = false := by rw [HB2.out]; simp [hq]
    clear HB2
    have hd : (nm.toList == []) = false := by
      have h := ba_ne' hq
      rwa [show (⟨#[]⟩ : ByteArray).toList = [] by rw [ByteArray.toList_eq]] at h
    go_enter Tryz.func146, Tryz.ntmps146
    go_upto_region 1 with fail
    generalize w.alloc _ = w1 at *
    obtain ⟨x0, x1, x2, x3, x4, xf⟩ := own5' o0
    go_wp2
    go_ret
    exact ⟨rfl, b0⟩
set_option maxHeartbeats 2000000 in
set_option maxRecDepth 100000 in
theorem typeMayBe_as {w : World} (m : MoP) (hm : m.tys.length ≤ 100000) {t : TyP} (ht : TyIn w t) (hs : t.t.fields.length ≤ 100000) :
    Calls Tryz.prog 119 #[.agg (tyA t), .agg m.cs] w fun e w' => e = .returned (.bool (tyMay m.tys.length t.t)) ∧ Below w.heap.size w w' := by
  obtain ⟨B, HB⟩ : ∃ B, Hid (tyMay m.tys.length t.t = B) := ⟨_, rfl⟩
  rw [HB.out]
  have HF : Hid (∀ W, Below w.heap.size w W → Calls Tryz.prog 145 #[.slice t.fa t.t.fields.length t.fc, .agg m.cs] W fun e w' => e = .returned (.bool (t.t.fields.all fun f => thr m.tys.length f.typ)) ∧ Below W.heap.size W w') := fun W hb => fieldsThere_as m hm (ht.row.below hb) rfl hs (fun y hy => (ht.each y hy).2)
  have HBA : Hid (∀ W, Calls Tryz.prog 146 #[.agg (tyA t)] W fun e w' => e = .returned (.bool (bare t.t)) ∧ Below W.heap.size W w') := fun W => isBare_as t
  have HTH : Hid (∀ W, Calls Tryz.prog 147 #[.int .i64 t.t.elem, .agg m.cs] W fun e w' => e = .returned (.bool (thr m.tys.length t.t.elem)) ∧ Below W.heap.size W w') := fun W => isThere_as m hm t.t.elem ht.elem.1 ht.elem.2
  have HB2 : Hid (B = if t.t.kind = 6 then (decide (t.t.elem = 0) && (decide (t.t.len = 0) && t.t.fields.all fun f => thr m.tys.length f.typ)) else if t.t.kind = 7 then (bare t.t && (thr m.tys.length t.t.elem && (decide (0 ≤ t.t.len) && decide (t.t.len ≤ 65536)))) else if t.t.kind = 8 then (bare t.t && (thr m.tys.length t.t.elem && decide (t.t.len = 0))) else false) := by rw [Hid, ← HB.out]; rfl
  have o0 := Own.new w (tyA t) 49
  have b0 := new_below w (.cells (tyA t) 49)
  clear HB ht hs hm
  unfold tyA MoP.cs at *
  generalize (t.t.fields.all fun f => thr m.tys.length f.typ) = AL at *
  generalize bare t.t = BA at *
  generalize thr m.tys.length t.t.elem = TH at *
  generalize t.t.fields.length = nf at *
  generalize t.t.name = nm at *
  generalize t.t.elem = E at *
  generalize t.t.len = L at *
  generalize t.t.kind = k at *
  generalize m.tys.length = n1 at *
  generalize m.txs.length = n2 at *
  generalize m.fns.length = n3 at *
  obtain ⟨KI, hKI⟩ : ∃ KI : Int, (k : Int) = KI := ⟨_, rfl⟩
  have HK : Hid ((k : Int) = KI) := hKI
  rw [hKI] at o0 b0 HBA ⊢
  clear hKI
  go_enter Tryz.func119, Tryz.ntmps119
  go_upto_region 1 with fail
  have e1 : (w.alloc (.cells #[.int .u8 KI, .string nm, .slice t.fa nf t.fc, .int .i64 E, .int .i64 L] 49)).heap.size = w.heap.size + 1 := World.size_alloc _ _
  generalize w.alloc (.cells #[.int .u8 KI, .string nm, .slice t.fa nf t.fc, .int .i64 E, .int .i64 L] 49) = w1 at *
  have om := Own.new w1 #[.slice m.ta n1 m.tc, .slice m.sa n2 m.sc, .slice m.fa n3 m.fc] 26
  have bm := new_below w1 (.cells #[.slice m.ta n1 m.tc, .slice m.sa n2 m.sc, .slice m.fa n3 m.fc] 26)
  have o2 := o0.below bm
  have b2 := b0.trans (bm.mono b0.size)
  rw [e1] at om
  clear o0 b0 bm e1
  generalize w1.alloc (.cells #[.slice m.ta n1 m.tc, .slice m.sa n2 m.sc, .slice m.fa n3 m.fc] 26) = w2 at *
  obtain ⟨x0, x1, x2, x3, x4, xf⟩ := own5' o2
  obtain ⟨m0, m1, m2, mf⟩ := own3 om
  by_cases h6 : KI = 6
  · have HB3 : Hid (B = (decide (E = 0) && (decide (L = 0) && AL))) := by have := HK.out; rw [Hid, HB2.out, if_pos (by omega)]
    subst h6
    clear HB2 HK
    by_cases hE : E = 0
    · subst hE
      by_cases hL : L = 0
      · subst hL
        obtain rfl : B = AL := by rw [HB3.out]; simp
        have hC := HF.out w2 b2
        go_wp2_with fail
        refine hC.mono ?_
        rintro e w3 ⟨rfl, k3⟩
        have b3 := b2.trans (k3.mono b2.size)
        clear hC x0 x1 x2 x3 x4 xf m0 m1 m2 mf k3
        go_wp2
        go_ret
        exact ⟨rfl, b3⟩
      · obtain rfl : B = false := by rw [HB3.out]; simp [hL]
        have hq : (L == 0) = false := by simp [hL]
        clear HB3
        go_wp2
        go_ret
        exact ⟨rfl, b2⟩
    · obtain rfl : B = false := by rw [HB3.out]; simp [hE]
      have hq : (E == 0) = false := by simp [hE]
      clear HB3
      go_wp2
      go_ret
      exact ⟨rfl, b2⟩
  · have q6 : (KI == 6) = false := by simp [h6]
    by_cases h7 : KI = 7
    · have HB3 : Hid (B = (BA && (TH && (decide (0 ≤ L) && decide (L ≤ 65536))))) := by have := HK.out; rw [Hid, HB2.out, if_neg (by omega), if_pos (by omega)]
      subst h7
      clear HB2 HK HF h6
      have hC := HBA.out w2
      go_wp2_with fail
      refine hC.mono ?_
      rintro e w3 ⟨rfl, k3⟩
      have o3 := o2.below k3
      have om3 := om.below k3
      have b3 := b2.trans (k3.mono b2.size)
      clear hC x0 x1 x2 x3 x4 xf m0 m1 m2 mf k3 o2 om b2 HBA
      obtain ⟨x0, x1, x2, x3, x4, xf⟩ := own5' o3
      obtain ⟨m0, m1, m2, mf⟩ := own3 om3
      cases BA with
      | false =>
        obtain rfl : B = false := by rw [HB3.out]; simp
        clear HB3
        go_wp2
        go_ret
        exact ⟨rfl, b3⟩
      | true =>
        have hC := HTH.out w3
        go_wp2_with fail
        refine hC.mono ?_
        rintro e w4 ⟨rfl, k4⟩
        have o4 := o3.below k4
        have b4 := b3.trans (k4.mono b3.size)
        clear hC x0 x1 x2 x3 x4 xf m0 m1 m2 mf k4 o3 om3 b3 HTH
        obtain ⟨x0, x1, x2, x3, x4, xf⟩ := own5' o4
        cases TH with
        | false =>
          obtain rfl : B = false := by rw [HB3.out]; simp
          clear HB3
          go_wp2
          go_ret
          exact ⟨rfl, b4⟩
        | true =>
          by_cases hL : 0 ≤ L
          · obtain rfl : B = decide (L ≤ 65536) := by rw [HB3.out]; simp [hL]
            clear HB3
            go_wp2
            go_ret
            exact ⟨rfl, b4⟩
          · obtain rfl : B = false := by rw [HB3.out]; simp [hL]
            clear HB3
            go_wp2
            go_ret
            exact ⟨rfl, b4⟩
    · have q7 : (KI == 7) = false := by simp [h7]
      by_cases h8 : KI = 8
      · have HB3 : Hid (B = (BA && (TH && decide (L = 0)))) := by have := HK.out; rw [Hid, HB2.out, if_neg (by omega), if_neg (by omega), if_pos (by omega)]
        subst h8
        clear HB2 HK HF h6 h7
        have hC := HBA.out w2
        go_wp2_with fail
        refine hC.mono ?_
        rintro e w3 ⟨rfl, k3⟩
        have o3 := o2.below k3
        have om3 := om.below k3
        have b3 := b2.trans (k3.mono b2.size)
        clear hC x0 x1 x2 x3 x4 xf m0 m1 m2 mf k3 o2 om b2 HBA
        obtain ⟨x0, x1, x2, x3, x4, xf⟩ := own5' o3
        obtain ⟨m0, m1, m2, mf⟩ := own3 om3
        cases BA with
        | false =>
          obtain rfl : B = false := by rw [HB3.out]; simp
          clear HB3
          go_wp2
          go_ret
          exact ⟨rfl, b3⟩
        | true =>
          have hC := HTH.out w3
          go_wp2_with fail
          refine hC.mono ?_
          rintro e w4 ⟨rfl, k4⟩
          have o4 := o3.below k4
          have b4 := b3.trans (k4.mono b3.size)
          clear hC x0 x1 x2 x3 x4 xf m0 m1 m2 mf k4 o3 om3 b3 HTH
          obtain ⟨x0, x1, x2, x3, x4, xf⟩ := own5' o4
          cases TH with
          | false =>
            obtain rfl : B = false := by rw [HB3.out]; simp
            clear HB3
            go_wp2
            go_ret
            exact ⟨rfl, b4⟩
          | true =>
            by_cases hL : L = 0
            · obtain rfl : B = true := by rw [HB3.out]; simp [hL]
              subst hL
              clear HB3
              go_wp2
              go_ret
              exact ⟨rfl, b4⟩
            · obtain rfl : B = false := by rw [HB3.out]; simp [hL]
              have hq : (L == 0) = false := by simp [hL]
              clear HB3
              go_wp2
              go_ret
              exact ⟨rfl, b4⟩
      · have q8 : (KI == 8) = false := by simp [h8]
        obtain rfl : B = false := by have := HK.out; rw [HB2.out, if_neg (by omega), if_neg (by omega), if_neg (by omega)]
        clear HB2 HK h6 h7 h8
        go_wp2
        go_ret
        exact ⟨rfl, b2⟩
set_option maxHeartbeats 2000000 in
set_option maxRecDepth 100000 in
theorem checkType_as {w : World} (m : MoP) (hm : m.tys.length ≤ 100000) {t : TyP} (ht : TyIn w t) (hs : t.t.fields.length ≤ 100000) :
    Calls Tryz.prog 88 #[.agg (tyA t), .agg m.cs] w fun e w' => e = .returned (.int .i64 (tyErr m.tys.length t.t : Nat)) ∧ Below w.heap.size w w' := by
  obtain ⟨R, HR⟩ : ∃ R, Hid (tyErr m.tys.length t.t = R) := ⟨_, rfl⟩
  rw [HR.out]
  have HFT : Hid (∀ W, Below w.heap.size w W → Calls Tryz.prog 118 #[.agg (tyA t)] W fun e w' => e = .returned (.bool (tyFit t.t)) ∧ Below W.heap.size W w') := fun W hb => typeFits_as (ht.below hb) hs
  have HMB : Hid (∀ W, Below w.heap.size w W → Calls Tryz.prog 119 #[.agg (tyA t), .agg m.cs] W fun e w' => e = .returned (.bool (tyMay m.tys.length t.t)) ∧ Below W.heap.size W w') := fun W hb => typeMayBe_as m hm (ht.below hb) hs
  have HR2 : Hid (R = if tyFit t.t = true then (if tyMay m.tys.length t.t = true then 0 else 130) else 3) := by rw [Hid, ← HR.out]; rfl
  clear HR ht hs hm
  have o0 := Own.new w (tyA t) 49
  have b0 := new_below w (.cells (tyA t) 49)
  unfold tyA MoP.cs at *
  generalize tyFit t.t = F1 at *
  generalize tyMay m.tys.length t.t = F2 at *
  generalize t.t.fields.length = nf at *
  generalize t.t.name = nm at *
  generalize t.t.elem = E at *
  generalize t.t.len = L at *
  generalize (t.t.kind : Int) = KI at *
  generalize m.tys.length = n1 at *
  generalize m.txs.length = n2 at *
  generalize m.fns.length = n3 at *
  go_enter Tryz.func88, Tryz.ntmps88
  go_upto_region 1 with fail
  have e1 : (w.alloc (.cells #[.int .u8 KI, .string nm, .slice t.fa nf t.fc, .int .i64 E, .int .i64 L] 49)).heap.size = w.heap.size + 1 := World.size_alloc _ _
  generalize w.alloc (.cells #[.int .u8 KI, .string nm, .slice t.fa nf t.fc, .int .i64 E, .int .i64 L] 49) = w1 at *
  have om := Own.new w1 #[.slice m.ta n1 m.tc, .slice m.sa n2 m.sc, .slice m.fa n3 m.fc] 26
  have bm := new_below w1 (.cells #[.slice m.ta n1 m.tc, .slice m.sa n2 m.sc, .slice m.fa n3 m.fc] 26)
  have o2 := o0.below bm
  have b2 := b0.trans (bm.mono b0.size)
  rw [e1] at om
  clear o0 b0 bm e1
  generalize w1.alloc (.cells #[.slice m.ta n1 m.tc, .slice m.sa n2 m.sc, .slice m.fa n3 m.fc] 26) = w2 at *
  obtain ⟨x0, x1, x2, x3, x4, xf⟩ := own5' o2
  obtain ⟨m0, m1, m2, mf⟩ := own3 om
  have hC := HFT.out w2 b2
  go_wp2_with fail
  refine hC.mono ?_
  rintro e w3 ⟨rfl, k3⟩
  have o3 := o2.below k3
  have om3 := om.below k3
  have b3 := b2.trans (k3.mono b2.size)
  clear hC x0 x1 x2 x3 x4 xf m0 m1 m2 mf k3 o2 om b2 HFT
  obtain ⟨x0, x1, x2, x3, x4, xf⟩ := own5' o3
  obtain ⟨m0, m1, m2, mf⟩ := own3 om3
  cases F1 with
  | false =>
    obtain rfl : R = 3 := HR2.out
    clear HR2
    go_wp2
    go_ret
    exact ⟨rfl, b3⟩
  | true =>
    have hC := HMB.out w3 b3
    go_wp2_with fail
    refine hC.mono ?_
    rintro e w4 ⟨rfl, k4⟩
    have b4 := b3.trans (k4.mono b3.size)
    clear hC x0 x1 x2 x3 x4 xf m0 m1 m2 mf k4 o3 om3 b3 HMB
    cases F2 with
    | false =>
      obtain rfl : R = 130 := HR2.out
      clear HR2
      go_wp2
      go_ret
      exact ⟨rfl, b4⟩
    | true =>
      obtain rfl : R = 0 := HR2.out
      clear HR2
      go_wp2
      go_ret
      exact ⟨rfl, b4⟩
end Go.Proofs.YtmmbdpdpkkikjaaGreat
namespace Go.Proofs.YtmmbdpdpkkikjaaGreat
open Go.RowKit
set_option linter.unusedVariables false

def EffAt (op : Nat) : Prop := ∀ (w : World) (m : MoP) (hm : MoIn w m) (hs : Small m 100000) (a b : Int) (ha : (op = 6 ∨ op = 50 ∨ (36 ≤ op ∧ op ≤ 45)) → 0 ≤ a ∧ a ≤ 65535) (hb : (36 ≤ op ∧ op ≤ 38) → 0 ≤ b ∧ b ≤ 65535) (ao : Option Addr) (n cp : Nat),
  Calls Tryz.prog 164 #[.agg #[.int .u8 (op : Int), .int .i64 a, .int .i64 b, .slice ao n cp], .agg m.cs] w (OutRet w (effM m op a b))
theorem ef1 : EffAt 1 := fun w m hm hs a b ha hb ao n cp => effectOf1 hm hs a b ao n cp
theorem ef2 : EffAt 2 := fun w m hm hs a b ha hb ao n cp => effectOf2 hm hs a b ao n cp
theorem ef3 : EffAt 3 := fun w m hm hs a b ha hb ao n cp => effectOf3 hm hs a b ao n cp
theorem ef4 : EffAt 4 := fun w m hm hs a b ha hb ao n cp => effectOf4 hm hs a b ao n cp
theorem ef5 : EffAt 5 := fun w m hm hs a b ha hb ao n cp => effectOf5 hm hs a b ao n cp
theorem ef6 : EffAt 6 := fun w m hm hs a b ha hb ao n cp => effectOf6 hm hs a b (ha (by omega)) ao n cp
theorem ef7 : EffAt 7 := fun w m hm hs a b ha hb ao n cp => effectOf7 hm hs a b ao n cp
theorem ef8 : EffAt 8 := fun w m hm hs a b ha hb ao n cp => effectOf8 hm hs a b ao n cp
theorem ef9 : EffAt 9 := fun w m hm hs a b ha hb ao n cp => effectOf9 hm hs a b ao n cp
theorem ef10 : EffAt 10 := fun w m hm hs a b ha hb ao n cp => effectOf10 hm hs a b ao n cp
theorem ef11 : EffAt 11 := fun w m hm hs a b ha hb ao n cp => effectOf11 hm hs a b ao n cp
theorem ef12 : EffAt 12 := fun w m hm hs a b ha hb ao n cp => effectOf12 hm hs a b ao n cp
theorem ef13 : EffAt 13 := fun w m hm hs a b ha hb ao n cp => effectOf13 hm hs a b ao n cp
theorem ef14 : EffAt 14 := fun w m hm hs a b ha hb ao n cp => effectOf14 hm hs a b ao n cp
theorem ef15 : EffAt 15 := fun w m hm hs a b ha hb ao n cp => effectOf15 hm hs a b ao n cp
theorem ef16 : EffAt 16 := fun w m hm hs a b ha hb ao n cp => effectOf16 hm hs a b ao n cp
theorem ef17 : EffAt 17 := fun w m hm hs a b ha hb ao n cp => effectOf17 hm hs a b ao n cp
theorem ef18 : EffAt 18 := fun w m hm hs a b ha hb ao n cp => effectOf18 hm hs a b ao n cp
theorem ef19 : EffAt 19 := fun w m hm hs a b ha hb ao n cp => effectOf19 hm hs a b ao n cp
theorem ef20 : EffAt 20 := fun w m hm hs a b ha hb ao n cp => effectOf20 hm hs a b ao n cp
theorem ef21 : EffAt 21 := fun w m hm hs a b ha hb ao n cp => effectOf21 hm hs a b ao n cp
theorem ef22 : EffAt 22 := fun w m hm hs a b ha hb ao n cp => effectOf22 hm hs a b ao n cp
theorem ef23 : EffAt 23 := fun w m hm hs a b ha hb ao n cp => effectOf23 hm hs a b ao n cp
theorem ef24 : EffAt 24 := fun w m hm hs a b ha hb ao n cp => effectOf24 hm hs a b ao n cp
theorem ef25 : EffAt 25 := fun w m hm hs a b ha hb ao n cp => effectOf25 hm hs a b ao n cp
theorem ef26 : EffAt 26 := fun w m hm hs a b ha hb ao n cp => effectOf26 hm hs a b ao n cp
theorem ef27 : EffAt 27 := fun w m hm hs a b ha hb ao n cp => effectOf27 hm hs a b ao n cp
theorem ef28 : EffAt 28 := fun w m hm hs a b ha hb ao n cp => effectOf28 hm hs a b ao n cp
theorem ef29 : EffAt 29 := fun w m hm hs a b ha hb ao n cp => effectOf29 hm hs a b ao n cp
theorem ef30 : EffAt 30 := fun w m hm hs a b ha hb ao n cp => effectOf30 hm hs a b ao n cp
theorem ef31 : EffAt 31 := fun w m hm hs a b ha hb ao n cp => effectOf31 hm hs a b ao n cp
theorem ef32 : EffAt 32 := fun w m hm hs a b ha hb ao n cp => effectOf32 hm hs a b ao n cp
theorem ef33 : EffAt 33 := fun w m hm hs a b ha hb ao n cp => effectOf33 hm hs a b ao n cp
theorem ef34 : EffAt 34 := fun w m hm hs a b ha hb ao n cp => effectOf34 hm hs a b ao n cp
theorem ef35 : EffAt 35 := fun w m hm hs a b ha hb ao n cp => effectOf35 hm hs a b ao n cp
theorem ef36 : EffAt 36 := fun w m hm hs a b ha hb ao n cp => effectOf36 hm hs a b (ha (by omega)) (hb (by omega)) ao n cp
theorem ef37 : EffAt 37 := fun w m hm hs a b ha hb ao n cp => effectOf37 hm hs a b (ha (by omega)) (hb (by omega)) ao n cp
theorem ef38 : EffAt 38 := fun w m hm hs a b ha hb ao n cp => effectOf38 hm hs a b (ha (by omega)) (hb (by omega)) ao n cp
theorem ef39 : EffAt 39 := fun w m hm hs a b ha hb ao n cp => effectOf39 hm hs a b (ha (by omega)) ao n cp
theorem ef40 : EffAt 40 := fun w m hm hs a b ha hb ao n cp => effectOf40 hm hs a b (ha (by omega)) ao n cp
theorem ef41 : EffAt 41 := fun w m hm hs a b ha hb ao n cp => effectOf41 hm hs a b (ha (by omega)) ao n cp
theorem ef42 : EffAt 42 := fun w m hm hs a b ha hb ao n cp => effectOf42 hm hs a b (ha (by omega)) ao n cp
theorem ef43 : EffAt 43 := fun w m hm hs a b ha hb ao n cp => effectOf43 hm hs a b (ha (by omega)) ao n cp
theorem ef44 : EffAt 44 := fun w m hm hs a b ha hb ao n cp => effectOf44 hm hs a b (ha (by omega)) ao n cp
theorem ef45 : EffAt 45 := fun w m hm hs a b ha hb ao n cp => effectOf45 hm hs a b (ha (by omega)) ao n cp
theorem ef46 : EffAt 46 := fun w m hm hs a b ha hb ao n cp => effectOf46 hm hs a b ao n cp
theorem ef47 : EffAt 47 := fun w m hm hs a b ha hb ao n cp => effectOf47 hm hs a b ao n cp
theorem ef48 : EffAt 48 := fun w m hm hs a b ha hb ao n cp => effectOf48 hm hs a b ao n cp
theorem ef49 : EffAt 49 := fun w m hm hs a b ha hb ao n cp => effectOf49 hm hs a b ao n cp
theorem ef50 : EffAt 50 := fun w m hm hs a b ha hb ao n cp => effectOf50 hm hs a b (ha (by omega)) ao n cp
theorem ef51 : EffAt 51 := fun w m hm hs a b ha hb ao n cp => effectOf51 hm hs a b ao n cp
theorem ef52 : EffAt 52 := fun w m hm hs a b ha hb ao n cp => effectOf52 hm hs a b ao n cp
theorem eff_at : ∀ op : Nat, 1 ≤ op → op ≤ 52 → EffAt op
  | 0, h, _ => absurd h (by omega)
  | 1, _, _ => ef1
  | 2, _, _ => ef2
  | 3, _, _ => ef3
  | 4, _, _ => ef4
  | 5, _, _ => ef5
  | 6, _, _ => ef6
  | 7, _, _ => ef7
  | 8, _, _ => ef8
  | 9, _, _ => ef9
  | 10, _, _ => ef10
  | 11, _, _ => ef11
  | 12, _, _ => ef12
  | 13, _, _ => ef13
  | 14, _, _ => ef14
  | 15, _, _ => ef15
  | 16, _, _ => ef16
  | 17, _, _ => ef17
  | 18, _, _ => ef18
  | 19, _, _ => ef19
  | 20, _, _ => ef20
  | 21, _, _ => ef21
  | 22, _, _ => ef22
  | 23, _, _ => ef23
  | 24, _, _ => ef24
  | 25, _, _ => ef25
  | 26, _, _ => ef26
  | 27, _, _ => ef27
  | 28, _, _ => ef28
  | 29, _, _ => ef29
  | 30, _, _ => ef30
  | 31, _, _ => ef31
  | 32, _, _ => ef32
  | 33, _, _ => ef33
  | 34, _, _ => ef34
  | 35, _, _ => ef35
  | 36, _, _ => ef36
  | 37, _, _ => ef37
  | 38, _, _ => ef38
  | 39, _, _ => ef39
  | 40, _, _ => ef40
  | 41, _, _ => ef41
  | 42, _, _ => ef42
  | 43, _, _ => ef43
  | 44, _, _ => ef44
  | 45, _, _ => ef45
  | 46, _, _ => ef46
  | 47, _, _ => ef47
  | 48, _, _ => ef48
  | 49, _, _ => ef49
  | 50, _, _ => ef50
  | 51, _, _ => ef51
  | 52, _, _ => ef52
  | n + 53, _, h => absurd h (by omega)
theorem ok_short {x : In} (h : x.ok = true) : (1 ≤ x.op ∧ x.op ≤ 52) ∧ ((x.op = 6 ∨ x.op = 50 ∨ (36 ≤ x.op ∧ x.op ≤ 45)) → 0 ≤ x.a ∧ x.a ≤ 65535) ∧ ((36 ≤ x.op ∧ x.op ≤ 38) → 0 ≤ x.b ∧ x.b ≤ 65535) := by
  unfold In.ok at h
  cases hl : lay x.op with
  | none => rw [hl] at h; cases h
  | some l =>
    rw [hl] at h
    simp only at h
    have hr := (lay_ok hl).2
    unfold Lay.has at h
    rw [Bool.and_eq_true, Bool.and_eq_true] at h
    refine ⟨hr, fun hx => ?_, fun hx => ?_⟩
    · have ha : l.a = nShort := by
        by_cases h37 : x.op = 37 ∨ x.op = 38
        · have : lay x.op = some ⟨nShort, nShort, false⟩ := by unfold lay; rw [if_neg (by omega), if_neg (by omega), if_neg (by omega), if_neg (by omega), if_pos h37]
          rw [this] at hl; cases hl; rfl
        · have : lay x.op = some ⟨nShort, nNone, false⟩ := by unfold lay; rw [if_neg (by omega), if_neg (by omega), if_neg (by omega), if_pos (by omega)]
          rw [this] at hl; cases hl; rfl
      have := h.1
      rw [ha] at this
      unfold Nm.may nShort at this
      simpa using this
    · have hb : l.b = nShort ∨ l.b = nNone := by
        by_cases h37 : x.op = 37 ∨ x.op = 38
        · have : lay x.op = some ⟨nShort, nShort, false⟩ := by unfold lay; rw [if_neg (by omega), if_neg (by omega), if_neg (by omega), if_neg (by omega), if_pos h37]
          rw [this] at hl; cases hl; exact .inl rfl
        · have : lay x.op = some ⟨nShort, nNone, false⟩ := by unfold lay; rw [if_neg (by omega), if_neg (by omega), if_neg (by omega), if_pos (by omega)]
          rw [this] at hl; cases hl; exact .inr rfl
      have := h.2.1
      rcases hb with hb | hb
      · rw [hb] at this; unfold Nm.may nShort at this; simpa using this
      · rw [hb] at this; unfold Nm.may nNone at this
        have h2 : 0 ≤ x.b ∧ x.b ≤ 0 := by simpa using this
        omega
theorem effectOf_as {w : World} {m : MoP} (hm : MoIn w m) (hs : Small m 100000) {x : In} (hk : x.ok = true) (ao : Option Addr) (n cp : Nat) :
    Calls Tryz.prog 164 #[insV x (.slice ao n cp), .agg m.cs] w (OutRet w (effM m x.op x.a x.b)) := by
  obtain ⟨⟨h1, h2⟩, h3, h4⟩ := ok_short hk
  exact eff_at x.op h1 h2 w m hm hs x.a x.b h3 h4 ao n cp
/-- What Takes tells: the lists, the error. -/
def takM (m : MoP) (x : In) : (List Int × List Int) × Nat := if x.ok = true then (match effM m x.op x.a x.b with | none => (([], []), 2) | some r => (r, 0)) else (([], []), 120)
def TakRet (w : World) (T : (List Int × List Int) × Nat) (e : Ending) (w' : World) : Prop := ∃ ta tc pa pc, e = .returned (.tuple #[.slice ta T.1.1.length tc, .slice pa T.1.2.length pc, .int .i64 (T.2 : Int)]) ∧ IntNew w' w.heap.size (.slice ta T.1.1.length tc) T.1.1 ∧ IntNew w' w.heap.size (.slice pa T.1.2.length pc) T.1.2 ∧ Below w.heap.size w w'
set_option maxHeartbeats 2000000 in
set_option maxRecDepth 100000 in
theorem takes_as {w : World} {m : MoP} (hm : MoIn w m) (hs : Small m 100000) {x : In} {ao : Option Addr} {cp : Nat} (hl : InLies w x ao) (n : Nat) (hn : n = x.arms.length) (hmx : n ≤ 1000000) :
    Calls Tryz.prog 160 #[insV x (.slice ao n cp), .agg m.cs] w (TakRet w (takM m x)) := by
  obtain ⟨R, HR⟩ : ∃ R, Hid (takM m x = R) := ⟨_, rfl⟩
  rw [HR.out]
  have HSZ : Hid (∀ W, Below w.heap.size w W → Calls Tryz.prog 163 #[insV x (.slice ao n cp)] W fun e w' => e = .returned (.int .i64 x.size) ∧ Below W.heap.size W w') := fun W hb => size_as (hl.below hb) n hn hmx
  have HEF : Hid (x.ok = true → ∀ W, Below w.heap.size w W → Calls Tryz.prog 164 #[insV x (.slice ao n cp), .agg m.cs] W (OutRet W (effM m x.op x.a x.b))) := fun hk W hb => effectOf_as (hm.below hb) hs hk ao n cp
  have HPOS : Hid (x.ok = true ↔ 0 < x.size) := size_pos x
  clear hm hs hl hn hmx
  have ox := Own.new w #[.int .u8 (x.op : Int), .int .i64 x.a, .int .i64 x.b, .slice ao n cp] 59
  have bx := new_below w (.cells #[.int .u8 (x.op : Int), .int .i64 x.a, .int .i64 x.b, .slice ao n cp] 59)
  unfold MoP.cs at *
  go_enter Tryz.func160, Tryz.ntmps160
  go_upto_region 1 with fail
  have e1 : (w.alloc (.cells #[.int .u8 (x.op : Int), .int .i64 x.a, .int .i64 x.b, .slice ao n cp] 59)).heap.size = w.heap.size + 1 := World.size_alloc _ _
  generalize w.alloc (.cells #[.int .u8 (x.op : Int), .int .i64 x.a, .int .i64 x.b, .slice ao n cp] 59) = w1 at *
  have om := Own.new w1 #[.slice m.ta m.tys.length m.tc, .slice m.sa m.txs.length m.sc, .slice m.fa m.fns.length m.fc] 26
  have bm := new_below w1 (.cells #[.slice m.ta m.tys.length m.tc, .slice m.sa m.txs.length m.sc, .slice m.fa m.fns.length m.fc] 26)
  have ox1 := ox.below bm
  have b2 := bx.trans (bm.mono bx.size)
  rw [e1] at om
  clear ox bx bm e1
  generalize w1.alloc (.cells #[.slice m.ta m.tys.length m.tc, .slice m.sa m.txs.length m.sc, .slice m.fa m.fns.length m.fc] 26) = w2 at *
  have hC := HSZ.out w2 b2
  obtain ⟨x0, x1, x2, x3, xf⟩ := own4 ox1
  obtain ⟨SZ, hSZ⟩ : ∃ SZ : Nat, x.size = SZ := ⟨_, rfl⟩
  rw [hSZ] at hC HPOS
  go_wp2_with fail
  refine hC.mono ?_
  rintro e w3 ⟨rfl, k3⟩
  have ox3 := ox1.below k3
  have om3 := om.below k3
  have b3 := b2.trans (k3.mono b2.size)
  clear hC x0 x1 x2 x3 xf ox1 om b2 k3 hSZ HSZ
  obtain ⟨x0, x1, x2, x3, xf⟩ := own4 ox3
  obtain ⟨m0, m1, m2, mf⟩ := own3 om3
  cases hk : x.ok with
  | false =>
    obtain rfl : (([], []), 120) = R := by rw [← HR.out]; unfold takM; rw [if_neg (by rw [hk]; simp)]
    have hz : SZ = 0 := by
      have := HPOS.out
      rw [hk] at this
      simp at this
      omega
    subst hz
    clear HPOS HEF HR hk x0 x1 x2 x3 xf m0 m1 m2 mf
    go_wp2
    go_ret3
    exact ⟨_, _, _, _, rfl, IntNew.nil _ _, IntNew.nil _ _, b3⟩
  | true =>
    have hz : 0 < SZ := HPOS.out.1 hk
    have hzd : ((SZ : Int) == 0) = false := by simp; omega
    have hE := HEF.out hk w3 b3
    have HRR : Hid (R = match effM m x.op x.a x.b with | none => (([], []), 2) | some r => (r, 0)) := by rw [Hid, ← HR.out]; unfold takM; rw [if_pos hk]
    clear HPOS HEF HR hk hz
    cases hf : effM m x.op x.a x.b with
    | none =>
      rw [hf] at hE HRR
      obtain rfl : R = (([], []), 2) := HRR.out
      clear HRR hf
      go_wp2_with fail
      refine hE.mono ?_
      rintro e w4 ⟨⟨ta, tn, tc, pa, pn, pc, rfl⟩, k4⟩
      have b4 := b3.trans (k4.mono b3.size)
      have b5 := b4.alloc b4.size (.cells #[.slice ta tn tc, .slice pa pn pc] 194)
      clear hE k4 b3 x0 x1 x2 x3 xf m0 m1 m2 mf
      go_wp2
      go_ret3
      exact ⟨_, _, _, _, rfl, IntNew.nil _ _, IntNew.nil _ _, b5⟩
    | some r =>
      rw [hf] at hE HRR
      obtain rfl : R = (r, 0) := HRR.out
      clear HRR hf
      go_wp2_with fail
      refine hE.mono ?_
      rintro e w4 ⟨⟨ta, tc, pa, pc, rfl, i4, j4⟩, k4⟩
      have b4 := b3.trans (k4.mono b3.size)
      have bn := new_below w4 (.cells #[.slice ta r.1.length tc, .slice pa r.2.length pc] 194)
      have oE := Own.new w4 #[.slice ta r.1.length tc, .slice pa r.2.length pc] 194
      have b5 := b4.alloc b4.size (.cells #[.slice ta r.1.length tc, .slice pa r.2.length pc] 194)
      have i5 := (i4.mono b3.size).below bn
      have j5 := (j4.mono b3.size).below bn
      clear hE k4 b3 x0 x1 x2 x3 xf m0 m1 m2 mf i4 j4 b4 bn
      go_upto_region 6 with fail
      generalize w4.alloc (.cells #[.slice ta r.1.length tc, .slice pa r.2.length pc] 194) = w5 at *
      obtain ⟨y0, y1, yf⟩ := own2 oE
      go_quiet (fail)
      go_wp2
      go_ret3
      exact ⟨_, _, _, _, rfl, ⟨i5.row.drewN _, i5.new⟩, ⟨j5.row.drewN _, j5.new⟩, below_drawn b5 _⟩
end Go.Proofs.YtmmbdpdpkkikjaaGreat
