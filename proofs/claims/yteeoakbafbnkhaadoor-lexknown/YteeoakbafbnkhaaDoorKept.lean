/-
  CONTRACTS of the document's Kept and Name.
-/
import Derived.Test.YteeoakbafbnkhaaDoorWords
import Derived.Below
namespace Go.Proofs.YteeoakbafbnkhaaDoor
open Go.RowKit
set_option linter.unusedVariables false

def keptS : List ByteArray := [⟨#[114, 101, 99, 111, 114, 100]⟩, ⟨#[102, 110]⟩, ⟨#[118, 97, 114]⟩, ⟨#[105, 102]⟩, ⟨#[101, 108, 115, 101]⟩, ⟨#[119, 104, 105, 108, 101]⟩, ⟨#[102, 111, 114]⟩, ⟨#[115, 119, 105, 116, 99, 104]⟩, ⟨#[99, 97, 115, 101]⟩, ⟨#[100, 101, 102, 97, 117, 108, 116]⟩, ⟨#[98, 114, 101, 97, 107]⟩, ⟨#[99, 111, 110, 116, 105, 110, 117, 101]⟩, ⟨#[114, 101, 116, 117, 114, 110]⟩, ⟨#[116, 114, 97, 112]⟩, ⟨#[110, 101, 119]⟩, ⟨#[116, 114, 117, 101]⟩, ⟨#[102, 97, 108, 115, 101]⟩, ⟨#[105, 56]⟩, ⟨#[105, 51, 50]⟩, ⟨#[105, 54, 52]⟩, ⟨#[98, 111, 111, 108]⟩, ⟨#[98, 121, 116, 101, 115]⟩, ⟨#[108, 101, 110]⟩, ⟨#[99, 117, 116]⟩, ⟨#[98, 121, 116, 101]⟩, ⟨#[112, 117, 115, 104]⟩, ⟨#[112, 111, 112]⟩]
theorem kept_same : keptS.map bytesN = keptL := rfl
theorem kept_bytes (i : Nat) (h : i < 27) : bytesN (keptS.getD i ⟨#[]⟩) = keptL.getD i [] := by
  have h2 : i < keptS.length := h
  rw [← kept_same, List.getD_eq_getElem?_getD, List.getD_eq_getElem?_getD, List.getElem?_map, List.getElem?_eq_getElem h2]; rfl
theorem keptV_at (j : Nat) (h : j < 27) : ((keptS.map Value.string).toArray)[j]? = some (.string (keptS.getD j ⟨#[]⟩)) := by
  have h2 : j < keptS.length := h
  rw [List.getElem?_toArray, List.getElem?_map, List.getElem?_eq_getElem h2, List.getD_eq_getElem?_getD, List.getElem?_eq_getElem h2]
  rfl
theorem kept_yes (l : List Nat) (i : Nat) (h : i < 27) (hi : l = keptL.getD i []) : keptB l = true := by
  have h2 : i < keptL.length := h
  unfold keptB
  rw [hi, List.getD_eq_getElem?_getD, List.getElem?_eq_getElem h2]
  simp
theorem kept_no (l : List Nat) (hb : ∀ j, j < 27 → ¬ l = keptL.getD j []) : keptB l = false := by
  unfold keptB
  simp only [decide_eq_false_iff_not]
  intro hx
  obtain ⟨j, hj, rfl⟩ := List.getElem_of_mem hx
  apply hb j hj
  rw [List.getD_eq_getElem?_getD, List.getElem?_eq_getElem hj]; rfl
def KeptRel (l : List Nat) (i : Value) : Prop := ∃ k : Nat, k ≤ 27 ∧ i = .int .i64 k ∧ ∀ j, j < k → ¬ l = keptL.getD j []
set_option maxRecDepth 1000000 in
set_option maxHeartbeats 2000000 in
theorem rkept_as (s : ByteArray) (b : Bool) (hb : keptB (bytesN s) = b) (w : World) :
    Calls Tryd.prog 26 #[.string s] w fun e w' => e = .returned (.bool b) ∧ Below w.heap.size w w' := by
  have HBB : Hid (keptB (bytesN s) = b) := hb
  clear hb
  obtain ⟨g, hg⟩ : ∃ g, g = w.heap.size := ⟨_, rfl⟩
  have HG : Hid (g = w.heap.size) := hg
  go_enter Tryd.func26, Tryd.ntmps26
  go_wp2_with fail
  obtain ⟨w1, hw1⟩ : ∃ w1, w1 = w.alloc (.cells #[.string ⟨#[114, 101, 99, 111, 114, 100]⟩, .string ⟨#[102, 110]⟩, .string ⟨#[118, 97, 114]⟩, .string ⟨#[105, 102]⟩, .string ⟨#[101, 108, 115, 101]⟩, .string ⟨#[119, 104, 105, 108, 101]⟩, .string ⟨#[102, 111, 114]⟩, .string ⟨#[115, 119, 105, 116, 99, 104]⟩, .string ⟨#[99, 97, 115, 101]⟩, .string ⟨#[100, 101, 102, 97, 117, 108, 116]⟩, .string ⟨#[98, 114, 101, 97, 107]⟩, .string ⟨#[99, 111, 110, 116, 105, 110, 117, 101]⟩, .string ⟨#[114, 101, 116, 117, 114, 110]⟩, .string ⟨#[116, 114, 97, 112]⟩, .string ⟨#[110, 101, 119]⟩, .string ⟨#[116, 114, 117, 101]⟩, .string ⟨#[102, 97, 108, 115, 101]⟩, .string ⟨#[105, 56]⟩, .string ⟨#[105, 51, 50]⟩, .string ⟨#[105, 54, 52]⟩, .string ⟨#[98, 111, 111, 108]⟩, .string ⟨#[98, 121, 116, 101, 115]⟩, .string ⟨#[108, 101, 110]⟩, .string ⟨#[99, 117, 116]⟩, .string ⟨#[98, 121, 116, 101]⟩, .string ⟨#[112, 117, 115, 104]⟩, .string ⟨#[112, 111, 112]⟩] 9) := ⟨_, rfl⟩
  rw [← hw1, ← hg]
  have hcells : ∀ j, j < 27 → w1.cell? ⟨g, j, none⟩ = some (.string (keptS.getD j ⟨#[]⟩)) := by
    intro j hj
    rw [hw1, hg]
    exact (cell_of_row _ _ j _ _ _ (heap_alloc_new _ _)).trans (keptV_at j hj)
  have HC : Hid (∀ j, j < 27 → w1.cell? ⟨g, j, none⟩ = some (.string (keptS.getD j ⟨#[]⟩))) := hcells
  have HB1 : Hid (Below w.heap.size w w1) := by unfold Hid; rw [hw1]; exact (Below.refl _ _).alloc (Nat.le_refl _) _
  clear hw1 hg hcells
  go_loop [7] (fun i => KeptRel (bytesN s) i) (fun i => 27 - (intOf i).toNat)
  case atStart => exact ⟨0, by omega, rfl, fun j hj => by omega⟩
  case round =>
    obtain ⟨k, hk, rfl, hno⟩ := hrel
    have HNO : Hid (∀ j, j < k → ¬ bytesN s = keptL.getD j []) := hno
    clear hno
    by_cases hlt : k < 27
    · obtain ⟨x, hx⟩ : ∃ x, Hid (keptS.getD k ⟨#[]⟩ = x) := ⟨_, rfl⟩
      have hcell : w1.cell? ⟨g, k, none⟩ = some (.string x) := by rw [← hx.out]; exact HC.out k hlt
      have HXB : Hid (bytesN x = keptL.getD k []) := by unfold Hid; rw [← hx.out]; exact kept_bytes k hlt
      by_cases he : bytesN s = bytesN x
      · have heq : (s.toList == x.toList) = true := by rw [bytes_same]; simp [he]
        have HT : Hid (true = b) := by unfold Hid; rw [← HBB.out]; exact (kept_yes _ k hlt (by rw [he]; exact HXB.out)).symm
        clear he
        go_wp2
        go_ret
        exact ⟨ret_bool HT.out, HB1.out⟩
      · have heq : (s.toList == x.toList) = false := by rw [bytes_same]; simp [he]
        have HNO2 : Hid (∀ j, j < k + 1 → ¬ bytesN s = keptL.getD j []) := by
          intro j hj
          by_cases hjk : j = k
          · subst hjk; rw [← HXB.out]; exact he
          · exact HNO.out j (by omega)
        clear he
        go_wp2
        go_round
        case rel => exact ⟨k + 1, by omega, by go_num, HNO2.out⟩
        case measure => simp [intOf]; omega
    · have hk27 : k = 27 := by omega
      have HF : Hid (false = b) := by unfold Hid; rw [← HBB.out]; exact (kept_no _ (by rw [← hk27]; exact HNO.out)).symm
      subst hk27
      go_wp2
      go_ret
      exact ⟨ret_bool HF.out, HB1.out⟩

theorem empty_is (s : ByteArray) (h : s.size = 0) : s = ⟨#[]⟩ := by
  apply bytesN_inj
  have h1 : bytesN s = [] := List.eq_nil_of_length_eq_zero (by rw [bytesN_length]; exact h)
  rw [h1]; rfl
set_option maxRecDepth 100000 in
theorem rname_as (s : ByteArray) (b : Bool) (h : s.size ≤ 1048576) (hb : nameB (bytesN s) = b) (w : World) :
    Calls Tryd.prog 24 #[.string s] w fun e w' => e = .returned (.bool b) ∧ Below w.heap.size w w' := by
  by_cases h0 : s.size = 0
  · obtain rfl := empty_is s h0
    have HF : Hid (false = b) := by unfold Hid; rw [← hb]; rfl
    clear hb h0
    go_enter Tryd.func24, Tryd.ntmps24
    go_wp2
    go_ret
    exact ⟨ret_bool HF.out, Below.refl _ _⟩
  · have hp : 0 < s.size := by omega
    have hne : (s.toList == []) = false := by
      rw [ByteArray.toList_eq, beq_eq_false_iff_ne]
      intro q
      have h1 : bytesN s = [] := by unfold bytesN; rw [q]; rfl
      have h2 := bytesN_length s
      rw [h1] at h2
      simp at h2; omega
    obtain ⟨c, hc⟩ : ∃ c, (s[0]'hp).toNat = c := ⟨_, rfl⟩
    have hd := bytesN_drop s 0 hp
    rw [hc, List.drop_zero] at hd
    have hnm : nameB (bytesN s) = (letterB c && decide (wordN (bytesN s) = (bytesN s).length) && !keptB (bytesN s)) := by
      rw [hd]; rfl
    have HNM : Hid ((letterB c && decide (wordN (bytesN s) = (bytesN s).length) && !keptB (bytesN s)) = b) := by unfold Hid; rw [← hnm]; exact hb
    clear hd hnm hb h0
    by_cases hl : letterB c = true
    · have HL : Hid (letterB c = true) := hl
      clear hl
      obtain ⟨E, hE⟩ : ∃ E, Hid (0 + wordN ((bytesN s).drop 0) = E) := ⟨_, rfl⟩
      by_cases hw : E = s.size
      · have HW : Hid (decide (wordN (bytesN s) = (bytesN s).length) = true) := by
          unfold Hid; have := hE.out; rw [List.drop_zero, Nat.zero_add] at this; rw [this, bytesN_length]; simp [hw]
        obtain ⟨k, hk⟩ : ∃ k, Hid (keptB (bytesN s) = k) := ⟨_, rfl⟩
        have HR : Hid ((!k) = b) := by unfold Hid; rw [← HNM.out, HL.out, HW.out, hk.out]; rfl
        have heq : ((E : Int) == (s.size : Int)) = true := by simp [hw]
        go_enter Tryd.func24, Tryd.ntmps24
        go_wp2_with fail
        refine (rletter_any c _).mono ?_
        rw [HL.out]
        rintro e wx ⟨rfl, rfl⟩
        go_wp2_with fail
        refine (rwords_as s 0 0 E rfl (by omega) h hE.out _).mono ?_
        rintro e wx ⟨rfl, rfl⟩
        go_wp2_with fail
        refine (rkept_as s k hk.out _).mono ?_
        rintro e w2 ⟨rfl, hb2⟩
        go_wp2
        go_ret
        exact ⟨ret_bool HR.out, hb2⟩
      · have HR : Hid (false = b) := by
          unfold Hid; rw [← HNM.out]
          have := hE.out; rw [List.drop_zero, Nat.zero_add] at this
          rw [this, bytesN_length]; simp [hw]
        have heq : ((E : Int) == (s.size : Int)) = false := by simp; omega
        go_enter Tryd.func24, Tryd.ntmps24
        go_wp2_with fail
        refine (rletter_any c _).mono ?_
        rw [HL.out]
        rintro e wx ⟨rfl, rfl⟩
        go_wp2_with fail
        refine (rwords_as s 0 0 E rfl (by omega) h hE.out _).mono ?_
        rintro e wx ⟨rfl, rfl⟩
        go_wp2
        go_ret
        exact ⟨ret_bool HR.out, Below.refl _ _⟩
    · have HL : Hid (letterB c = false) := by simpa [Hid] using hl
      have HR : Hid (false = b) := by unfold Hid; rw [← HNM.out, HL.out]; rfl
      clear hl
      go_enter Tryd.func24, Tryd.ntmps24
      go_wp2_with fail
      refine (rletter_any c _).mono ?_
      rw [HL.out]
      rintro e wx ⟨rfl, rfl⟩
      go_wp2
      go_ret
      exact ⟨ret_bool HR.out, Below.refl _ _⟩
end Go.Proofs.YteeoakbafbnkhaaDoor
