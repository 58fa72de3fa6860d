/-
  CONTRACT of the library's ParseUint to the base 16, at two digits.
-/
import Derived.Test.YteeoakbafbnkhaaDoorXLib
import Derived.Lib.ConvBytes
import Derived.Lib.ParseIntBMem
import Derived.Lib.Hide
import Derived.Laws.Strings3
import Derived.Laws.Closers25
import Derived.Laws.Closers25b
import Derived.BigCall
import Derived.BigGuard
namespace Go.Proofs.YteeoakbafbnkhaaDoor
open Go.RowKit
set_option linter.unusedVariables false

theorem ret_ui {x y : Int} (h : x = y) : Ending.returned (.tuple #[.int .u64 x, .nilIface]) = Ending.returned (.tuple #[.int .u64 y, .nilIface]) := by rw [h]
def hexF (n : Nat) (l : List Nat) : Nat := l.foldl (fun n c => 16 * n + hexN c) n
theorem xlower_as (c : Nat) (v : Int) (h : (97 ≤ c ∧ c ≤ 102 ∧ v = c) ∨ (65 ≤ c ∧ c ≤ 70 ∧ v = c + 32)) (w : World) :
    Calls Tryd.prog 74 #[.int .u8 (c : Int)] w fun e w' => e = .returned (.int .u8 v) ∧ w = w' := by
  refine (Any.internal_strconv_lower Tryd.lays321 (c : Int) w).mono ?_
  rintro e w' ⟨rfl, rfl⟩
  refine ⟨ret_int ?_, rfl⟩
  rcases h with ⟨h1, h2, rfl⟩ | ⟨h1, h2, rfl⟩
  · have hc : c = 97 ∨ c = 98 ∨ c = 99 ∨ c = 100 ∨ c = 101 ∨ c = 102 := by omega
    rcases hc with rfl | rfl | rfl | rfl | rfl | rfl <;> decide
  · have hc : c = 65 ∨ c = 66 ∨ c = 67 ∨ c = 68 ∨ c = 69 ∨ c = 70 := by omega
    rcases hc with rfl | rfl | rfl | rfl | rfl | rfl <;> decide
theorem hex_cases (c : Nat) (h : ¬ hexN c = 16) : (48 ≤ c ∧ c ≤ 57 ∧ hexN c = c - 48) ∨ (97 ≤ c ∧ c ≤ 102 ∧ hexN c = c - 97 + 10) ∨ (65 ≤ c ∧ c ≤ 70 ∧ hexN c = c - 65 + 10) := by
  unfold hexN at h ⊢
  by_cases h1 : digitB c = true
  · rw [if_pos h1]; have : 48 ≤ c ∧ c ≤ 57 := by simpa [digitB] using h1
    exact .inl ⟨this.1, this.2, rfl⟩
  · rw [if_neg h1] at h ⊢
    by_cases h2 : 97 ≤ c ∧ c ≤ 102
    · rw [if_pos h2]; exact .inr (.inl ⟨h2.1, h2.2, rfl⟩)
    · rw [if_neg h2] at h ⊢
      by_cases h3 : 65 ≤ c ∧ c ≤ 70
      · rw [if_pos h3]; exact .inr (.inr ⟨h3.1, h3.2, rfl⟩)
      · rw [if_neg h3] at h; exact absurd rfl h
def HexRel (l : List Nat) (V : Nat) (vu vn vi : Value) : Prop := ∃ (k acc : Nat) (a : Int), k ≤ 2 ∧ vu = .bool false ∧ vn = .int .u64 a ∧ a = (acc : Int) ∧ vi = .int .i64 k ∧ hexF acc (l.drop k) = V ∧ acc ≤ 255 ∧ (k = 0 → acc = 0) ∧ (k = 1 → acc ≤ 15)
set_option maxHeartbeats 4000000 in
set_option maxRecDepth 100000 in
theorem xhexi (t : ByteArray) (hs : t.size = 2) (V : Nat) (hV : hexF 0 (bytesN t) = V) (hx : ∀ c ∈ bytesN t, ¬ hexN c = 16) (w : World) :
    Calls Tryd.prog 70 #[.string t, .int .i64 16, .int .i64 8] w fun e w' => e = .returned (.tuple #[.int .u64 (V : Int), .nilIface]) ∧ w' = Lib.bytesWorld w 5 t := by
  have hemp : t.toList.isEmpty = false := by
    rw [← decide_eq_emptyBytes]
    exact decide_eq_false (fun h => by rw [h] at hs; simp at hs)
  have hcv := Lib.run_convert_string_bytes (P := Tryd.prog) w 9 27 5 t (u := .string) Tryd.underlying9 Tryd.underlying27 Tryd.underlying5
  have hB : ∀ j, j < t.size → (Lib.bytesWorld w 5 t).cell? ⟨w.heap.size, j, none⟩ = some (.int .u8 (t.data.toList.getD j 0).toNat) := fun j hj => Lib.bytesWorld_cell w 5 t j hj
  obtain ⟨W1, hW1⟩ : ∃ W1, W1 = Lib.bytesWorld w 5 t := ⟨_, rfl⟩
  rw [← hW1] at hcv hB ⊢
  clear hW1
  obtain ⟨l, hl⟩ : ∃ l, Hid (bytesN t = l) := ⟨_, rfl⟩
  have HB : Hid (∀ j (hj : j < 2), W1.cell? ⟨w.heap.size, j, none⟩ = some (.int .u8 ((l.getD j 0 : Nat) : Int))) := by
    intro j hj
    rw [hB j (by omega), ← hl.out]
    have h2 : j < t.data.toList.length := by rw [Array.length_toList]; show j < t.size; omega
    unfold bytesN
    rw [List.getD_eq_getElem?_getD, List.getD_eq_getElem?_getD, List.getElem?_map, List.getElem?_eq_getElem h2]; rfl
  have HL : Hid (l.length = 2) := by unfold Hid; rw [← hl.out, bytesN_length]; exact hs
  have HX : Hid (∀ c ∈ l, ¬ hexN c = 16) := by unfold Hid; rw [← hl.out]; exact hx
  have HV : Hid (hexF 0 l = V) := by unfold Hid; rw [← hl.out]; exact hV
  have hmv : IntKind.u64.wrap (IntKind.u64.wrap 256 - 1) = 255 := by
    rw [IntKind.wrap_u64, IntKind.wrap_u64]
    decide
  clear hB hx hV
  rw [hs] at hcv
  go_enter Tryd.func70, Tryd.ntmps70
  go_wp2_with fail
  go_loop [12, 13, 101] (fun vu vn vi => HexRel l V vu vn vi) (fun _ _ vi => 2 - (intOf vi).toNat)
  case atStart => exact ⟨0, 0, 0, by omega, rfl, rfl, rfl, rfl, by rw [List.drop_zero]; exact HV.out, by omega, fun _ => rfl, fun h => by omega⟩
  case round =>
    obtain ⟨k, acc, a, hk, rfl, rfl, haa, rfl, hF, ha, ha0, ha2⟩ := hrel
    have HAA : Hid (a = (acc : Int)) := haa
    have HF : Hid (hexF acc (l.drop k) = V) := hF
    clear hF
    by_cases hkn : k < 2
    · have a1 : acc ≤ 15 := by omega
      have b0 : 0 ≤ a := by omega
      have b1 : a ≤ 15 := by omega
      have A1 : Hid (acc ≤ 15) := a1
      have A0 : Hid (k = 0 → acc = 0) := ha0
      have hlen : k < l.length := by rw [HL.out]; exact hkn
      obtain ⟨c, hcd⟩ : ∃ c, Hid (l.getD k 0 = c) := ⟨_, rfl⟩
      have hc := HB.out k hkn
      rw [hcd.out] at hc
      have hcl : l[k] = c := by rw [← hcd.out, List.getD_eq_getElem?_getD, List.getElem?_eq_getElem hlen]; rfl
      have hxc := hex_cases c (HX.out c (by rw [← hcl]; exact List.getElem_mem hlen))
      obtain ⟨d, hd⟩ : ∃ d, Hid (hexN c = d) := ⟨_, rfl⟩
      have HF2 : Hid (hexF (16 * acc + d) (l.drop (k + 1)) = V) := by
        unfold Hid
        rw [← HF.out, List.drop_eq_getElem_cons hlen, hcl, ← hd.out]; rfl
      rw [hd.out] at hxc
      clear ha2 ha0 hcl a1 haa ha
      rcases hxc with ⟨h1, h2, h3⟩ | ⟨h1, h2, h3⟩ | ⟨h1, h2, h3⟩
      · have H3 : Hid (d = c - 48) := h3
        have iov : a * 16 + ((c : Int) - 48) ≤ 255 := by omega
        have HN : Hid (a * 16 + ((c : Int) - 48) = ((16 * acc + d : Nat) : Int)) := by have := HAA.out; unfold Hid; omega
        clear h3
        go_wp2
        refine ⟨⟨k + 1, 16 * acc + d, _, by omega, rfl, rfl, HN.out, (by first | rfl | (congr 1; omega)), HF2.out, by have := A1.out; have := H3.out; omega, fun q => by omega, fun q => by have := A0.out (by omega); have := H3.out; omega⟩, by simp [intOf]; omega⟩
      · have H3 : Hid (d = c - 97 + 10) := h3
        have iov : a * 16 + ((c : Int) - 97 + 10) ≤ 255 := by omega
        have HN : Hid (a * 16 + ((c : Int) - 97 + 10) = ((16 * acc + d : Nat) : Int)) := by have := HAA.out; unfold Hid; omega
        clear h3
        go_wp2_with (go_at_call 74; refine (xlower_as c (c : Int) (by omega) _).mono ?_; rintro e w' ⟨rfl, rfl⟩)
        refine ⟨⟨k + 1, 16 * acc + d, _, by omega, rfl, rfl, HN.out, (by first | rfl | (congr 1; omega)), HF2.out, by have := A1.out; have := H3.out; omega, fun q => by omega, fun q => by have := A0.out (by omega); have := H3.out; omega⟩, by simp [intOf]; omega⟩
      · have H3 : Hid (d = c - 65 + 10) := h3
        have iov : a * 16 + ((c : Int) + 32 - 97 + 10) ≤ 255 := by omega
        have HN : Hid (a * 16 + ((c : Int) + 32 - 97 + 10) = ((16 * acc + d : Nat) : Int)) := by have := HAA.out; unfold Hid; omega
        clear h3
        go_wp2_with (go_at_call 74; refine (xlower_as c ((c : Int) + 32) (by omega) _).mono ?_; rintro e w' ⟨rfl, rfl⟩)
        refine ⟨⟨k + 1, 16 * acc + d, _, by omega, rfl, rfl, HN.out, (by first | rfl | (congr 1; omega)), HF2.out, by have := A1.out; have := H3.out; omega, fun q => by omega, fun q => by have := A0.out (by omega); have := H3.out; omega⟩, by simp [intOf]; omega⟩
    · have hkk : k = 2 := by omega
      subst hkk
      have HE : Hid (acc = V) := by unfold Hid; rw [← HF.out, List.drop_eq_nil_of_le (by rw [HL.out]; exact Nat.le_refl _)]; rfl
      go_wp2
      go_ret2
      exact ⟨ret_ui (by rw [HE.out]), rfl⟩
theorem xhex_as (t : ByteArray) (d e : Nat) (ht : bytesN t = [d, e]) (hd : ¬ hexN d = 16) (he : ¬ hexN e = 16) (V : Nat) (hV : 16 * hexN d + hexN e = V) (w : World) :
    Calls Tryd.prog 64 #[.string t, .int .i64 16, .int .i64 8] w fun e w' => e = .returned (.tuple #[.int .u64 (V : Int), .nilIface]) ∧ Below w.heap.size w w' := by
  have hs : t.size = 2 := by rw [← bytesN_length, ht]; rfl
  have HI := xhexi t hs V (by rw [ht, ← hV]; simp [hexF]) (by rw [ht]; intro c hc; simp at hc; rcases hc with rfl | rfl; exact hd; exact he) w
  clear ht hs hV
  go_enter Tryd.func64, Tryd.ntmps64
  go_wp2_with fail
  refine HI.mono ?_
  rintro e w1 ⟨rfl, rfl⟩
  go_wp2
  go_ret2
  exact ⟨rfl, Lib.bytesWorld_below _ _ _⟩
end Go.Proofs.YteeoakbafbnkhaaDoor
