/-
  CONTRACTS of the document's put, Encode, Size, Name.
-/
import Derived.Test.YtffnlcamobekoaaDoorRs
namespace Go.Proofs.YtffnlcamobekoaaDoor
open Go.RowKit
set_option linter.unusedVariables false

/-- What put answers: the row with more behind; what it keeps. -/
def PutRet (w : World) (v : Value) (ys : List Nat) (e : Ending) (w' : World) : Prop :=
  ∃ v', e = .returned v' ∧ Rw w' 5 1 v' ys.length (nums ys) ∧ (∀ b, v'.ownBlock = some b → v.ownBlock = some b ∨ w.heap.size ≤ b) ∧ Fr (fun b => v.ownBlock = some b) w w'
def PutRel (w : World) (v : Value) (xs : List Nat) (U : Nat) (k : Nat) (b : Value) (wr : World) : Prop :=
  ∃ a c, b = .slice a (xs.length + k) c ∧ Rw wr 5 1 b (xs.length + k) (nums (xs ++ fixN U k)) ∧ (∀ g, b.ownBlock = some g → v.ownBlock = some g ∨ w.heap.size ≤ g) ∧ Fr (fun g => v.ownBlock = some g) w wr
theorem putRel_step {w : World} {v : Value} {xs : List Nat} {U k : Nat} {a : Option Addr} {c : Nat} {wr : World} (h : PutRel w v xs U k (.slice a (xs.length + k) c) wr) {m : Int} (hm : m = ((U / 256 ^ k % 256 : Nat) : Int)) {ao : Option Addr} {cap : Nat} {wz : World}
    (q1 : Rw wz 5 1 (.slice ao (xs.length + k + 1) cap) (xs.length + k + 1) (nums (xs ++ fixN U k) ++ [.int .u8 m])) (q2 : (wr.alloc (.cells #[.int .u8 m] 5)).grownBy wz (Value.slice a (xs.length + k) c).ownBlock)
    (q3 : (Value.slice ao (xs.length + k + 1) cap).ownBlock = (Value.slice a (xs.length + k) c).ownBlock ∨ (Value.slice ao (xs.length + k + 1) cap).ownBlock = some (wr.alloc (.cells #[.int .u8 m] 5)).heap.size) :
    PutRel w v xs U (k + 1) (.slice ao (xs.length + k + 1) cap) wz := by
  obtain ⟨a', c', e, h1, h2, h3⟩ := h
  cases e
  refine ⟨ao, cap, rfl, ?_, ?_, ?_⟩
  · have e : nums (xs ++ fixN U (k + 1)) = nums (xs ++ fixN U k) ++ [.int .u8 m] := by
      rw [fixN_succ, ← List.append_assoc, nums_append, hm]; rfl
    rw [e]; exact q1
  · intro g hg
    rcases q3 with q | q
    · rw [q] at hg; exact h2 g hg
    · rw [q] at hg
      cases hg
      exact .inr (Nat.le_trans h3.size (by simp))
  · refine (h3.alloc (.cells #[.int .u8 m] 5)).grown q2 fun j hj e => ?_
    rcases h2 j e with q | q
    · exact q
    · omega
set_option maxHeartbeats 1000000 in
theorem rput_as {w : World} {v : Value} {xs : List Nat} (h : Rw w 5 1 v xs.length (nums xs)) (n : Int) (s : Nat) (hs : s ≤ 8) (hx : xs.length ≤ 9000000) :
    Calls Tryd.prog 35 #[v, .int .i64 n, .int .i64 (s : Int)] w (PutRet w v (xs ++ fixN (n % 18446744073709551616).toNat s)) := by
  obtain ⟨U, hU⟩ := Int.eq_ofNat_of_zero_le (show 0 ≤ n % 18446744073709551616 from Int.emod_nonneg _ (by decide))
  have hU2 : IntKind.u64.wrap n = (U : Int) := by rw [IntKind.wrap_u64]; exact hU
  rw [hU, Int.toNat_natCast]
  obtain ⟨a0, c0, rfl, -⟩ := h.shape
  have R0 : PutRel w (.slice a0 xs.length c0) xs U 0 (.slice a0 xs.length c0) w := ⟨a0, c0, rfl, by simpa [fixN] using h, fun g e => .inl e, Fr.refl _ _⟩
  obtain ⟨XL, hXL⟩ : ∃ XL, xs.length = XL := ⟨_, rfl⟩
  have HXL : Hid (xs.length = XL) := hXL
  rw [hXL] at R0 h hx ⊢
  clear h hXL
  go_enter Tryd.func35, Tryd.ntmps35
  go_wp2_with fail
  go_loopw [0, 7] (fun b i wr => ∃ k : Nat, k ≤ s ∧ i = .int .i64 (k : Int) ∧ PutRel w (.slice a0 XL c0) xs U k b wr) (fun _ i _ => s - (intOf i).toNat)
  case atStart => exact ⟨0, Nat.zero_le _, rfl, R0⟩
  case round =>
    clear R0
    obtain ⟨k, hk, rfl, a, c, rfl, hR, h2, h3⟩ := hrel
    have HP : Hid (PutRel w (.slice a0 XL c0) xs U k (.slice a (xs.length + k) c) wr) := ⟨a, c, rfl, hR, h2, h3⟩
    rw [HXL.out] at HP hR ⊢
    clear h2 h3
    by_cases hlt : k < s
    · have rB := hR.alloc (.cells #[.int .u8 ((U : Int) / 2 ^ (8 * k) % 256)] 5)
      have oB := Own.new wr #[.int .u8 ((U : Int) / 2 ^ (8 * k) % 256)] 5
      have HST : Hid (∀ (ao : Option Addr) (cap : Nat) (wz : World), Rw wz 5 1 (.slice ao (XL + k + 1) cap) (XL + k + 1) (nums (xs ++ fixN U k) ++ [.int .u8 ((U : Int) / 2 ^ (8 * k) % 256)]) → (wr.alloc (.cells #[.int .u8 ((U : Int) / 2 ^ (8 * k) % 256)] 5)).grownBy wz (Value.slice a (XL + k) c).ownBlock → ((Value.slice ao (XL + k + 1) cap).ownBlock = (Value.slice a (XL + k) c).ownBlock ∨ (Value.slice ao (XL + k + 1) cap).ownBlock = some (wr.alloc (.cells #[.int .u8 ((U : Int) / 2 ^ (8 * k) % 256)] 5)).heap.size) → PutRel w (.slice a0 XL c0) xs U (k + 1) (.slice ao (XL + k + 1) cap) wz) := by
        intro ao cap wz q1 q2 q3
        have hp := HP.out
        rw [← HXL.out] at hp q1 q2 q3 ⊢
        exact putRel_step hp (fix_byte U k) q1 q2 q3
      have hlt2 : (k : Int) < (s : Int) := by omega
      have hk8 : 0 ≤ 8 * (k : Int) := by omega
      clear hR HP
      go_wp2_with (refine wpList_app1 okB (by rfl) (.tmp 13) (.tmp 20) (by rfl) _ (XL + k) (nums (xs ++ fixN U k)) (by rfl) rB wr.heap.size [.int .u8 ((U : Int) / 2 ^ (8 * k) % 256)] (by rfl) oB rfl (by simp [Value.oneCell']) (by omega) ?_; intro ao2 cap2 wz q1 q2 q3; have HQ := HST.out ao2 cap2 wz q1 q2 (by simpa using q3); clear q1 q2 q3 rB oB HST)
      go_roundw
      case rel => exact ⟨k + 1, hlt, by go_num, HQ⟩
      case measure => simp [intOf]; omega
    · obtain rfl : k = s := by omega
      have HF : Hid (PutRet w (.slice a0 XL c0) (xs ++ fixN U k) (.returned (.slice a (XL + k) c)) wr) := by
        obtain ⟨a', c', e, p1, p2, p3⟩ := HP.out
        have el : (xs ++ fixN U k).length = XL + k := by rw [List.length_append, fixN_length, HXL.out]
        exact ⟨_, rfl, by rw [el]; exact hR, p2, p3⟩
      clear hR HP
      go_wp2
      go_ret
      exact HF.out
set_option maxRecDepth 100000 in
theorem names_cell (op : Nat) (h : op < 53) : (#[.string ⟨#[]⟩, .string ⟨#[105, 56]⟩, .string ⟨#[105, 51, 50]⟩, .string ⟨#[105, 54, 52]⟩, .string ⟨#[116, 114, 117, 101]⟩, .string ⟨#[102, 97, 108, 115, 101]⟩, .string ⟨#[116, 101, 120, 116]⟩, .string ⟨#[103, 101, 116]⟩, .string ⟨#[112, 117, 116]⟩, .string ⟨#[112, 111, 112]⟩, .string ⟨#[100, 117, 112]⟩, .string ⟨#[97, 100, 100]⟩, .string ⟨#[115, 117, 98]⟩, .string ⟨#[109, 117, 108]⟩, .string ⟨#[100, 105, 118]⟩, .string ⟨#[114, 101, 109]⟩, .string ⟨#[97, 110, 100]⟩, .string ⟨#[111, 114]⟩, .string ⟨#[120, 111, 114]⟩, .string ⟨#[115, 104, 108]⟩, .string ⟨#[115, 104, 114]⟩, .string ⟨#[110, 101, 103]⟩, .string ⟨#[110, 111, 116]⟩, .string ⟨#[101, 113]⟩, .string ⟨#[110, 101]⟩, .string ⟨#[108, 116]⟩, .string ⟨#[108, 101]⟩, .string ⟨#[103, 116]⟩, .string ⟨#[103, 101]⟩, .string ⟨#[99, 111, 110, 118]⟩, .string ⟨#[102, 108, 105, 112]⟩, .string ⟨#[99, 97, 116]⟩, .string ⟨#[115, 105, 122, 101]⟩, .string ⟨#[99, 104, 97, 114, 97, 116]⟩, .string ⟨#[99, 117, 116]⟩, .string ⟨#[98, 121, 116, 101]⟩, .string ⟨#[110, 101, 119]⟩, .string ⟨#[102, 105, 101, 108, 100]⟩, .string ⟨#[115, 101, 116, 102, 105, 101, 108, 100]⟩, .string ⟨#[102, 105, 108, 108]⟩, .string ⟨#[101, 109, 112, 116, 121]⟩, .string ⟨#[97, 116]⟩, .string ⟨#[115, 101, 116, 97, 116]⟩, .string ⟨#[108, 101, 110]⟩, .string ⟨#[112, 117, 115, 104]⟩, .string ⟨#[100, 114, 111, 112]⟩, .string ⟨#[106, 117, 109, 112]⟩, .string ⟨#[117, 110, 108, 101, 115, 115]⟩, .string ⟨#[119, 104, 101, 110]⟩, .string ⟨#[115, 119, 105, 116, 99, 104]⟩, .string ⟨#[99, 97, 108, 108]⟩, .string ⟨#[114, 101, 116, 117, 114, 110]⟩, .string ⟨#[116, 114, 97, 112]⟩] : Array Value)[op]? = some (.string (nameB op)) := by
  show ((nameL.map fun l => Value.string ⟨⟨l⟩⟩).toArray)[op]? = _
  have h2 : op < nameL.length := h
  unfold nameB
  simp [List.getD, h2]
set_option maxHeartbeats 2000000 in
set_option maxRecDepth 100000 in
theorem rname_as (op : Nat) (h256 : op < 256) (w : World) : Calls Tryd.prog 16 #[.int .u8 (op : Int)] w fun e w' => e = .returned (.string (nameB op)) ∧ Below w.heap.size w w' := by
  have oN := Own.new w (#[.string ⟨#[]⟩, .string ⟨#[105, 56]⟩, .string ⟨#[105, 51, 50]⟩, .string ⟨#[105, 54, 52]⟩, .string ⟨#[116, 114, 117, 101]⟩, .string ⟨#[102, 97, 108, 115, 101]⟩, .string ⟨#[116, 101, 120, 116]⟩, .string ⟨#[103, 101, 116]⟩, .string ⟨#[112, 117, 116]⟩, .string ⟨#[112, 111, 112]⟩, .string ⟨#[100, 117, 112]⟩, .string ⟨#[97, 100, 100]⟩, .string ⟨#[115, 117, 98]⟩, .string ⟨#[109, 117, 108]⟩, .string ⟨#[100, 105, 118]⟩, .string ⟨#[114, 101, 109]⟩, .string ⟨#[97, 110, 100]⟩, .string ⟨#[111, 114]⟩, .string ⟨#[120, 111, 114]⟩, .string ⟨#[115, 104, 108]⟩, .string ⟨#[115, 104, 114]⟩, .string ⟨#[110, 101, 103]⟩, .string ⟨#[110, 111, 116]⟩, .string ⟨#[101, 113]⟩, .string ⟨#[110, 101]⟩, .string ⟨#[108, 116]⟩, .string ⟨#[108, 101]⟩, .string ⟨#[103, 116]⟩, .string ⟨#[103, 101]⟩, .string ⟨#[99, 111, 110, 118]⟩, .string ⟨#[102, 108, 105, 112]⟩, .string ⟨#[99, 97, 116]⟩, .string ⟨#[115, 105, 122, 101]⟩, .string ⟨#[99, 104, 97, 114, 97, 116]⟩, .string ⟨#[99, 117, 116]⟩, .string ⟨#[98, 121, 116, 101]⟩, .string ⟨#[110, 101, 119]⟩, .string ⟨#[102, 105, 101, 108, 100]⟩, .string ⟨#[115, 101, 116, 102, 105, 101, 108, 100]⟩, .string ⟨#[102, 105, 108, 108]⟩, .string ⟨#[101, 109, 112, 116, 121]⟩, .string ⟨#[97, 116]⟩, .string ⟨#[115, 101, 116, 97, 116]⟩, .string ⟨#[108, 101, 110]⟩, .string ⟨#[112, 117, 115, 104]⟩, .string ⟨#[100, 114, 111, 112]⟩, .string ⟨#[106, 117, 109, 112]⟩, .string ⟨#[117, 110, 108, 101, 115, 115]⟩, .string ⟨#[119, 104, 101, 110]⟩, .string ⟨#[115, 119, 105, 116, 99, 104]⟩, .string ⟨#[99, 97, 108, 108]⟩, .string ⟨#[114, 101, 116, 117, 114, 110]⟩, .string ⟨#[116, 114, 97, 112]⟩] : Array Value) 9
  have hb0 := new_below w (.cells (#[.string ⟨#[]⟩, .string ⟨#[105, 56]⟩, .string ⟨#[105, 51, 50]⟩, .string ⟨#[105, 54, 52]⟩, .string ⟨#[116, 114, 117, 101]⟩, .string ⟨#[102, 97, 108, 115, 101]⟩, .string ⟨#[116, 101, 120, 116]⟩, .string ⟨#[103, 101, 116]⟩, .string ⟨#[112, 117, 116]⟩, .string ⟨#[112, 111, 112]⟩, .string ⟨#[100, 117, 112]⟩, .string ⟨#[97, 100, 100]⟩, .string ⟨#[115, 117, 98]⟩, .string ⟨#[109, 117, 108]⟩, .string ⟨#[100, 105, 118]⟩, .string ⟨#[114, 101, 109]⟩, .string ⟨#[97, 110, 100]⟩, .string ⟨#[111, 114]⟩, .string ⟨#[120, 111, 114]⟩, .string ⟨#[115, 104, 108]⟩, .string ⟨#[115, 104, 114]⟩, .string ⟨#[110, 101, 103]⟩, .string ⟨#[110, 111, 116]⟩, .string ⟨#[101, 113]⟩, .string ⟨#[110, 101]⟩, .string ⟨#[108, 116]⟩, .string ⟨#[108, 101]⟩, .string ⟨#[103, 116]⟩, .string ⟨#[103, 101]⟩, .string ⟨#[99, 111, 110, 118]⟩, .string ⟨#[102, 108, 105, 112]⟩, .string ⟨#[99, 97, 116]⟩, .string ⟨#[115, 105, 122, 101]⟩, .string ⟨#[99, 104, 97, 114, 97, 116]⟩, .string ⟨#[99, 117, 116]⟩, .string ⟨#[98, 121, 116, 101]⟩, .string ⟨#[110, 101, 119]⟩, .string ⟨#[102, 105, 101, 108, 100]⟩, .string ⟨#[115, 101, 116, 102, 105, 101, 108, 100]⟩, .string ⟨#[102, 105, 108, 108]⟩, .string ⟨#[101, 109, 112, 116, 121]⟩, .string ⟨#[97, 116]⟩, .string ⟨#[115, 101, 116, 97, 116]⟩, .string ⟨#[108, 101, 110]⟩, .string ⟨#[112, 117, 115, 104]⟩, .string ⟨#[100, 114, 111, 112]⟩, .string ⟨#[106, 117, 109, 112]⟩, .string ⟨#[117, 110, 108, 101, 115, 115]⟩, .string ⟨#[119, 104, 101, 110]⟩, .string ⟨#[115, 119, 105, 116, 99, 104]⟩, .string ⟨#[99, 97, 108, 108]⟩, .string ⟨#[114, 101, 116, 117, 114, 110]⟩, .string ⟨#[116, 114, 97, 112]⟩] : Array Value) 9)
  by_cases h : op < 53
  · have hc := oN.cell op
    rw [names_cell op h] at hc
    clear oN
    generalize nameB op = s at *
    have h2 : (op : Int) < 53 := by omega
    have h3 : (0 : Int) ≤ (op : Int) := by omega
    go_enter Tryd.func16, Tryd.ntmps16
    go_upto_region 2 with fail
    generalize w.alloc (.cells (#[.string ⟨#[]⟩, .string ⟨#[105, 56]⟩, .string ⟨#[105, 51, 50]⟩, .string ⟨#[105, 54, 52]⟩, .string ⟨#[116, 114, 117, 101]⟩, .string ⟨#[102, 97, 108, 115, 101]⟩, .string ⟨#[116, 101, 120, 116]⟩, .string ⟨#[103, 101, 116]⟩, .string ⟨#[112, 117, 116]⟩, .string ⟨#[112, 111, 112]⟩, .string ⟨#[100, 117, 112]⟩, .string ⟨#[97, 100, 100]⟩, .string ⟨#[115, 117, 98]⟩, .string ⟨#[109, 117, 108]⟩, .string ⟨#[100, 105, 118]⟩, .string ⟨#[114, 101, 109]⟩, .string ⟨#[97, 110, 100]⟩, .string ⟨#[111, 114]⟩, .string ⟨#[120, 111, 114]⟩, .string ⟨#[115, 104, 108]⟩, .string ⟨#[115, 104, 114]⟩, .string ⟨#[110, 101, 103]⟩, .string ⟨#[110, 111, 116]⟩, .string ⟨#[101, 113]⟩, .string ⟨#[110, 101]⟩, .string ⟨#[108, 116]⟩, .string ⟨#[108, 101]⟩, .string ⟨#[103, 116]⟩, .string ⟨#[103, 101]⟩, .string ⟨#[99, 111, 110, 118]⟩, .string ⟨#[102, 108, 105, 112]⟩, .string ⟨#[99, 97, 116]⟩, .string ⟨#[115, 105, 122, 101]⟩, .string ⟨#[99, 104, 97, 114, 97, 116]⟩, .string ⟨#[99, 117, 116]⟩, .string ⟨#[98, 121, 116, 101]⟩, .string ⟨#[110, 101, 119]⟩, .string ⟨#[102, 105, 101, 108, 100]⟩, .string ⟨#[115, 101, 116, 102, 105, 101, 108, 100]⟩, .string ⟨#[102, 105, 108, 108]⟩, .string ⟨#[101, 109, 112, 116, 121]⟩, .string ⟨#[97, 116]⟩, .string ⟨#[115, 101, 116, 97, 116]⟩, .string ⟨#[108, 101, 110]⟩, .string ⟨#[112, 117, 115, 104]⟩, .string ⟨#[100, 114, 111, 112]⟩, .string ⟨#[106, 117, 109, 112]⟩, .string ⟨#[117, 110, 108, 101, 115, 115]⟩, .string ⟨#[119, 104, 101, 110]⟩, .string ⟨#[115, 119, 105, 116, 99, 104]⟩, .string ⟨#[99, 97, 108, 108]⟩, .string ⟨#[114, 101, 116, 117, 114, 110]⟩, .string ⟨#[116, 114, 97, 112]⟩] : Array Value) 9) = w1 at *
    go_wp2
    go_ret
    exact ⟨rfl, hb0⟩
  · rw [nameB_big op (by omega)]
    clear oN
    have h2 : (53 : Int) ≤ (op : Int) := by omega
    go_enter Tryd.func16, Tryd.ntmps16
    go_upto_region 2 with fail
    generalize w.alloc (.cells (#[.string ⟨#[]⟩, .string ⟨#[105, 56]⟩, .string ⟨#[105, 51, 50]⟩, .string ⟨#[105, 54, 52]⟩, .string ⟨#[116, 114, 117, 101]⟩, .string ⟨#[102, 97, 108, 115, 101]⟩, .string ⟨#[116, 101, 120, 116]⟩, .string ⟨#[103, 101, 116]⟩, .string ⟨#[112, 117, 116]⟩, .string ⟨#[112, 111, 112]⟩, .string ⟨#[100, 117, 112]⟩, .string ⟨#[97, 100, 100]⟩, .string ⟨#[115, 117, 98]⟩, .string ⟨#[109, 117, 108]⟩, .string ⟨#[100, 105, 118]⟩, .string ⟨#[114, 101, 109]⟩, .string ⟨#[97, 110, 100]⟩, .string ⟨#[111, 114]⟩, .string ⟨#[120, 111, 114]⟩, .string ⟨#[115, 104, 108]⟩, .string ⟨#[115, 104, 114]⟩, .string ⟨#[110, 101, 103]⟩, .string ⟨#[110, 111, 116]⟩, .string ⟨#[101, 113]⟩, .string ⟨#[110, 101]⟩, .string ⟨#[108, 116]⟩, .string ⟨#[108, 101]⟩, .string ⟨#[103, 116]⟩, .string ⟨#[103, 101]⟩, .string ⟨#[99, 111, 110, 118]⟩, .string ⟨#[102, 108, 105, 112]⟩, .string ⟨#[99, 97, 116]⟩, .string ⟨#[115, 105, 122, 101]⟩, .string ⟨#[99, 104, 97, 114, 97, 116]⟩, .string ⟨#[99, 117, 116]⟩, .string ⟨#[98, 121, 116, 101]⟩, .string ⟨#[110, 101, 119]⟩, .string ⟨#[102, 105, 101, 108, 100]⟩, .string ⟨#[115, 101, 116, 102, 105, 101, 108, 100]⟩, .string ⟨#[102, 105, 108, 108]⟩, .string ⟨#[101, 109, 112, 116, 121]⟩, .string ⟨#[97, 116]⟩, .string ⟨#[115, 101, 116, 97, 116]⟩, .string ⟨#[108, 101, 110]⟩, .string ⟨#[112, 117, 115, 104]⟩, .string ⟨#[100, 114, 111, 112]⟩, .string ⟨#[106, 117, 109, 112]⟩, .string ⟨#[117, 110, 108, 101, 115, 115]⟩, .string ⟨#[119, 104, 101, 110]⟩, .string ⟨#[115, 119, 105, 116, 99, 104]⟩, .string ⟨#[99, 97, 108, 108]⟩, .string ⟨#[114, 101, 116, 117, 114, 110]⟩, .string ⟨#[116, 114, 97, 112]⟩] : Array Value) 9) = w1 at *
    go_wp2
    go_ret
    exact ⟨rfl, hb0⟩
end Go.Proofs.YtffnlcamobekoaaDoor
