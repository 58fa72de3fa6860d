/-
  CONTRACTS of the document's small functions over bytes; a string as a list of numbers.
-/
import Derived.Test.YteeoakbafbnkhaaDoorChecked
import Derived.Test.YteeoakbafbnkhaaDoorMath
import Derived.WalkKit
import Derived.WalkLawsBesides
import Derived.WalkSpells
import Derived.Handy
import Derived.Outline
namespace Go.Proofs.YteeoakbafbnkhaaDoor
open Go.RowKit
set_option linter.unusedVariables false

theorem ret_int {k : IntKind} {x y : Int} (h : x = y) : Ending.returned (.int k x) = Ending.returned (.int k y) := by rw [h]
theorem ret_bool {x y : Bool} (h : x = y) : Ending.returned (.bool x) = Ending.returned (.bool y) := by rw [h]

/-! ### Results that lie in a variable of their own (a struct), and numbers behind -/
theorem bodyPost_cell2 {P : Program} {fn : Func} {R : Ending → World → Prop} {a : Act} {w : World} {p u : Tmp} {ty : TypeId} {g : Nat} {t : TypeId} {cs : Array Value} {fr : Nat × Nat} {d : TypeDesc} (h : fn.results = #[.cell p ty, .tmp u])
    (hp : a.tmps.getD p undef = .pointer (some ⟨g, 0, none⟩)) (hd : a.defers = []) (hg : w.heap[g]? = some (.cells cs t fr))
    (hu : P.underlying ty = some d) (hd2 : (match d with | .struct _ | .array _ _ => true | _ => false) = true) (hi : (P.info? ty).map (·.size) = some cs.size)
    (hR : R (.returned (.tuple #[.agg cs, a.tmps.getD u undef])) w) : bodyPost P fn R .ret a w := by
  refine bodyPost_ret ?_ hd hR
  have hp' : a.tmps[p]?.getD undef = .pointer (some ⟨g, 0, none⟩) := by simpa using hp
  simp [results, h, hp', asAddr, run_loadVar_row w g t ty cs fr d hg hu hd2 hi]
theorem bodyPost_cell3 {P : Program} {fn : Func} {R : Ending → World → Prop} {a : Act} {w : World} {p u v : Tmp} {ty : TypeId} {g : Nat} {t : TypeId} {cs : Array Value} {fr : Nat × Nat} {d : TypeDesc} (h : fn.results = #[.cell p ty, .tmp u, .tmp v])
    (hp : a.tmps.getD p undef = .pointer (some ⟨g, 0, none⟩)) (hd : a.defers = []) (hg : w.heap[g]? = some (.cells cs t fr))
    (hu : P.underlying ty = some d) (hd2 : (match d with | .struct _ | .array _ _ => true | _ => false) = true) (hi : (P.info? ty).map (·.size) = some cs.size)
    (hR : R (.returned (.tuple #[.agg cs, a.tmps.getD u undef, a.tmps.getD v undef])) w) : bodyPost P fn R .ret a w := by
  refine bodyPost_ret ?_ hd hR
  have hp' : a.tmps[p]?.getD undef = .pointer (some ⟨g, 0, none⟩) := by simpa using hp
  simp [results, h, hp', asAddr, run_loadVar_row w g t ty cs fr d hg hu hd2 hi]

/-- The bytes of a string, as numbers. -/
def bytesN (s : ByteArray) : List Nat := s.data.toList.map UInt8.toNat
theorem bytesN_length (s : ByteArray) : (bytesN s).length = s.size := by unfold bytesN; rw [List.length_map, Array.length_toList]; rfl
theorem bytesN_lt (s : ByteArray) : ∀ c ∈ bytesN s, c < 256 := by
  intro c hc
  simp only [bytesN, List.mem_map] at hc
  obtain ⟨u, _, rfl⟩ := hc
  exact u.toNat_lt
theorem bytesN_get (s : ByteArray) (k : Nat) (h : k < s.size) : (bytesN s)[k]? = some (s[k]'h).toNat := by
  unfold bytesN
  rw [List.getElem?_map, Array.getElem?_toList]
  have h2 : k < s.data.size := h
  rw [Array.getElem?_eq_getElem h2]; rfl
theorem bytesN_drop (s : ByteArray) (k : Nat) (h : k < s.size) : (bytesN s).drop k = (s[k]'h).toNat :: (bytesN s).drop (k + 1) := by
  have h1 : k < (bytesN s).length := by rw [bytesN_length]; exact h
  rw [List.drop_eq_getElem_cons h1]
  congr 1
  have := bytesN_get s k h
  rw [List.getElem?_eq_getElem h1] at this
  exact Option.some.inj this
theorem bytesN_extract (s : ByteArray) (a b : Nat) : bytesN (s.extract a b) = ((bytesN s).drop a).take (b - a) := by
  unfold bytesN
  rw [ByteArray.data_extract]
  simp [List.map_take, List.map_drop, Array.toList_extract, List.extract]
theorem bytesN_inj {s t : ByteArray} (h : bytesN s = bytesN t) : s = t := by
  unfold bytesN at h
  have h1 : s.data.toList = t.data.toList := by
    have inj : Function.Injective UInt8.toNat := fun a b h => UInt8.toNat_inj.mp h
    exact (List.map_inj_right fun a b h => inj h).mp h
  cases s; cases t
  simp only at h1
  congr 1
  exact Array.toList_inj.mp h1
theorem bytes_same (s t : ByteArray) : (s.toList == t.toList) = decide (bytesN s = bytesN t) := by
  rw [ByteArray.toList_eq, ByteArray.toList_eq, Bool.eq_iff_iff]
  simp only [beq_iff_eq, decide_eq_true_eq]
  constructor
  · intro h; unfold bytesN; rw [h]
  · intro h; rw [bytesN_inj h]

theorem rdigit_any (c : Nat) (w : World) : Calls Tryd.prog 42 #[.int .u8 (c : Int)] w fun e w' => e = .returned (.bool (digitB c)) ∧ w = w' := by
  go_enter Tryd.func42, Tryd.ntmps42
  go_wp2
  all_goals (go_ret; refine ⟨ret_bool ?_, rfl⟩; rw [Bool.eq_iff_iff]; simp [digitB]; omega)
theorem rletter_any (c : Nat) (w : World) : Calls Tryd.prog 36 #[.int .u8 (c : Int)] w fun e w' => e = .returned (.bool (letterB c)) ∧ w = w' := by
  go_enter Tryd.func36, Tryd.ntmps36
  go_wp2
  all_goals (go_ret; refine ⟨ret_bool ?_, rfl⟩; rw [Bool.eq_iff_iff]; simp [letterB]; omega)
theorem rplain_any (c : Nat) (w : World) : Calls Tryd.prog 58 #[.int .u8 (c : Int)] w fun e w' => e = .returned (.bool (plainB c)) ∧ w = w' := by
  go_enter Tryd.func58, Tryd.ntmps58
  go_wp2
  all_goals (go_ret; refine ⟨ret_bool ?_, rfl⟩; rw [Bool.eq_iff_iff]; simp [plainB]; omega)

def hexV (c : Nat) : Int := if hexN c = 16 then -1 else (hexN c : Int)
theorem hexV_dig (c : Nat) (h : 48 ≤ c ∧ c ≤ 57) : (c : Int) - 48 = hexV c := by
  have : hexN c = c - 48 := by unfold hexN; rw [if_pos (by simpa [digitB] using h)]
  unfold hexV; rw [this, if_neg (by omega)]; omega
theorem hexV_low (c : Nat) (h : 97 ≤ c ∧ c ≤ 102) : (c : Int) - 97 + 10 = hexV c := by
  have : hexN c = c - 97 + 10 := by unfold hexN; rw [if_neg (by simp [digitB]; omega), if_pos h]
  unfold hexV; rw [this, if_neg (by omega)]; omega
theorem hexV_up (c : Nat) (h : 65 ≤ c ∧ c ≤ 70) : (c : Int) - 65 + 10 = hexV c := by
  have : hexN c = c - 65 + 10 := by unfold hexN; rw [if_neg (by simp [digitB]; omega), if_neg (by omega), if_pos h]
  unfold hexV; rw [this, if_neg (by omega)]; omega
theorem hexV_none (c : Nat) (h1 : ¬ (48 ≤ c ∧ c ≤ 57)) (h2 : ¬ (97 ≤ c ∧ c ≤ 102)) (h3 : ¬ (65 ≤ c ∧ c ≤ 70)) : -1 = hexV c := by
  have : hexN c = 16 := by unfold hexN; rw [if_neg (by simp [digitB]; omega), if_neg h2, if_neg h3]
  unfold hexV; rw [this, if_pos rfl]
theorem hexN_le (c : Nat) : hexN c ≤ 16 := by
  unfold hexN digitB
  split
  · rename_i h; simp at h; omega
  · split
    · omega
    · split <;> omega
theorem rhex_as (c : Nat) (v : Int) (hv : hexV c = v) (hc : c < 256) (w : World) : Calls Tryd.prog 67 #[.int .u8 (c : Int)] w fun e w' => e = .returned (.int .i64 v) ∧ w = w' := by
  have HV : Hid (hexV c = v) := hv
  clear hv
  by_cases hd : digitB c = true
  · have h1 : 48 ≤ c ∧ c ≤ 57 := by simpa [digitB] using hd
    have HD : Hid (digitB c = true) := hd
    clear hd
    go_enter Tryd.func67, Tryd.ntmps67
    go_wp2_with fail
    refine (rdigit_any c _).mono ?_
    rw [HD.out]
    rintro e wx ⟨rfl, rfl⟩
    go_wp2
    go_ret
    exact ⟨ret_int ((hexV_dig c h1).trans HV.out), rfl⟩
  · have hd' : digitB c = false := by simpa using hd
    have h1 : ¬ (48 ≤ c ∧ c ≤ 57) := by simpa [digitB] using hd
    have HD : Hid (digitB c = false) := hd'
    clear hd hd'
    go_enter Tryd.func67, Tryd.ntmps67
    go_wp2_with fail
    refine (rdigit_any c _).mono ?_
    rw [HD.out]
    rintro e wx ⟨rfl, rfl⟩
    go_wp2
    all_goals (go_ret; refine ⟨ret_int ?_, rfl⟩; rw [← HV.out])
    all_goals (first | exact hexV_low c (by omega) | exact hexV_up c (by omega) | exact hexV_none c h1 (by omega) (by omega))

theorem rends_in (s : ByteArray) (x : Int) (k c : Nat) (hx : x = k) (hk : k < s.size) (hc : (s[k]'hk).toNat = c) (h : s.size ≤ 1048576) (w : World) :
    Calls Tryd.prog 57 #[.string s, .int .i64 x] w fun e w' => e = .returned (.bool (endsB c)) ∧ w = w' := by
  subst hx
  go_enter Tryd.func57, Tryd.ntmps57
  go_wp2
  all_goals (go_ret; refine ⟨ret_bool ?_, rfl⟩; rw [Bool.eq_iff_iff]; simp [endsB]; omega)
theorem rends_out (s : ByteArray) (x : Int) (k : Nat) (hx : x = k) (hk : s.size ≤ k) (h : s.size ≤ 1048576) (w : World) :
    Calls Tryd.prog 57 #[.string s, .int .i64 x] w fun e w' => e = .returned (.bool true) ∧ w = w' := by
  subst hx
  go_enter Tryd.func57, Tryd.ntmps57
  go_wp2
  go_ret
  exact ⟨rfl, rfl⟩
theorem rhas_any (s x : ByteArray) (y : Int) (k : Nat) (hy : y = k) (hk : k ≤ s.size) (h : s.size ≤ 1048576) (hx : x.size ≤ 1048576) (w : World) :
    Calls Tryd.prog 41 #[.string s, .int .i64 y, .string x] w fun e w' => e = .returned (.bool (hasB ((bytesN s).drop k) (bytesN x))) ∧ w = w' := by
  subst hy
  by_cases hle : k + x.size ≤ s.size
  · go_enter Tryd.func41, Tryd.ntmps41
    go_wp2
    go_ret
    refine ⟨ret_bool ?_, rfl⟩
    rw [bytes_same, bytesN_extract, hasB, bytesN_length, Nat.add_sub_cancel_left]
  · have hf : hasB ((bytesN s).drop k) (bytesN x) = false := by
      unfold hasB
      simp only [decide_eq_false_iff_not]
      intro q
      have := congrArg List.length q
      rw [List.length_take, List.length_drop, bytesN_length, bytesN_length] at this
      omega
    rw [hf]
    clear hf
    go_enter Tryd.func41, Tryd.ntmps41
    go_wp2
    go_ret
    exact ⟨rfl, rfl⟩
end Go.Proofs.YteeoakbafbnkhaaDoor
