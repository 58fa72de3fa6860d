/-
  CONTRACT of the document's escape.
-/
import Derived.Test.YteeoakbafbnkhaaDoorWords
namespace Go.Proofs.YteeoakbafbnkhaaDoor
open Go.RowKit
set_option linter.unusedVariables false

theorem ret3' {k1 k2 k3 : IntKind} {a b c a' b' c' : Int} (h1 : a = a') (h2 : b = b') (h3 : c = c') :
    Ending.returned (.tuple #[.int k1 a, .int k2 b, .int k3 c]) = .returned (.tuple #[.int k1 a', .int k2 b', .int k3 c']) := by rw [h1, h2, h3]
/-- What escape answers, as three numbers. -/
def escR (r : List Nat) : Nat × Nat × Nat := match escN r with | .ok (b, k) => (b, k, 0) | .error e => (0, 0, e)
theorem esc_nil : escR [] = (0, 0, 31) := rfl
theorem esc_ends (c : Nat) (r : List Nat) (h : endsB c = true) : escR (c :: r) = (0, 0, 31) := by simp [escR, escN, h]
theorem esc_lit (c : Nat) (r : List Nat) (h : c = 34 ∨ c = 92) : escR (c :: r) = (c, 2, 0) := by rcases h with rfl | rfl <;> rfl
theorem esc_n (r : List Nat) : escR (110 :: r) = (10, 2, 0) := rfl
theorem esc_t (r : List Nat) : escR (116 :: r) = (9, 2, 0) := rfl
theorem esc_r (r : List Nat) : escR (114 :: r) = (13, 2, 0) := rfl
theorem esc_other (c : Nat) (r : List Nat) (h : endsB c = false) (h1 : ¬ c = 34) (h2 : ¬ c = 92) (h3 : ¬ c = 110) (h4 : ¬ c = 116) (h5 : ¬ c = 114) (h6 : ¬ c = 120) : escR (c :: r) = (0, 0, 32) := by
  simp [escR, escN, h, h1, h2, h3, h4, h5, h6]
theorem e120 : endsB 120 = false := rfl
theorem esc_x0 : escR [120] = (0, 0, 31) := rfl
theorem esc_x1 (d : Nat) (r : List Nat) (h : endsB d = true) : escR (120 :: d :: r) = (0, 0, 31) := by simp [escR, escN, h, e120]
theorem esc_x2 (d : Nat) (r : List Nat) (h : endsB d = false) (hd : hexN d = 16) : escR (120 :: d :: r) = (0, 0, 32) := by simp [escR, escN, h, hd, e120]
theorem esc_x3 (d : Nat) (h : endsB d = false) (hd : ¬ hexN d = 16) : escR [120, d] = (0, 0, 31) := by simp [escR, escN, h, hd, e120]
theorem esc_x4 (d e : Nat) (r : List Nat) (h : endsB d = false) (hd : ¬ hexN d = 16) (he : endsB e = true) : escR (120 :: d :: e :: r) = (0, 0, 31) := by simp [escR, escN, h, hd, he, e120]
theorem esc_x5 (d e : Nat) (r : List Nat) (h : endsB d = false) (hd : ¬ hexN d = 16) (he : endsB e = false) (he2 : hexN e = 16) : escR (120 :: d :: e :: r) = (0, 0, 32) := by simp [escR, escN, h, hd, he, he2, e120]
theorem esc_x6 (d e : Nat) (r : List Nat) (h : endsB d = false) (hd : ¬ hexN d = 16) (he : endsB e = false) (he2 : ¬ hexN e = 16) : escR (120 :: d :: e :: r) = (16 * hexN d + hexN e, 4, 0) := by simp [escR, escN, h, hd, he, he2, e120]

set_option maxRecDepth 100000 in
theorem resc_end (s : ByteArray) (k B K X : Nat) (h : s.size ≤ 1048576) (kb : k < s.size) (hk : s.size ≤ k + 1) (HB : Hid ((0 : Int) = B)) (HK : Hid ((0 : Int) = K)) (HX : Hid ((31 : Int) = X)) (w : World) :
    Calls Tryd.prog 59 #[.string s, .int .i64 (k : Int)] w fun e w' => e = .returned (.tuple #[.int .u8 (B : Int), .int .i64 (K : Int), .int .i64 (X : Int)]) ∧ w = w' := by
  go_enter Tryd.func59, Tryd.ntmps59
  go_wp2_with fail
  refine (rends_out s _ (k + 1) (by omega) (by omega) h _).mono ?_
  rintro e wx ⟨rfl, rfl⟩
  go_wp2
  go_ret3
  exact ⟨ret3' HB.out HK.out HX.out, rfl⟩

set_option maxRecDepth 100000 in
theorem resc_ends (s : ByteArray) (k B K X : Nat) (h : s.size ≤ 1048576) (hk : k + 1 < s.size) (c : Nat) (hc : (s[k + 1]'hk).toNat = c) (HE : Hid (endsB c = true)) (HB : Hid ((0 : Int) = B)) (HK : Hid ((0 : Int) = K)) (HX : Hid ((31 : Int) = X)) (w : World) :
    Calls Tryd.prog 59 #[.string s, .int .i64 (k : Int)] w fun e w' => e = .returned (.tuple #[.int .u8 (B : Int), .int .i64 (K : Int), .int .i64 (X : Int)]) ∧ w = w' := by
  go_enter Tryd.func59, Tryd.ntmps59
  go_wp2_with fail
  refine (rends_in s _ (k + 1) c (by omega) hk hc h _).mono ?_
  rw [HE.out]
  rintro e wx ⟨rfl, rfl⟩
  go_wp2
  go_ret3
  exact ⟨ret3' HB.out HK.out HX.out, rfl⟩

set_option maxRecDepth 100000 in
theorem resc_34 (s : ByteArray) (k B K X : Nat) (h : s.size ≤ 1048576) (hk : k + 1 < s.size) (hc : (s[k + 1]'hk).toNat = 34) (HE : Hid (endsB 34 = false)) (HB : Hid ((34 : Int) = B)) (HK : Hid ((2 : Int) = K)) (HX : Hid ((0 : Int) = X)) (w : World) :
    Calls Tryd.prog 59 #[.string s, .int .i64 (k : Int)] w fun e w' => e = .returned (.tuple #[.int .u8 (B : Int), .int .i64 (K : Int), .int .i64 (X : Int)]) ∧ w = w' := by
  go_enter Tryd.func59, Tryd.ntmps59
  go_wp2_with fail
  refine (rends_in s _ (k + 1) 34 (by omega) hk hc h _).mono ?_
  rw [HE.out]
  rintro e wx ⟨rfl, rfl⟩
  go_wp2
  go_ret3
  exact ⟨ret3' HB.out HK.out HX.out, rfl⟩

set_option maxRecDepth 100000 in
theorem resc_92 (s : ByteArray) (k B K X : Nat) (h : s.size ≤ 1048576) (hk : k + 1 < s.size) (hc : (s[k + 1]'hk).toNat = 92) (HE : Hid (endsB 92 = false)) (HB : Hid ((92 : Int) = B)) (HK : Hid ((2 : Int) = K)) (HX : Hid ((0 : Int) = X)) (w : World) :
    Calls Tryd.prog 59 #[.string s, .int .i64 (k : Int)] w fun e w' => e = .returned (.tuple #[.int .u8 (B : Int), .int .i64 (K : Int), .int .i64 (X : Int)]) ∧ w = w' := by
  go_enter Tryd.func59, Tryd.ntmps59
  go_wp2_with fail
  refine (rends_in s _ (k + 1) 92 (by omega) hk hc h _).mono ?_
  rw [HE.out]
  rintro e wx ⟨rfl, rfl⟩
  go_wp2
  go_ret3
  exact ⟨ret3' HB.out HK.out HX.out, rfl⟩

set_option maxRecDepth 100000 in
theorem resc_110 (s : ByteArray) (k B K X : Nat) (h : s.size ≤ 1048576) (hk : k + 1 < s.size) (hc : (s[k + 1]'hk).toNat = 110) (HE : Hid (endsB 110 = false)) (HB : Hid ((10 : Int) = B)) (HK : Hid ((2 : Int) = K)) (HX : Hid ((0 : Int) = X)) (w : World) :
    Calls Tryd.prog 59 #[.string s, .int .i64 (k : Int)] w fun e w' => e = .returned (.tuple #[.int .u8 (B : Int), .int .i64 (K : Int), .int .i64 (X : Int)]) ∧ w = w' := by
  go_enter Tryd.func59, Tryd.ntmps59
  go_wp2_with fail
  refine (rends_in s _ (k + 1) 110 (by omega) hk hc h _).mono ?_
  rw [HE.out]
  rintro e wx ⟨rfl, rfl⟩
  go_wp2
  go_ret3
  exact ⟨ret3' HB.out HK.out HX.out, rfl⟩

set_option maxRecDepth 100000 in
theorem resc_116 (s : ByteArray) (k B K X : Nat) (h : s.size ≤ 1048576) (hk : k + 1 < s.size) (hc : (s[k + 1]'hk).toNat = 116) (HE : Hid (endsB 116 = false)) (HB : Hid ((9 : Int) = B)) (HK : Hid ((2 : Int) = K)) (HX : Hid ((0 : Int) = X)) (w : World) :
    Calls Tryd.prog 59 #[.string s, .int .i64 (k : Int)] w fun e w' => e = .returned (.tuple #[.int .u8 (B : Int), .int .i64 (K : Int), .int .i64 (X : Int)]) ∧ w = w' := by
  go_enter Tryd.func59, Tryd.ntmps59
  go_wp2_with fail
  refine (rends_in s _ (k + 1) 116 (by omega) hk hc h _).mono ?_
  rw [HE.out]
  rintro e wx ⟨rfl, rfl⟩
  go_wp2
  go_ret3
  exact ⟨ret3' HB.out HK.out HX.out, rfl⟩

set_option maxRecDepth 100000 in
theorem resc_114 (s : ByteArray) (k B K X : Nat) (h : s.size ≤ 1048576) (hk : k + 1 < s.size) (hc : (s[k + 1]'hk).toNat = 114) (HE : Hid (endsB 114 = false)) (HB : Hid ((13 : Int) = B)) (HK : Hid ((2 : Int) = K)) (HX : Hid ((0 : Int) = X)) (w : World) :
    Calls Tryd.prog 59 #[.string s, .int .i64 (k : Int)] w fun e w' => e = .returned (.tuple #[.int .u8 (B : Int), .int .i64 (K : Int), .int .i64 (X : Int)]) ∧ w = w' := by
  go_enter Tryd.func59, Tryd.ntmps59
  go_wp2_with fail
  refine (rends_in s _ (k + 1) 114 (by omega) hk hc h _).mono ?_
  rw [HE.out]
  rintro e wx ⟨rfl, rfl⟩
  go_wp2
  go_ret3
  exact ⟨ret3' HB.out HK.out HX.out, rfl⟩

set_option maxRecDepth 100000 in
theorem resc_other (s : ByteArray) (k B K X : Nat) (h : s.size ≤ 1048576) (hk : k + 1 < s.size) (c : Nat) (hc : (s[k + 1]'hk).toNat = c) (HE : Hid (endsB c = false)) (e1 : ((c : Int) == 34) = false) (e2 : ((c : Int) == 92) = false) (e3 : ((c : Int) == 110) = false) (e4 : ((c : Int) == 116) = false) (e5 : ((c : Int) == 114) = false) (e6 : ((c : Int) == 120) = false) (HB : Hid ((0 : Int) = B)) (HK : Hid ((0 : Int) = K)) (HX : Hid ((32 : Int) = X)) (w : World) :
    Calls Tryd.prog 59 #[.string s, .int .i64 (k : Int)] w fun e w' => e = .returned (.tuple #[.int .u8 (B : Int), .int .i64 (K : Int), .int .i64 (X : Int)]) ∧ w = w' := by
  go_enter Tryd.func59, Tryd.ntmps59
  go_wp2_with fail
  refine (rends_in s _ (k + 1) c (by omega) hk hc h _).mono ?_
  rw [HE.out]
  rintro e wx ⟨rfl, rfl⟩
  go_wp2
  go_ret3
  exact ⟨ret3' HB.out HK.out HX.out, rfl⟩

def XRel0 (n i : Value) : Prop := n = .int .i64 0 ∧ i = .int .i64 2
def XRel1 (v : Int) (n i : Value) : Prop := (n = .int .i64 0 ∧ i = .int .i64 2) ∨ (n = .int .i64 v ∧ i = .int .i64 3)
def XRel2 (v u : Int) (n i : Value) : Prop := (n = .int .i64 0 ∧ i = .int .i64 2) ∨ (n = .int .i64 v ∧ i = .int .i64 3) ∨ (n = .int .i64 (16 * v + u) ∧ i = .int .i64 4)

set_option maxRecDepth 100000 in
theorem resc_x0 (s : ByteArray) (k B K X : Nat) (h : s.size ≤ 1048576) (hk : k + 1 < s.size) (hc : (s[k + 1]'hk).toNat = 120) (HE : Hid (endsB 120 = false)) (h2 : s.size ≤ k + 2) (HB : Hid ((0 : Int) = B)) (HK : Hid ((0 : Int) = K)) (HX : Hid ((31 : Int) = X)) (w : World) :
    Calls Tryd.prog 59 #[.string s, .int .i64 (k : Int)] w fun e w' => e = .returned (.tuple #[.int .u8 (B : Int), .int .i64 (K : Int), .int .i64 (X : Int)]) ∧ w = w' := by
  go_enter Tryd.func59, Tryd.ntmps59
  go_wp2_with fail
  refine (rends_in s _ (k + 1) 120 (by omega) hk hc h _).mono ?_
  rw [HE.out]
  rintro e wx ⟨rfl, rfl⟩
  go_wp2_with fail
  go_loop [7, 8] (fun n i => XRel0 n i) (fun _ i => 4 - (intOf i).toNat)
  case atStart => exact ⟨rfl, rfl⟩
  case round =>
    obtain ⟨rfl, rfl⟩ := hrel
    go_wp2_with fail
    refine (rends_out s _ (k + 2) (by omega) (by omega) h _).mono ?_
    rintro e wx ⟨rfl, rfl⟩
    go_wp2
    go_ret3
    exact ⟨ret3' HB.out HK.out HX.out, rfl⟩

set_option maxRecDepth 100000 in
theorem resc_x1 (s : ByteArray) (k B K X : Nat) (h : s.size ≤ 1048576) (hk : k + 1 < s.size) (hc : (s[k + 1]'hk).toNat = 120) (HE : Hid (endsB 120 = false)) (hk2 : k + 2 < s.size) (d : Nat) (hd : (s[k + 2]'hk2).toNat = d) (HD : Hid (endsB d = true)) (HB : Hid ((0 : Int) = B)) (HK : Hid ((0 : Int) = K)) (HX : Hid ((31 : Int) = X)) (w : World) :
    Calls Tryd.prog 59 #[.string s, .int .i64 (k : Int)] w fun e w' => e = .returned (.tuple #[.int .u8 (B : Int), .int .i64 (K : Int), .int .i64 (X : Int)]) ∧ w = w' := by
  go_enter Tryd.func59, Tryd.ntmps59
  go_wp2_with fail
  refine (rends_in s _ (k + 1) 120 (by omega) hk hc h _).mono ?_
  rw [HE.out]
  rintro e wx ⟨rfl, rfl⟩
  go_wp2_with fail
  go_loop [7, 8] (fun n i => XRel0 n i) (fun _ i => 4 - (intOf i).toNat)
  case atStart => exact ⟨rfl, rfl⟩
  case round =>
    obtain ⟨rfl, rfl⟩ := hrel
    go_wp2_with fail
    refine (rends_in s _ (k + 2) d (by omega) hk2 hd h _).mono ?_
    rw [HD.out]
    rintro e wx ⟨rfl, rfl⟩
    go_wp2
    go_ret3
    exact ⟨ret3' HB.out HK.out HX.out, rfl⟩

set_option maxRecDepth 100000 in
theorem resc_x2 (s : ByteArray) (k B K X : Nat) (h : s.size ≤ 1048576) (hk : k + 1 < s.size) (hc : (s[k + 1]'hk).toNat = 120) (HE : Hid (endsB 120 = false)) (hk2 : k + 2 < s.size) (d : Nat) (hd : (s[k + 2]'hk2).toNat = d) (HD : Hid (endsB d = false)) (HV : Hid (hexV d = -1)) (HB : Hid ((0 : Int) = B)) (HK : Hid ((0 : Int) = K)) (HX : Hid ((32 : Int) = X)) (w : World) :
    Calls Tryd.prog 59 #[.string s, .int .i64 (k : Int)] w fun e w' => e = .returned (.tuple #[.int .u8 (B : Int), .int .i64 (K : Int), .int .i64 (X : Int)]) ∧ w = w' := by
  go_enter Tryd.func59, Tryd.ntmps59
  go_wp2_with fail
  refine (rends_in s _ (k + 1) 120 (by omega) hk hc h _).mono ?_
  rw [HE.out]
  rintro e wx ⟨rfl, rfl⟩
  go_wp2_with fail
  go_loop [7, 8] (fun n i => XRel0 n i) (fun _ i => 4 - (intOf i).toNat)
  case atStart => exact ⟨rfl, rfl⟩
  case round =>
    obtain ⟨rfl, rfl⟩ := hrel
    go_wp2_with fail
    refine (rends_in s _ (k + 2) d (by omega) hk2 hd h _).mono ?_
    rw [HD.out]
    rintro e wx ⟨rfl, rfl⟩
    go_wp2_with fail
    refine (rhex_as d (-1) HV.out (by have h9 := UInt8.toNat_lt (s[k + 2]'hk2); omega) _).mono ?_
    rintro e wx ⟨rfl, rfl⟩
    go_wp2
    go_ret3
    exact ⟨ret3' HB.out HK.out HX.out, rfl⟩

set_option maxRecDepth 100000 in
theorem resc_x3 (s : ByteArray) (k B K X : Nat) (h : s.size ≤ 1048576) (hk : k + 1 < s.size) (hc : (s[k + 1]'hk).toNat = 120) (HE : Hid (endsB 120 = false)) (hk2 : k + 2 < s.size) (d : Nat) (hd : (s[k + 2]'hk2).toNat = d) (HD : Hid (endsB d = false)) (v : Int) (HV : Hid (hexV d = v)) (v0 : 0 ≤ v) (v16 : v < 16) (h3 : s.size ≤ k + 3) (HB : Hid ((0 : Int) = B)) (HK : Hid ((0 : Int) = K)) (HX : Hid ((31 : Int) = X)) (w : World) :
    Calls Tryd.prog 59 #[.string s, .int .i64 (k : Int)] w fun e w' => e = .returned (.tuple #[.int .u8 (B : Int), .int .i64 (K : Int), .int .i64 (X : Int)]) ∧ w = w' := by
  go_enter Tryd.func59, Tryd.ntmps59
  go_wp2_with fail
  refine (rends_in s _ (k + 1) 120 (by omega) hk hc h _).mono ?_
  rw [HE.out]
  rintro e wx ⟨rfl, rfl⟩
  go_wp2_with fail
  go_loop [7, 8] (fun n i => XRel1 v n i) (fun _ i => 4 - (intOf i).toNat)
  case atStart => exact .inl ⟨rfl, rfl⟩
  case round =>
    rcases hrel with hr | hr
    · obtain ⟨rfl, rfl⟩ := hr
      go_wp2_with fail
      refine (rends_in s _ (k + 2) d (by omega) hk2 hd h _).mono ?_
      rw [HD.out]
      rintro e wx ⟨rfl, rfl⟩
      go_wp2_with fail
      refine (rhex_as d v HV.out (by have h9 := UInt8.toNat_lt (s[k + 2]'hk2); omega) _).mono ?_
      rintro e wx ⟨rfl, rfl⟩
      go_wp2
      go_round
      case rel => exact .inr ⟨rfl, rfl⟩
      case measure => simp [intOf]
    · obtain ⟨rfl, rfl⟩ := hr
      go_wp2_with fail
      refine (rends_out s _ (k + 3) (by omega) (by omega) h _).mono ?_
      rintro e wx ⟨rfl, rfl⟩
      go_wp2
      go_ret3
      exact ⟨ret3' HB.out HK.out HX.out, rfl⟩

set_option maxRecDepth 100000 in
theorem resc_x4 (s : ByteArray) (k B K X : Nat) (h : s.size ≤ 1048576) (hk : k + 1 < s.size) (hc : (s[k + 1]'hk).toNat = 120) (HE : Hid (endsB 120 = false)) (hk2 : k + 2 < s.size) (d : Nat) (hd : (s[k + 2]'hk2).toNat = d) (HD : Hid (endsB d = false)) (v : Int) (HV : Hid (hexV d = v)) (v0 : 0 ≤ v) (v16 : v < 16) (hk3 : k + 3 < s.size) (x : Nat) (hx : (s[k + 3]'hk3).toNat = x) (HX2 : Hid (endsB x = true)) (HB : Hid ((0 : Int) = B)) (HK : Hid ((0 : Int) = K)) (HX : Hid ((31 : Int) = X)) (w : World) :
    Calls Tryd.prog 59 #[.string s, .int .i64 (k : Int)] w fun e w' => e = .returned (.tuple #[.int .u8 (B : Int), .int .i64 (K : Int), .int .i64 (X : Int)]) ∧ w = w' := by
  go_enter Tryd.func59, Tryd.ntmps59
  go_wp2_with fail
  refine (rends_in s _ (k + 1) 120 (by omega) hk hc h _).mono ?_
  rw [HE.out]
  rintro e wx ⟨rfl, rfl⟩
  go_wp2_with fail
  go_loop [7, 8] (fun n i => XRel1 v n i) (fun _ i => 4 - (intOf i).toNat)
  case atStart => exact .inl ⟨rfl, rfl⟩
  case round =>
    rcases hrel with hr | hr
    · obtain ⟨rfl, rfl⟩ := hr
      go_wp2_with fail
      refine (rends_in s _ (k + 2) d (by omega) hk2 hd h _).mono ?_
      rw [HD.out]
      rintro e wx ⟨rfl, rfl⟩
      go_wp2_with fail
      refine (rhex_as d v HV.out (by have h9 := UInt8.toNat_lt (s[k + 2]'hk2); omega) _).mono ?_
      rintro e wx ⟨rfl, rfl⟩
      go_wp2
      go_round
      case rel => exact .inr ⟨rfl, rfl⟩
      case measure => simp [intOf]
    · obtain ⟨rfl, rfl⟩ := hr
      go_wp2_with fail
      refine (rends_in s _ (k + 3) x (by omega) hk3 hx h _).mono ?_
      rw [HX2.out]
      rintro e wx ⟨rfl, rfl⟩
      go_wp2
      go_ret3
      exact ⟨ret3' HB.out HK.out HX.out, rfl⟩

set_option maxRecDepth 100000 in
theorem resc_x5 (s : ByteArray) (k B K X : Nat) (h : s.size ≤ 1048576) (hk : k + 1 < s.size) (hc : (s[k + 1]'hk).toNat = 120) (HE : Hid (endsB 120 = false)) (hk2 : k + 2 < s.size) (d : Nat) (hd : (s[k + 2]'hk2).toNat = d) (HD : Hid (endsB d = false)) (v : Int) (HV : Hid (hexV d = v)) (v0 : 0 ≤ v) (v16 : v < 16) (hk3 : k + 3 < s.size) (x : Nat) (hx : (s[k + 3]'hk3).toNat = x) (HX2 : Hid (endsB x = false)) (HU : Hid (hexV x = -1)) (HB : Hid ((0 : Int) = B)) (HK : Hid ((0 : Int) = K)) (HX : Hid ((32 : Int) = X)) (w : World) :
    Calls Tryd.prog 59 #[.string s, .int .i64 (k : Int)] w fun e w' => e = .returned (.tuple #[.int .u8 (B : Int), .int .i64 (K : Int), .int .i64 (X : Int)]) ∧ w = w' := by
  go_enter Tryd.func59, Tryd.ntmps59
  go_wp2_with fail
  refine (rends_in s _ (k + 1) 120 (by omega) hk hc h _).mono ?_
  rw [HE.out]
  rintro e wx ⟨rfl, rfl⟩
  go_wp2_with fail
  go_loop [7, 8] (fun n i => XRel1 v n i) (fun _ i => 4 - (intOf i).toNat)
  case atStart => exact .inl ⟨rfl, rfl⟩
  case round =>
    rcases hrel with hr | hr
    · obtain ⟨rfl, rfl⟩ := hr
      go_wp2_with fail
      refine (rends_in s _ (k + 2) d (by omega) hk2 hd h _).mono ?_
      rw [HD.out]
      rintro e wx ⟨rfl, rfl⟩
      go_wp2_with fail
      refine (rhex_as d v HV.out (by have h9 := UInt8.toNat_lt (s[k + 2]'hk2); omega) _).mono ?_
      rintro e wx ⟨rfl, rfl⟩
      go_wp2
      go_round
      case rel => exact .inr ⟨rfl, rfl⟩
      case measure => simp [intOf]
    · obtain ⟨rfl, rfl⟩ := hr
      go_wp2_with fail
      refine (rends_in s _ (k + 3) x (by omega) hk3 hx h _).mono ?_
      rw [HX2.out]
      rintro e wx ⟨rfl, rfl⟩
      go_wp2_with fail
      refine (rhex_as x (-1) HU.out (by have h9 := UInt8.toNat_lt (s[k + 3]'hk3); omega) _).mono ?_
      rintro e wx ⟨rfl, rfl⟩
      go_wp2
      go_ret3
      exact ⟨ret3' HB.out HK.out HX.out, rfl⟩

set_option maxRecDepth 100000 in
theorem resc_x6 (s : ByteArray) (k B K X : Nat) (h : s.size ≤ 1048576) (hk : k + 1 < s.size) (hc : (s[k + 1]'hk).toNat = 120) (HE : Hid (endsB 120 = false)) (hk2 : k + 2 < s.size) (d : Nat) (hd : (s[k + 2]'hk2).toNat = d) (HD : Hid (endsB d = false)) (v : Int) (HV : Hid (hexV d = v)) (v0 : 0 ≤ v) (v16 : v < 16) (hk3 : k + 3 < s.size) (x : Nat) (hx : (s[k + 3]'hk3).toNat = x) (HX2 : Hid (endsB x = false)) (u : Int) (HU : Hid (hexV x = u)) (u0 : 0 ≤ u) (u16 : u < 16) (HB : Hid ((16 * v + u : Int) = B)) (HK : Hid ((4 : Int) = K)) (HX : Hid ((0 : Int) = X)) (w : World) :
    Calls Tryd.prog 59 #[.string s, .int .i64 (k : Int)] w fun e w' => e = .returned (.tuple #[.int .u8 (B : Int), .int .i64 (K : Int), .int .i64 (X : Int)]) ∧ w = w' := by
  go_enter Tryd.func59, Tryd.ntmps59
  go_wp2_with fail
  refine (rends_in s _ (k + 1) 120 (by omega) hk hc h _).mono ?_
  rw [HE.out]
  rintro e wx ⟨rfl, rfl⟩
  go_wp2_with fail
  go_loop [7, 8] (fun n i => XRel2 v u n i) (fun _ i => 4 - (intOf i).toNat)
  case atStart => exact .inl ⟨rfl, rfl⟩
  case round =>
    rcases hrel with hr | hr | hr
    · obtain ⟨rfl, rfl⟩ := hr
      go_wp2_with fail
      refine (rends_in s _ (k + 2) d (by omega) hk2 hd h _).mono ?_
      rw [HD.out]
      rintro e wx ⟨rfl, rfl⟩
      go_wp2_with fail
      refine (rhex_as d v HV.out (by have h9 := UInt8.toNat_lt (s[k + 2]'hk2); omega) _).mono ?_
      rintro e wx ⟨rfl, rfl⟩
      go_wp2
      go_round
      case rel => exact .inr (.inl ⟨rfl, rfl⟩)
      case measure => simp [intOf]
    · obtain ⟨rfl, rfl⟩ := hr
      go_wp2_with fail
      refine (rends_in s _ (k + 3) x (by omega) hk3 hx h _).mono ?_
      rw [HX2.out]
      rintro e wx ⟨rfl, rfl⟩
      go_wp2_with fail
      refine (rhex_as x u HU.out (by have h9 := UInt8.toNat_lt (s[k + 3]'hk3); omega) _).mono ?_
      rintro e wx ⟨rfl, rfl⟩
      go_wp2
      go_round
      case rel => exact .inr (.inr ⟨rfl, rfl⟩)
      case measure => simp [intOf]
    · obtain ⟨rfl, rfl⟩ := hr
      have hz : 16 * v + u ≤ 255 := by omega
      have hz0 : 0 ≤ 16 * v + u := by omega
      go_wp2
      go_ret3
      exact ⟨ret3' HB.out HK.out HX.out, rfl⟩

theorem hexV_of (c : Nat) (h : ¬ hexN c = 16) : hexV c = (hexN c : Int) := by unfold hexV; rw [if_neg h]
theorem hexV_no (c : Nat) (h : hexN c = 16) : hexV c = -1 := by unfold hexV; rw [if_pos h]
theorem resc_as (s : ByteArray) (y : Int) (k B K X : Nat) (hy : y = k) (kb : k < s.size) (h : s.size ≤ 1048576) (hR : escR ((bytesN s).drop (k + 1)) = (B, K, X)) (w : World) :
    Calls Tryd.prog 59 #[.string s, .int .i64 y] w fun e w' => e = .returned (.tuple #[.int .u8 (B : Int), .int .i64 (K : Int), .int .i64 (X : Int)]) ∧ w = w' := by
  subst hy
  by_cases h1 : k + 1 < s.size
  · obtain ⟨c, hc⟩ : ∃ c, (s[k + 1]'h1).toNat = c := ⟨_, rfl⟩
    rw [bytesN_drop s (k + 1) h1, hc] at hR
    by_cases he : endsB c = true
    · rw [esc_ends c _ he] at hR; simp only [Prod.mk.injEq] at hR; obtain ⟨rfl, rfl, rfl⟩ := hR
      exact resc_ends s k _ _ _ h h1 c hc he rfl rfl rfl w
    · have he' : endsB c = false := by simpa using he
      by_cases a1 : c = 34
      · subst a1; rw [esc_lit 34 _ (.inl rfl)] at hR; simp only [Prod.mk.injEq] at hR; obtain ⟨rfl, rfl, rfl⟩ := hR
        exact resc_34 s k _ _ _ h h1 hc he' rfl rfl rfl w
      by_cases a2 : c = 92
      · subst a2; rw [esc_lit 92 _ (.inr rfl)] at hR; simp only [Prod.mk.injEq] at hR; obtain ⟨rfl, rfl, rfl⟩ := hR
        exact resc_92 s k _ _ _ h h1 hc he' rfl rfl rfl w
      by_cases a3 : c = 110
      · subst a3; rw [esc_n] at hR; simp only [Prod.mk.injEq] at hR; obtain ⟨rfl, rfl, rfl⟩ := hR
        exact resc_110 s k _ _ _ h h1 hc he' rfl rfl rfl w
      by_cases a4 : c = 116
      · subst a4; rw [esc_t] at hR; simp only [Prod.mk.injEq] at hR; obtain ⟨rfl, rfl, rfl⟩ := hR
        exact resc_116 s k _ _ _ h h1 hc he' rfl rfl rfl w
      by_cases a5 : c = 114
      · subst a5; rw [esc_r] at hR; simp only [Prod.mk.injEq] at hR; obtain ⟨rfl, rfl, rfl⟩ := hR
        exact resc_114 s k _ _ _ h h1 hc he' rfl rfl rfl w
      by_cases a6 : c = 120
      · subst a6
        by_cases h2 : k + 2 < s.size
        · obtain ⟨d, hd⟩ : ∃ d, (s[k + 2]'h2).toNat = d := ⟨_, rfl⟩
          rw [bytesN_drop s (k + 2) h2, hd] at hR
          by_cases hed : endsB d = true
          · rw [esc_x1 d _ hed] at hR; simp only [Prod.mk.injEq] at hR; obtain ⟨rfl, rfl, rfl⟩ := hR
            exact resc_x1 s k _ _ _ h h1 hc he' h2 d hd hed rfl rfl rfl w
          · have hed' : endsB d = false := by simpa using hed
            by_cases hhd : hexN d = 16
            · rw [esc_x2 d _ hed' hhd] at hR; simp only [Prod.mk.injEq] at hR; obtain ⟨rfl, rfl, rfl⟩ := hR
              exact resc_x2 s k _ _ _ h h1 hc he' h2 d hd hed' (hexV_no d hhd) rfl rfl rfl w
            · have ld := hexN_le d
              by_cases h3 : k + 3 < s.size
              · obtain ⟨x, hx⟩ : ∃ x, (s[k + 3]'h3).toNat = x := ⟨_, rfl⟩
                rw [bytesN_drop s (k + 3) h3, hx] at hR
                by_cases hex : endsB x = true
                · rw [esc_x4 d x _ hed' hhd hex] at hR; simp only [Prod.mk.injEq] at hR; obtain ⟨rfl, rfl, rfl⟩ := hR
                  exact resc_x4 s k _ _ _ h h1 hc he' h2 d hd hed' _ (hexV_of d hhd) (by omega) (by omega) h3 x hx hex rfl rfl rfl w
                · have hex' : endsB x = false := by simpa using hex
                  by_cases hhx : hexN x = 16
                  · rw [esc_x5 d x _ hed' hhd hex' hhx] at hR; simp only [Prod.mk.injEq] at hR; obtain ⟨rfl, rfl, rfl⟩ := hR
                    exact resc_x5 s k _ _ _ h h1 hc he' h2 d hd hed' _ (hexV_of d hhd) (by omega) (by omega) h3 x hx hex' (hexV_no x hhx) rfl rfl rfl w
                  · have lx := hexN_le x
                    rw [esc_x6 d x _ hed' hhd hex' hhx] at hR; simp only [Prod.mk.injEq] at hR; obtain ⟨rfl, rfl, rfl⟩ := hR
                    exact resc_x6 s k _ _ _ h h1 hc he' h2 d hd hed' _ (hexV_of d hhd) (by omega) (by omega) h3 x hx hex' _ (hexV_of x hhx) (by omega) (by omega) (by unfold Hid; omega) rfl rfl w
              · rw [show (bytesN s).drop (k + 2 + 1) = [] from List.drop_eq_nil_of_le (by rw [bytesN_length]; omega), esc_x3 d hed' hhd] at hR; simp only [Prod.mk.injEq] at hR; obtain ⟨rfl, rfl, rfl⟩ := hR
                exact resc_x3 s k _ _ _ h h1 hc he' h2 d hd hed' _ (hexV_of d hhd) (by omega) (by omega) (by omega) rfl rfl rfl w
        · rw [show (bytesN s).drop (k + 1 + 1) = [] from List.drop_eq_nil_of_le (by rw [bytesN_length]; omega), esc_x0] at hR; simp only [Prod.mk.injEq] at hR; obtain ⟨rfl, rfl, rfl⟩ := hR
          exact resc_x0 s k _ _ _ h h1 hc he' (by omega) rfl rfl rfl w
      · rw [esc_other c _ he' a1 a2 a3 a4 a5 a6] at hR; simp only [Prod.mk.injEq] at hR; obtain ⟨rfl, rfl, rfl⟩ := hR
        exact resc_other s k _ _ _ h h1 c hc he' (by simp; omega) (by simp; omega) (by simp; omega) (by simp; omega) (by simp; omega) (by simp; omega) rfl rfl rfl w
  · rw [show (bytesN s).drop (k + 1) = [] from List.drop_eq_nil_of_le (by rw [bytesN_length]; omega), esc_nil] at hR; simp only [Prod.mk.injEq] at hR; obtain ⟨rfl, rfl, rfl⟩ := hR
    exact resc_end s k _ _ _ h kb (by omega) rfl rfl rfl w
end Go.Proofs.YteeoakbafbnkhaaDoor
