import Derived.Test.YtmhnbklchnnbaaaGreatDoorChecked
import Derived.Test.YtmhnbklchnnbaaaGreatDoorMath
import Derived.WalkKit
import Derived.WalkLawsBesides
import Derived.WalkSpells
import Derived.Handy
import Derived.Outline
import Derived.Below
import Derived.Laws.BytesArg
set_option maxHeartbeats 2000000
set_option maxRecDepth 1000000
namespace Go.Proofs.YtmhnbklchnnbaaaGreatDoor
open Go.RowKit
set_option linter.unusedVariables false
theorem ret_int {k : IntKind} {x y : Int} (h : x = y) : Ending.returned (.int k x) = Ending.returned (.int k y) := by rw [h]
theorem ret_bool {x y : Bool} (h : x = y) : Ending.returned (.bool x) = Ending.returned (.bool y) := by rw [h]
theorem bodyPost_cell3 {P : Program} {fn : Func} {R : Ending → World → Prop} {a : Act} {w : World} {p u v : Tmp} {ty : TypeId} {g : Nat} {t : TypeId} {cs : Array Value} {fr : Nat × Nat} {d : TypeDesc} (h : fn.results = #[.cell p ty, .tmp u, .tmp v])
    (hp : a.tmps.getD p undef = .pointer (some ⟨g, 0, none⟩)) (hd : a.defers = []) (hg : w.heap[g]? = some (.cells cs t fr))
    (hu : P.underlying ty = some d) (hd2 : (match d with | .struct _ | .array _ _ => true | _ => false) = true) (hi : (P.info? ty).map (·.size) = some cs.size)
    (hR : R (.returned (.tuple #[.agg cs, a.tmps.getD u undef, a.tmps.getD v undef])) w) : bodyPost P fn R .ret a w := by
  refine bodyPost_ret ?_ hd hR
  have hp' : a.tmps[p]?.getD undef = .pointer (some ⟨g, 0, none⟩) := by simpa using hp
  simp [results, h, hp', asAddr, run_loadVar_row w g t ty cs fr d hg hu hd2 hi]
def bytesN (s : ByteArray) : List Nat := s.data.toList.map UInt8.toNat
theorem bytesN_length (s : ByteArray) : (bytesN s).length = s.size := by unfold bytesN; rw [List.length_map, Array.length_toList]; rfl
theorem bytesN_lt (s : ByteArray) : ∀ c ∈ bytesN s, c < 256 := by
  intro c hc
  simp only [bytesN, List.mem_map] at hc
  obtain ⟨u, _, rfl⟩ := hc
  exact u.toNat_lt
theorem bytesN_get (s : ByteArray) (k : Nat) (h : k < s.size) : (bytesN s)[k]? = some (s[k]'h).toNat := by
  unfold bytesN
  rw [List.getElem?_map, Array.getElem?_toList]
  have h2 : k < s.data.size := h
  rw [Array.getElem?_eq_getElem h2]; rfl
theorem bytesN_drop (s : ByteArray) (k : Nat) (h : k < s.size) : (bytesN s).drop k = (s[k]'h).toNat :: (bytesN s).drop (k + 1) := by
  have h1 : k < (bytesN s).length := by rw [bytesN_length]; exact h
  rw [List.drop_eq_getElem_cons h1]
  congr 1
  have := bytesN_get s k h
  rw [List.getElem?_eq_getElem h1] at this
  exact Option.some.inj this
theorem bytesN_extract (s : ByteArray) (a b : Nat) : bytesN (s.extract a b) = ((bytesN s).drop a).take (b - a) := by
  unfold bytesN
  rw [ByteArray.data_extract]
  simp [List.map_take, List.map_drop, Array.toList_extract, List.extract]
theorem bytesN_inj {s t : ByteArray} (h : bytesN s = bytesN t) : s = t := by
  unfold bytesN at h
  have h1 : s.data.toList = t.data.toList := by
    have inj : Function.Injective UInt8.toNat := fun a b h => UInt8.toNat_inj.mp h
    exact (List.map_inj_right fun a b h => inj h).mp h
  cases s; cases t
  simp only at h1
  congr 1
  exact Array.toList_inj.mp h1
theorem bytes_same (s t : ByteArray) : (s.toList == t.toList) = decide (bytesN s = bytesN t) := by
  rw [ByteArray.toList_eq, ByteArray.toList_eq, Bool.eq_iff_iff]
  simp only [beq_iff_eq, decide_eq_true_eq]
  constructor
  · intro h; unfold bytesN; rw [h]
  · intro h; rw [bytesN_inj h]
theorem rdigit_any (c : Nat) (w : World) : Calls Tryz.prog 56 #[.int .u8 (c : Int)] w fun e w' => e = .returned (.bool (digitB c)) ∧ w = w' := by
  go_enter Tryz.func56, Tryz.ntmps56
  go_wp2
  all_goals (go_ret; refine ⟨ret_bool ?_, rfl⟩; rw [Bool.eq_iff_iff]; simp [digitB]; omega)
theorem rletter_any (c : Nat) (w : World) : Calls Tryz.prog 43 #[.int .u8 (c : Int)] w fun e w' => e = .returned (.bool (letterB c)) ∧ w = w' := by
  go_enter Tryz.func43, Tryz.ntmps43
  go_wp2
  all_goals (go_ret; refine ⟨ret_bool ?_, rfl⟩; rw [Bool.eq_iff_iff]; simp [letterB]; omega)
theorem hexN_le (c : Nat) : hexN c ≤ 16 := by
  unfold hexN digitB
  split
  · rename_i h; simp at h; omega
  · split
    · omega
    · split <;> omega
theorem wordN_cons (c : Nat) (r : List Nat) (h : wordB c = true) : wordN (c :: r) = 1 + wordN r := by unfold wordN; rw [List.takeWhile_cons, if_pos h, List.length_cons]; omega
theorem wordN_stop (c : Nat) (r : List Nat) (h : wordB c = false) : wordN (c :: r) = 0 := by unfold wordN; rw [List.takeWhile_cons, if_neg (by simp [h])]; rfl
theorem drop_size (s : ByteArray) : (bytesN s).drop s.size = [] := by rw [← bytesN_length]; exact List.drop_length
def WordRel (s : ByteArray) (E : Nat) (i : Value) : Prop := ∃ k : Nat, k ≤ s.size ∧ i = .int .i64 k ∧ k + wordN ((bytesN s).drop k) = E
theorem rwords_big (s : ByteArray) (y : Int) (p E : Nat) (hy : y = p) (hp : p ≤ s.size) (h : s.size ≤ 9223372036854775807) (hE : p + wordN ((bytesN s).drop p) = E) (w : World) :
    Calls Tryz.prog 44 #[.string s, .int .i64 y] w fun e w' => e = .returned (.int .i64 (E : Int)) ∧ w = w' := by
  subst hy
  go_enter Tryz.func44, Tryz.ntmps44
  go_wp2
  go_loop [1] (fun i => WordRel s E i) (fun i => s.size - (intOf i).toNat)
  case atStart => exact ⟨p, hp, rfl, hE⟩
  case round =>
    obtain ⟨k, hk, rfl, hkE⟩ := hrel
    have HE : Hid (k + wordN ((bytesN s).drop k) = E) := hkE
    clear hkE hE
    by_cases hlt : k < s.size
    · have hdrop := bytesN_drop s k hlt
      obtain ⟨c, hc⟩ : ∃ c, (s[k]'hlt).toNat = c := ⟨_, rfl⟩
      rw [hc] at hdrop
      have HD : Hid ((bytesN s).drop k = c :: (bytesN s).drop (k + 1)) := hdrop
      clear hdrop
      by_cases hl : letterB c = true
      · have HL : Hid (letterB c = true) := hl
        clear hl
        go_wp2_with fail
        refine (rletter_any c _).mono ?_
        rw [HL.out]
        rintro e wx ⟨rfl, rfl⟩
        go_wp2
        go_round
        case rel => exact ⟨k + 1, by omega, by go_num, by rw [← HE.out, HD.out, wordN_cons c _ (by simp [wordB, HL.out])]; omega⟩
        case measure => simp [intOf]; omega
      · have HL : Hid (letterB c = false) := by simpa [Hid] using hl
        clear hl
        by_cases hd : digitB c = true
        · have HG : Hid (digitB c = true) := hd
          clear hd
          go_wp2_with fail
          refine (rletter_any c _).mono ?_
          rw [HL.out]
          rintro e wx ⟨rfl, rfl⟩
          go_wp2_with fail
          refine (rdigit_any c _).mono ?_
          rw [HG.out]
          rintro e wx ⟨rfl, rfl⟩
          go_wp2
          go_round
          case rel => exact ⟨k + 1, by omega, by go_num, by rw [← HE.out, HD.out, wordN_cons c _ (by simp [wordB, HG.out])]; omega⟩
          case measure => simp [intOf]; omega
        · have HG : Hid (digitB c = false) := by simpa [Hid] using hd
          clear hd
          go_wp2_with fail
          refine (rletter_any c _).mono ?_
          rw [HL.out]
          rintro e wx ⟨rfl, rfl⟩
          go_wp2_with fail
          refine (rdigit_any c _).mono ?_
          rw [HG.out]
          rintro e wx ⟨rfl, rfl⟩
          go_wp2
          go_ret
          refine ⟨ret_int ?_, rfl⟩
          rw [← HE.out, HD.out, wordN_stop c _ (by simp [wordB, HL.out, HG.out])]; omega
    · have hks : k = s.size := by omega
      have HF : Hid (k = E) := by unfold Hid; rw [← HE.out, hks, drop_size]; rfl
      clear HE
      subst hks
      go_wp2
      go_ret
      exact ⟨ret_int (by rw [HF.out]), rfl⟩
theorem blank_rem (c : Nat) (r : List Nat) : blankN true (c :: r) = 1 + blankN (decide (c ≠ 10)) r := by rw [blankN]
theorem blank_start (l : List Nat) (h : hasB l [47, 47] = true) : blankN false l = blankN true l := by
  unfold hasB at h
  simp only [decide_eq_true_eq] at h
  match l, h with
  | 47 :: 47 :: r, _ => simp [blankN]
theorem blank_ten (r : List Nat) : blankN true (10 :: r) = blankN false (10 :: r) := by simp [blankN, blankB]
theorem blank_step (c : Nat) (r : List Nat) (h : hasB (c :: r) [47, 47] = false) (hb : blankB c = true) : blankN false (c :: r) = 1 + blankN false r := by
  rw [blankN, if_neg, if_pos hb]
  intro q
  unfold hasB at h
  simp only [decide_eq_false_iff_not] at h
  apply h
  obtain ⟨rfl, q⟩ := q
  cases r with
  | nil => simp at q
  | cons d t => simp at q; subst q; rfl
theorem blank_stop (c : Nat) (r : List Nat) (h : hasB (c :: r) [47, 47] = false) (hb : blankB c = false) : blankN false (c :: r) = 0 := by
  rw [blankN, if_neg, if_neg (by simp [hb])]
  intro q
  unfold hasB at h
  simp only [decide_eq_false_iff_not] at h
  apply h
  obtain ⟨rfl, q⟩ := q
  cases r with
  | nil => simp at q
  | cons d t => simp at q; subst q; rfl
def valF (n : Nat) (ds : List Nat) : Nat := ds.foldl (fun n c => 10 * n + (c - 48)) n
theorem digN_cons (c : Nat) (r : List Nat) (h : digitB c = true) : digN (c :: r) = 1 + digN r := by unfold digN; rw [List.takeWhile_cons, if_pos h, List.length_cons]; omega
theorem list_is (x : ByteArray) (l : List UInt8) : (x.toList == l) = decide (bytesN x = l.map UInt8.toNat) := by
  rw [ByteArray.toList_eq, Bool.eq_iff_iff]
  simp only [beq_iff_eq, decide_eq_true_eq]
  constructor
  · intro h; unfold bytesN; rw [h]
  · intro h
    unfold bytesN at h
    exact (List.map_inj_right fun a b h => UInt8.toNat_inj.mp h).mp h
theorem rTop_as (x : ByteArray) (t : Nat) (ht : topN (bytesN x) = t) (w : World) : Calls Tryz.prog 32 #[.string x] w fun e w' => e = .returned (.int .u64 (t : Int)) ∧ w = w' := by
  have HT : Hid (topN (bytesN x) = t) := ht
  clear ht
  by_cases h1 : bytesN x = [105, 56]
  · have e1 : (x.toList == [105, 56]) = true := by rw [list_is]; simp [h1]
    have HV : Hid (255 = t) := by unfold Hid; rw [← HT.out, h1]; rfl
    clear h1 HT
    go_enter Tryz.func32, Tryz.ntmps32
    go_wp2
    go_ret
    exact ⟨ret_int (by rw [← HV.out]; rfl), rfl⟩
  · have e1 : (x.toList == [105, 56]) = false := by rw [list_is]; simp [h1]
    by_cases h2 : bytesN x = [105, 51, 50]
    · have e2 : (x.toList == [105, 51, 50]) = true := by rw [list_is]; simp [h2]
      have HV : Hid (4294967295 = t) := by unfold Hid; rw [← HT.out, h2]; rfl
      clear h1 h2 HT
      go_enter Tryz.func32, Tryz.ntmps32
      go_wp2
      go_ret
      exact ⟨ret_int (by rw [← HV.out]; rfl), rfl⟩
    · have e2 : (x.toList == [105, 51, 50]) = false := by rw [list_is]; simp [h2]
      have HV : Hid (18446744073709551615 = t) := by unfold Hid; rw [← HT.out]; unfold topN; rw [if_neg h1, if_neg h2]
      clear h1 h2 HT
      go_enter Tryz.func32, Tryz.ntmps32
      go_wp2
      go_ret
      exact ⟨ret_int (by rw [← HV.out]; rfl), rfl⟩
theorem ret3' {k1 k2 k3 : IntKind} {a b c a' b' c' : Int} (h1 : a = a') (h2 : b = b') (h3 : c = c') :
    Ending.returned (.tuple #[.int k1 a, .int k2 b, .int k3 c]) = .returned (.tuple #[.int k1 a', .int k2 b', .int k3 c']) := by rw [h1, h2, h3]
def escR (r : List Nat) : Nat × Nat × Nat := match escN r with | .ok (b, k) => (b, k, 0) | .error e => (0, 0, e)
theorem esc_ends (c : Nat) (r : List Nat) (h : endsB c = true) : escR (c :: r) = (0, 0, 31) := by simp [escR, escN, h]
theorem esc_other (c : Nat) (r : List Nat) (h : endsB c = false) (h1 : ¬ c = 34) (h2 : ¬ c = 92) (h3 : ¬ c = 110) (h4 : ¬ c = 116) (h5 : ¬ c = 114) (h6 : ¬ c = 120) : escR (c :: r) = (0, 0, 32) := by
  simp [escR, escN, h, h1, h2, h3, h4, h5, h6]
theorem e120 : endsB 120 = false := rfl
theorem esc_x1 (d : Nat) (r : List Nat) (h : endsB d = true) : escR (120 :: d :: r) = (0, 0, 31) := by simp [escR, escN, h, e120]
theorem esc_x2 (d : Nat) (r : List Nat) (h : endsB d = false) (hd : hexN d = 16) : escR (120 :: d :: r) = (0, 0, 32) := by simp [escR, escN, h, hd, e120]
theorem esc_x3 (d : Nat) (h : endsB d = false) (hd : ¬ hexN d = 16) : escR [120, d] = (0, 0, 31) := by simp [escR, escN, h, hd, e120]
theorem esc_x4 (d e : Nat) (r : List Nat) (h : endsB d = false) (hd : ¬ hexN d = 16) (he : endsB e = true) : escR (120 :: d :: e :: r) = (0, 0, 31) := by simp [escR, escN, h, hd, he, e120]
theorem esc_x5 (d e : Nat) (r : List Nat) (h : endsB d = false) (hd : ¬ hexN d = 16) (he : endsB e = false) (he2 : hexN e = 16) : escR (120 :: d :: e :: r) = (0, 0, 32) := by simp [escR, escN, h, hd, he, he2, e120]
theorem esc_x6 (d e : Nat) (r : List Nat) (h : endsB d = false) (hd : ¬ hexN d = 16) (he : endsB e = false) (he2 : ¬ hexN e = 16) : escR (120 :: d :: e :: r) = (16 * hexN d + hexN e, 4, 0) := by simp [escR, escN, h, hd, he, he2, e120]
def nums (xs : List Nat) : List Value := xs.map fun (c : Nat) => Value.int .u8 (c : Int)
theorem nums_length (xs : List Nat) : (nums xs).length = xs.length := by simp [nums]
theorem nums_append (xs ys : List Nat) : nums (xs ++ ys) = nums xs ++ nums ys := by simp [nums]
theorem info8 : (Tryz.prog.info? 5).map (fun i => (i.zero, i.size, i.bytes)) = some (some (.int .u8 0), 1, 1) := by kernel_rfl
theorem info_parts {t : TypeId} {z : Option Value} {s b : Nat} (h : (Tryz.prog.info? t).map (fun i => (i.zero, i.size, i.bytes)) = some (z, s, b)) : ∃ i, Tryz.prog.info? t = some i ∧ i.zero = z ∧ i.size = s ∧ i.bytes = b := by
  cases hi : Tryz.prog.info? t with
  | none => rw [hi] at h; simp at h
  | some i => rw [hi] at h; simp at h; exact ⟨i, rfl, h.1, h.2.1, h.2.2⟩
theorem wpList_app1 {w : World} {ops : Array Oper} {rest : List Oper} {o : Oper} {a : Act} {Q : Exit → Act → World → Prop} (hgd : o.guard = none) (s x : Operand)
    (ho : o.op = .call { callee := .builtin .append, args := #[s, x], argTypes := #[110, 110] })
    (base : Nat) (v : Value) (n : Nat) (xs : List Nat) (hs : a.eval s = v) (hown : w.ownsRow base 5 1 v n (nums xs)) (z : Int) (c : Nat) (hz : z = c)
    (hx : a.eval x = .slice (some ⟨w.heap.size, 0, none⟩) 1 1)
    (h63 : n + 1 ≤ 140737488355328) (hbase : base ≤ w.heap.size)
    (h : ∀ v' w', w'.ownsRow base 5 1 v' (n + 1) (nums (xs ++ [c])) → Below base w w' → wpList Tryz.prog ops Q rest (a.put o.dst v') w') :
    wpList Tryz.prog ops Q (o :: rest) a (w.alloc (.cells #[.int .u8 z] 5)) := by
  subst hz
  obtain ⟨i8, hi, hz0, hz1, hz2⟩ := info_parts info8
  have hown2 := hown.alloc (.cells #[.int .u8 (c : Int)] 5)
  have hsz : w.heap.size ≤ (w.alloc (.cells #[.int .u8 (c : Int)] 5)).heap.size := by show _ ≤ (w.heap.push _).size; rw [Array.size_push]; omega
  have hbase2 : base ≤ (w.alloc (.cells #[.int .u8 (c : Int)] 5)).heap.size := Nat.le_trans hbase hsz
  refine wpList_append_own _ hgd s x 110 ho base 5 i8 (.int .u8 0) 1 1 Tryz.underlying110 hi hz0 hz1 hz2 rfl (by omega) v n (nums xs) hs hown2 ⟨w.heap.size, 0, none⟩ 1 1 (nums [c]) hx (by rw [nums_length]; rfl) ?_ ?_ (by unfold maxLen; omega) (by omega) hbase2 ?_
  · intro j u hu
    have hj : j = 0 := by
      by_cases hj : j = 0
      · exact hj
      · rw [List.getElem?_eq_none (by rw [nums_length]; simp; omega)] at hu; cases hu
    subst hj
    rw [← hu]
    exact cell_of_row _ w.heap.size 0 _ 5 _ (heap_alloc_new w _)
  · intro u hu
    simp [nums] at hu; subst hu; rfl
  · intro v' w' h1 h2 _
    rw [← nums_append] at h1
    exact h v' w' h1 (((Below.refl _ _).alloc hbase _).grown h2 hbase2 fun k hk => (hown.lt k hk).1)
theorem heap_set (w : World) (g i : Nat) (cs : Array Value) (t : TypeId) (fr : Nat × Nat) (b : Value) (h : w.heap[g]? = some (.cells cs t fr)) :
    (w.setCell ⟨g, i, none⟩ b).heap[g]? = some (.cells (cs.setIfInBounds i b) t fr) := by
  simp [World.setCell, Array.getElem?_modify, h]
theorem set5_block (w : World) (g : Nat) (a0 a1 a2 a3 a4 b0 b1 b2 b3 b4 : Value) (t : TypeId) (fr : Nat × Nat) (h : w.heap[g]? = some (.cells #[a0, a1, a2, a3, a4] t fr)) :
    (((((w.setCell ⟨g, 0, none⟩ b0).setCell ⟨g, 1, none⟩ b1).setCell ⟨g, 2, none⟩ b2).setCell ⟨g, 3, none⟩ b3).setCell ⟨g, 4, none⟩ b4).heap[g]? = some (.cells #[b0, b1, b2, b3, b4] t fr) := by
  have h0 := heap_set w g 0 _ t fr b0 h
  have h1 := heap_set _ g 1 _ t fr b1 h0
  have h2 := heap_set _ g 2 _ t fr b2 h1
  have h3 := heap_set _ g 3 _ t fr b3 h2
  have h4 := heap_set _ g 4 _ t fr b4 h3
  rw [h4]
  rfl
theorem set5_below {w0 w : World} {g B : Nat} {b0 b1 b2 b3 b4 : Value} (h : Below B w0 w) (hg : B ≤ g) :
    Below B w0 (((((w.setCell ⟨g, 0, none⟩ b0).setCell ⟨g, 1, none⟩ b1).setCell ⟨g, 2, none⟩ b2).setCell ⟨g, 3, none⟩ b3).setCell ⟨g, 4, none⟩ b4) :=
  ((((h.setCell hg _).setCell hg _).setCell hg _).setCell hg _).setCell hg _
def strN (xs : List Nat) : ByteArray := strOfNums (xs.map fun (c : Nat) => (c : Int))
theorem nums_get (xs : List Nat) (i : Nat) (h : i < xs.length) : (nums xs)[i]? = some (.int .u8 ((xs.getD i 0 : Nat) : Int)) := by
  simp [nums, List.getD, h]
theorem conv_own {w : World} {B : Nat} {v : Value} {xs : List Nat} (own : w.ownsRow B 5 1 v xs.length (nums xs)) :
    (convert 110 9 v).run Tryz.prog w = .ok (.string (strN xs)) w := by
  have own' := own
  rcases own.2 with ⟨rfl, h0⟩ | ⟨g, cap, cur, rfl, hb, hg, hle, hm, hs, ht⟩
  · have hx : xs = [] := List.eq_nil_of_length_eq_zero h0
    subst hx
    exact run_convert_bytes_nil w 110 5 Tryz.underlying110 Tryz.underlying5 0 0 9 Tryz.underlying9
  · refine run_convert_bytes_arg w 110 5 Tryz.underlying110 Tryz.underlying5 g 0 _ cap (xs.map fun (c : Nat) => (c : Int)) (by simp) (fun i hi => ?_) 9 Tryz.underlying9
    rw [Nat.zero_add, own'.cellAt i (by omega), nums_get xs i hi]
    simp [List.getD, hi]
theorem bytesN_strN (xs : List Nat) (h : ∀ c ∈ xs, c < 256) : bytesN (strN xs) = xs := by
  unfold bytesN strN
  rw [strOfNums_data, List.map_map, List.map_map]
  conv => rhs; rw [← List.map_id xs]
  apply List.map_congr_left
  intro c hc
  have := h c hc
  simp
  omega
def signS : List ByteArray := [⟨#[60, 60]⟩, ⟨#[62, 62]⟩, ⟨#[61, 61]⟩, ⟨#[33, 61]⟩, ⟨#[60, 61]⟩, ⟨#[62, 61]⟩, ⟨#[38, 38]⟩, ⟨#[124, 124]⟩, ⟨#[40]⟩, ⟨#[41]⟩, ⟨#[123]⟩, ⟨#[125]⟩, ⟨#[91]⟩, ⟨#[93]⟩, ⟨#[44]⟩, ⟨#[59]⟩, ⟨#[58]⟩, ⟨#[46]⟩, ⟨#[43]⟩, ⟨#[45]⟩, ⟨#[42]⟩, ⟨#[47]⟩, ⟨#[37]⟩, ⟨#[38]⟩, ⟨#[124]⟩, ⟨#[94]⟩, ⟨#[126]⟩, ⟨#[33]⟩, ⟨#[60]⟩, ⟨#[62]⟩, ⟨#[61]⟩]
def signV : Array Value := (signS.map Value.string).toArray
theorem sign_same : signS.map bytesN = signL := rfl
theorem signV_at (j : Nat) (h : j < 31) : signV[j]? = some (.string (signS.getD j ⟨#[]⟩)) := by
  have h2 : j < signS.length := h
  unfold signV
  rw [List.getElem?_toArray, List.getElem?_map, List.getElem?_eq_getElem h2, List.getD_eq_getElem?_getD, List.getElem?_eq_getElem h2]
  rfl
def shiftT (n : Nat) (outs : List Nat) (x : Except (Option Nat × Nat) (List Nat × Nat)) : Except (Option Nat × Nat) (List Nat × Nat) :=
  match x with
  | .ok (o, m) => .ok (outs ++ o, m + n)
  | .error (some q, e) => .error (some (q + n), e)
  | .error (none, e) => .error (none, e)
theorem shiftT_zero (x : Except (Option Nat × Nat) (List Nat × Nat)) : shiftT 0 [] x = x := by
  match x with
  | .ok (o, m) => rfl
  | .error (some q, e) => rfl
  | .error (none, e) => rfl
theorem shiftT_shift (n m : Nat) (o o' : List Nat) (x : Except (Option Nat × Nat) (List Nat × Nat)) : shiftT n o (shiftT m o' x) = shiftT (n + m) (o ++ o') x := by
  match x with
  | .ok (a, b) => simp [shiftT]; omega
  | .error (some q, e) => simp [shiftT]; omega
  | .error (none, e) => rfl
theorem esc_len {r : List Nat} {b k : Nat} (h : escN r = .ok (b, k)) : 2 ≤ k ∧ k - 1 ≤ r.length := by
  unfold escN at h
  split at h
  · cases h
  · rename_i c r1
    split at h
    · cases h
    · split at h
      · cases h; simp
      · split at h
        · cases h; simp
        · split at h
          · cases h; simp
          · split at h
            · cases h; simp
            · split at h
              · split at h
                · cases h
                · rename_i d r2
                  split at h
                  · cases h
                  · split at h
                    · cases h
                    · split at h
                      · cases h
                      · rename_i e r3
                        split at h
                        · cases h
                        · split at h
                          · cases h
                          · cases h; simp
              · cases h
theorem text_fuel : ∀ (f g : Nat) (l : List Nat), l.length < f → l.length < g → textN f l = textN g l := by
  intro f
  induction f with
  | zero => intro g l h; omega
  | succ f ih =>
    intro g l hf hg
    cases g with
    | zero => omega
    | succ g =>
      cases l with
      | nil => rfl
      | cons c r =>
        simp only [List.length_cons] at hf hg
        unfold textN
        rw [ih g r (by omega) (by omega)]
        cases he : escN r with
        | error e => rfl
        | ok bk =>
          obtain ⟨b, k⟩ := bk
          have hl := esc_len he
          simp only
          rw [ih g (r.drop (k - 1)) (by rw [List.length_drop]; omega) (by rw [List.length_drop]; omega)]
def T (l : List Nat) : Except (Option Nat × Nat) (List Nat × Nat) := textN (l.length + 1) l
theorem T_nil : T [] = .error (none, 31) := rfl
theorem T_ends (c : Nat) (r : List Nat) (h : endsB c = true) : T (c :: r) = .error (none, 31) := by simp [T, textN, h]
theorem T_quote (r : List Nat) : T (34 :: r) = .ok ([], 1) := by simp [T, textN, endsB]
theorem T_plain (c : Nat) (r : List Nat) (h : endsB c = false) (h2 : ¬ c = 34) (h3 : plainB c = true) : T (c :: r) = shiftT 1 [c] (T r) := by
  unfold T
  rw [List.length_cons, textN]
  simp only [h, h2, h3, if_true, if_false, Bool.false_eq_true]
  rfl
theorem T_esc31 (c : Nat) (r : List Nat) (h : endsB c = false) (h2 : ¬ c = 34) (h3 : plainB c = false) (he : escN r = .error 31) : T (c :: r) = .error (none, 31) := by
  unfold T
  rw [List.length_cons, textN]
  simp [h, h2, h3, he]
theorem T_escE (c : Nat) (r : List Nat) (e : Nat) (h : endsB c = false) (h2 : ¬ c = 34) (h3 : plainB c = false) (he : escN r = .error e) (h31 : ¬ e = 31) : T (c :: r) = .error (some 0, e) := by
  unfold T
  rw [List.length_cons, textN]
  simp [h, h2, h3, he, h31]
theorem T_esc (c : Nat) (r : List Nat) (b k : Nat) (h : endsB c = false) (h2 : ¬ c = 34) (h3 : plainB c = false) (he : escN r = .ok (b, k)) : T (c :: r) = shiftT k [b] (T (r.drop (k - 1))) := by
  have hl := esc_len he
  unfold T
  rw [List.length_cons, textN]
  simp only [h, h2, h3, he, if_false, Bool.false_eq_true]
  rw [text_fuel (r.length + 1) ((r.drop (k - 1)).length + 1) _ (by rw [List.length_drop]; omega) (by omega)]
  rfl
theorem esc_error {r : List Nat} {e : Nat} (h : escN r = .error e) : e = 31 ∨ e = 32 := by
  unfold escN at h
  split at h
  · cases h; simp
  · split at h
    · cases h; simp
    · split at h
      · cases h
      · split at h
        · cases h
        · split at h
          · cases h
          · split at h
            · cases h
            · split at h
              · split at h
                · cases h; simp
                · split at h
                  · cases h; simp
                  · split at h
                    · cases h; simp
                    · split at h
                      · cases h; simp
                      · split at h
                        · cases h; simp
                        · split at h
                          · cases h; simp
                          · cases h
              · cases h; simp
theorem esc_byte {r : List Nat} {b k : Nat} (hr : ∀ c ∈ r, c < 256) (h : escN r = .ok (b, k)) : b < 256 := by
  unfold escN at h
  split at h
  · cases h
  · rename_i c r1
    have hc : c < 256 := hr c (by simp)
    split at h
    · cases h
    · split at h
      · cases h; exact hc
      · split at h
        · cases h; omega
        · split at h
          · cases h; omega
          · split at h
            · cases h; omega
            · split at h
              · split at h
                · cases h
                · rename_i d r2
                  split at h
                  · cases h
                  · split at h
                    · cases h
                    · rename_i hd
                      split at h
                      · cases h
                      · rename_i e r3
                        split at h
                        · cases h
                        · split at h
                          · cases h
                          · rename_i he
                            have h1 := hexN_le d
                            have h2 := hexN_le e
                            cases h; omega
              · cases h
def TextRel (s : ByteArray) (w1 : World) (B p : Nat) (TT : Except (Option Nat × Nat) (List Nat × Nat)) (v i : Value) (wr : World) : Prop :=
  ∃ (j : Nat) (outs : List Nat), p + 1 ≤ j ∧ j ≤ s.size ∧ outs.length ≤ j ∧ i = .int .i64 j ∧ wr.ownsRow B 5 1 v outs.length (nums outs) ∧ Below B w1 wr ∧ shiftT (j - (p + 1)) outs (T ((bytesN s).drop j)) = TT
theorem escR_ok {r : List Nat} {B K : Nat} (h : escR r = (B, K, 0)) : escN r = .ok (B, K) := by
  unfold escR at h
  cases he : escN r with
  | ok bk => rw [he] at h; obtain ⟨b, k⟩ := bk; simp at h; obtain ⟨rfl, rfl⟩ := h; rfl
  | error e => rw [he] at h; simp at h; rcases esc_error he with rfl | rfl <;> simp at h
theorem escR_er {r : List Nat} {B K e : Nat} (h : escR r = (B, K, e)) (he0 : ¬ e = 0) : escN r = .error e ∧ B = 0 ∧ K = 0 ∧ (e = 31 ∨ e = 32) := by
  unfold escR at h
  cases he : escN r with
  | ok bk => rw [he] at h; obtain ⟨b, k⟩ := bk; simp at h; omega
  | error e' => rw [he] at h; simp at h; obtain ⟨rfl, rfl, rfl⟩ := h; exact ⟨rfl, rfl, rfl, esc_error he⟩
def keptS : List ByteArray := [⟨#[114, 101, 99, 111, 114, 100]⟩, ⟨#[102, 110]⟩, ⟨#[118, 97, 114]⟩, ⟨#[105, 102]⟩, ⟨#[101, 108, 115, 101]⟩, ⟨#[119, 104, 105, 108, 101]⟩, ⟨#[102, 111, 114]⟩, ⟨#[115, 119, 105, 116, 99, 104]⟩, ⟨#[99, 97, 115, 101]⟩, ⟨#[100, 101, 102, 97, 117, 108, 116]⟩, ⟨#[98, 114, 101, 97, 107]⟩, ⟨#[99, 111, 110, 116, 105, 110, 117, 101]⟩, ⟨#[114, 101, 116, 117, 114, 110]⟩, ⟨#[116, 114, 97, 112]⟩, ⟨#[110, 101, 119]⟩, ⟨#[116, 114, 117, 101]⟩, ⟨#[102, 97, 108, 115, 101]⟩, ⟨#[105, 56]⟩, ⟨#[105, 51, 50]⟩, ⟨#[105, 54, 52]⟩, ⟨#[98, 111, 111, 108]⟩, ⟨#[98, 121, 116, 101, 115]⟩, ⟨#[108, 101, 110]⟩, ⟨#[99, 117, 116]⟩, ⟨#[98, 121, 116, 101]⟩, ⟨#[112, 117, 115, 104]⟩, ⟨#[112, 111, 112]⟩]
theorem kept_same : keptS.map bytesN = keptL := rfl
theorem kept_bytes (i : Nat) (h : i < 27) : bytesN (keptS.getD i ⟨#[]⟩) = keptL.getD i [] := by
  have h2 : i < keptS.length := h
  rw [← kept_same, List.getD_eq_getElem?_getD, List.getD_eq_getElem?_getD, List.getElem?_map, List.getElem?_eq_getElem h2]; rfl
theorem keptV_at (j : Nat) (h : j < 27) : ((keptS.map Value.string).toArray)[j]? = some (.string (keptS.getD j ⟨#[]⟩)) := by
  have h2 : j < keptS.length := h
  rw [List.getElem?_toArray, List.getElem?_map, List.getElem?_eq_getElem h2, List.getD_eq_getElem?_getD, List.getElem?_eq_getElem h2]
  rfl
theorem kept_yes (l : List Nat) (i : Nat) (h : i < 27) (hi : l = keptL.getD i []) : keptB l = true := by
  have h2 : i < keptL.length := h
  unfold keptB
  rw [hi, List.getD_eq_getElem?_getD, List.getElem?_eq_getElem h2]
  simp
theorem kept_no (l : List Nat) (hb : ∀ j, j < 27 → ¬ l = keptL.getD j []) : keptB l = false := by
  unfold keptB
  simp only [decide_eq_false_iff_not]
  intro hx
  obtain ⟨j, hj, rfl⟩ := List.getElem_of_mem hx
  apply hb j hj
  rw [List.getD_eq_getElem?_getD, List.getElem?_eq_getElem hj]; rfl
def KeptRel (l : List Nat) (i : Value) : Prop := ∃ k : Nat, k ≤ 27 ∧ i = .int .i64 k ∧ ∀ j, j < k → ¬ l = keptL.getD j []
theorem rkept_as (s : ByteArray) (b : Bool) (hb : keptB (bytesN s) = b) (w : World) :
    Calls Tryz.prog 45 #[.string s] w fun e w' => e = .returned (.bool b) ∧ Below w.heap.size w w' := by
  have HBB : Hid (keptB (bytesN s) = b) := hb
  clear hb
  obtain ⟨g, hg⟩ : ∃ g, g = w.heap.size := ⟨_, rfl⟩
  have HG : Hid (g = w.heap.size) := hg
  go_enter Tryz.func45, Tryz.ntmps45
  go_wp2_with fail
  obtain ⟨w1, hw1⟩ : ∃ w1, w1 = w.alloc (.cells #[.string ⟨#[114, 101, 99, 111, 114, 100]⟩, .string ⟨#[102, 110]⟩, .string ⟨#[118, 97, 114]⟩, .string ⟨#[105, 102]⟩, .string ⟨#[101, 108, 115, 101]⟩, .string ⟨#[119, 104, 105, 108, 101]⟩, .string ⟨#[102, 111, 114]⟩, .string ⟨#[115, 119, 105, 116, 99, 104]⟩, .string ⟨#[99, 97, 115, 101]⟩, .string ⟨#[100, 101, 102, 97, 117, 108, 116]⟩, .string ⟨#[98, 114, 101, 97, 107]⟩, .string ⟨#[99, 111, 110, 116, 105, 110, 117, 101]⟩, .string ⟨#[114, 101, 116, 117, 114, 110]⟩, .string ⟨#[116, 114, 97, 112]⟩, .string ⟨#[110, 101, 119]⟩, .string ⟨#[116, 114, 117, 101]⟩, .string ⟨#[102, 97, 108, 115, 101]⟩, .string ⟨#[105, 56]⟩, .string ⟨#[105, 51, 50]⟩, .string ⟨#[105, 54, 52]⟩, .string ⟨#[98, 111, 111, 108]⟩, .string ⟨#[98, 121, 116, 101, 115]⟩, .string ⟨#[108, 101, 110]⟩, .string ⟨#[99, 117, 116]⟩, .string ⟨#[98, 121, 116, 101]⟩, .string ⟨#[112, 117, 115, 104]⟩, .string ⟨#[112, 111, 112]⟩] 9) := ⟨_, rfl⟩
  rw [← hw1, ← hg]
  have hcells : ∀ j, j < 27 → w1.cell? ⟨g, j, none⟩ = some (.string (keptS.getD j ⟨#[]⟩)) := by
    intro j hj
    rw [hw1, hg]
    exact (cell_of_row _ _ j _ _ _ (heap_alloc_new _ _)).trans (keptV_at j hj)
  have HC : Hid (∀ j, j < 27 → w1.cell? ⟨g, j, none⟩ = some (.string (keptS.getD j ⟨#[]⟩))) := hcells
  have HB1 : Hid (Below w.heap.size w w1) := by unfold Hid; rw [hw1]; exact (Below.refl _ _).alloc (Nat.le_refl _) _
  clear hw1 hg hcells
  go_loop [7] (fun i => KeptRel (bytesN s) i) (fun i => 27 - (intOf i).toNat)
  case atStart => exact ⟨0, by omega, rfl, fun j hj => by omega⟩
  case round =>
    obtain ⟨k, hk, rfl, hno⟩ := hrel
    have HNO : Hid (∀ j, j < k → ¬ bytesN s = keptL.getD j []) := hno
    clear hno
    by_cases hlt : k < 27
    · obtain ⟨x, hx⟩ : ∃ x, Hid (keptS.getD k ⟨#[]⟩ = x) := ⟨_, rfl⟩
      have hcell : w1.cell? ⟨g, k, none⟩ = some (.string x) := by rw [← hx.out]; exact HC.out k hlt
      have HXB : Hid (bytesN x = keptL.getD k []) := by unfold Hid; rw [← hx.out]; exact kept_bytes k hlt
      by_cases he : bytesN s = bytesN x
      · have heq : (s.toList == x.toList) = true := by rw [bytes_same]; simp [he]
        have HT : Hid (true = b) := by unfold Hid; rw [← HBB.out]; exact (kept_yes _ k hlt (by rw [he]; exact HXB.out)).symm
        clear he
        go_wp2
        go_ret
        exact ⟨ret_bool HT.out, HB1.out⟩
      · have heq : (s.toList == x.toList) = false := by rw [bytes_same]; simp [he]
        have HNO2 : Hid (∀ j, j < k + 1 → ¬ bytesN s = keptL.getD j []) := by
          intro j hj
          by_cases hjk : j = k
          · subst hjk; rw [← HXB.out]; exact he
          · exact HNO.out j (by omega)
        clear he
        go_wp2
        go_round
        case rel => exact ⟨k + 1, by omega, by go_num, HNO2.out⟩
        case measure => simp [intOf]; omega
    · have hk27 : k = 27 := by omega
      have HF : Hid (false = b) := by unfold Hid; rw [← HBB.out]; exact (kept_no _ (by rw [← hk27]; exact HNO.out)).symm
      subst hk27
      go_wp2
      go_ret
      exact ⟨ret_bool HF.out, HB1.out⟩
theorem empty_is (s : ByteArray) (h : s.size = 0) : s = ⟨#[]⟩ := by
  apply bytesN_inj
  have h1 : bytesN s = [] := List.eq_nil_of_length_eq_zero (by rw [bytesN_length]; exact h)
  rw [h1]; rfl
theorem rname_big (s : ByteArray) (b : Bool) (h : s.size ≤ 9223372036854775807) (hb : nameB (bytesN s) = b) (w : World) :
    Calls Tryz.prog 25 #[.string s] w fun e w' => e = .returned (.bool b) ∧ Below w.heap.size w w' := by
  by_cases h0 : s.size = 0
  · obtain rfl := empty_is s h0
    have HF : Hid (false = b) := by unfold Hid; rw [← hb]; rfl
    clear hb h0
    go_enter Tryz.func25, Tryz.ntmps25
    go_wp2
    go_ret
    exact ⟨ret_bool HF.out, Below.refl _ _⟩
  · have hp : 0 < s.size := by omega
    have hne : (s.toList == []) = false := by
      rw [ByteArray.toList_eq, beq_eq_false_iff_ne]
      intro q
      have h1 : bytesN s = [] := by unfold bytesN; rw [q]; rfl
      have h2 := bytesN_length s
      rw [h1] at h2
      simp at h2; omega
    obtain ⟨c, hc⟩ : ∃ c, (s[0]'hp).toNat = c := ⟨_, rfl⟩
    have hd := bytesN_drop s 0 hp
    rw [hc, List.drop_zero] at hd
    have hnm : nameB (bytesN s) = (letterB c && decide (wordN (bytesN s) = (bytesN s).length) && !keptB (bytesN s)) := by
      rw [hd]; rfl
    have HNM : Hid ((letterB c && decide (wordN (bytesN s) = (bytesN s).length) && !keptB (bytesN s)) = b) := by unfold Hid; rw [← hnm]; exact hb
    clear hd hnm hb h0
    by_cases hl : letterB c = true
    · have HL : Hid (letterB c = true) := hl
      clear hl
      obtain ⟨E, hE⟩ : ∃ E, Hid (0 + wordN ((bytesN s).drop 0) = E) := ⟨_, rfl⟩
      by_cases hw : E = s.size
      · have HW : Hid (decide (wordN (bytesN s) = (bytesN s).length) = true) := by
          unfold Hid; have := hE.out; rw [List.drop_zero, Nat.zero_add] at this; rw [this, bytesN_length]; simp [hw]
        obtain ⟨k, hk⟩ : ∃ k, Hid (keptB (bytesN s) = k) := ⟨_, rfl⟩
        have HR : Hid ((!k) = b) := by unfold Hid; rw [← HNM.out, HL.out, HW.out, hk.out]; rfl
        have heq : ((E : Int) == (s.size : Int)) = true := by simp [hw]
        go_enter Tryz.func25, Tryz.ntmps25
        go_wp2_with fail
        refine (rletter_any c _).mono ?_
        rw [HL.out]
        rintro e wx ⟨rfl, rfl⟩
        go_wp2_with fail
        refine (rwords_big s 0 0 E rfl (by omega) h hE.out _).mono ?_
        rintro e wx ⟨rfl, rfl⟩
        go_wp2_with fail
        refine (rkept_as s k hk.out _).mono ?_
        rintro e w2 ⟨rfl, hb2⟩
        go_wp2
        go_ret
        exact ⟨ret_bool HR.out, hb2⟩
      · have HR : Hid (false = b) := by
          unfold Hid; rw [← HNM.out]
          have := hE.out; rw [List.drop_zero, Nat.zero_add] at this
          rw [this, bytesN_length]; simp [hw]
        have heq : ((E : Int) == (s.size : Int)) = false := by simp; omega
        go_enter Tryz.func25, Tryz.ntmps25
        go_wp2_with fail
        refine (rletter_any c _).mono ?_
        rw [HL.out]
        rintro e wx ⟨rfl, rfl⟩
        go_wp2_with fail
        refine (rwords_big s 0 0 E rfl (by omega) h hE.out _).mono ?_
        rintro e wx ⟨rfl, rfl⟩
        go_wp2
        go_ret
        exact ⟨ret_bool HR.out, Below.refl _ _⟩
    · have HL : Hid (letterB c = false) := by simpa [Hid] using hl
      have HR : Hid (false = b) := by unfold Hid; rw [← HNM.out, HL.out]; rfl
      clear hl
      go_enter Tryz.func25, Tryz.ntmps25
      go_wp2_with fail
      refine (rletter_any c _).mono ?_
      rw [HL.out]
      rintro e wx ⟨rfl, rfl⟩
      go_wp2
      go_ret
      exact ⟨ret_bool HR.out, Below.refl _ _⟩
end Go.Proofs.YtmhnbklchnnbaaaGreatDoor
