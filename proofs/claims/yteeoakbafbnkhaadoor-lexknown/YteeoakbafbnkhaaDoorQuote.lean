/-
  CONTRACT of the document's Quote.
-/
import Derived.Test.YteeoakbafbnkhaaDoorRows5
import Derived.Deep.RegionLaw
import Derived.Deep.AppendLies
namespace Go.Proofs.YteeoakbafbnkhaaDoor
open Go.RowKit
set_option linter.unusedVariables false

/-- 'b = append(b, ..)': bytes that lie in a block of their own. -/
theorem wpList_appB {W : World} {ops : Array Oper} {rest : List Oper} {o : Oper} {a : Act} {Q : Exit → Act → World → Prop} (hgd : o.guard = none) (s x : Operand)
    (ho : o.op = .call { callee := .builtin .append, args := #[s, x], argTypes := #[27, 27] })
    (base : Nat) (v : Value) (n : Nat) (xs : List Nat) (hs : a.eval s = v) (hown : W.ownsRow base 5 1 v n (nums xs)) (ys : List Nat) (m c : Nat) (hm : ys.length = m)
    (b : Nat) (hx : a.eval x = .slice (some ⟨b, 0, none⟩) m c) (cs : Array Value) (fr : Nat × Nat) (hb : W.heap[b]? = some (.cells cs 5 fr)) (hcs : cs.toList = nums ys)
    (h63 : n + m ≤ 8388608) (hbase : base ≤ W.heap.size)
    (h : ∀ v' w', w'.ownsRow base 5 1 v' (n + m) (nums (xs ++ ys)) → Below base W w' → wpList Tryd.prog ops Q rest (a.put o.dst v') w') :
    wpList Tryd.prog ops Q (o :: rest) a W := by
  obtain ⟨i8, hi, hz0, hz1, hz2⟩ := info_parts info8
  refine wpList_append_own _ hgd s x 27 ho base 5 i8 _ 1 1 Tryd.underlying27 hi hz0 hz1 hz2 rfl (by omega) v n (nums xs) hs hown ⟨b, 0, none⟩ m c (nums ys) hx (by rw [nums_length]; omega) ?_ ?_ (by unfold maxLen; omega) (by omega) hbase ?_
  · intro j u hu
    rw [← hcs] at hu
    exact World.news_of_block hb j u hu
  · intro u hu
    simp only [nums, List.mem_map] at hu
    obtain ⟨c', _, rfl⟩ := hu
    rfl
  · intro v' w' h1 h2 _
    rw [← nums_append] at h1
    exact h v' w' h1 ((Below.refl _ _).grown h2 hbase fun k hk => (hown.lt k hk).1)
theorem digit_at (d : Nat) (h : d < 16) : ((⟨#[48, 49, 50, 51, 52, 53, 54, 55, 56, 57, 97, 98, 99, 100, 101, 102]⟩ : ByteArray)[d]'h).toNat = hexC d := by
  have : ∀ d : Fin 16, ((⟨#[48, 49, 50, 51, 52, 53, 54, 55, 56, 57, 97, 98, 99, 100, 101, 102]⟩ : ByteArray)[d.1]'d.2).toNat = hexC d.1 := by decide
  exact this ⟨d, h⟩
def QuoteRel (s : ByteArray) (w : World) (B : Nat) (v i : Value) (wr : World) : Prop :=
  ∃ (k : Nat) (outs : List Nat), k ≤ s.size ∧ i = .int .i64 k ∧ outs = 34 :: ((bytesN s).take k).flatMap pieceN ∧ outs.length ≤ 1 + 4 * k ∧ wr.ownsRow B 5 1 v outs.length (nums outs) ∧ Below B w wr
theorem take_next (s : ByteArray) (k c : Nat) (h : k < s.size) (hc : (s[k]'h).toNat = c) : (bytesN s).take (k + 1) = (bytesN s).take k ++ [c] := by
  have h1 := bytesN_get s k h
  rw [hc] at h1
  rw [List.take_add_one, h1]; rfl
set_option maxRecDepth 100000 in
set_option maxHeartbeats 2000000 in
theorem rquote_as (s : ByteArray) (X : ByteArray) (h : s.size ≤ 65536) (hX : strN (quoteN (bytesN s)) = X) (w : World) :
    Calls Tryd.prog 22 #[.string s] w fun e w' => e = .returned (.string X) ∧ Below w.heap.size w w' := by
  have HX : Hid (strN (quoteN (bytesN s)) = X) := hX
  obtain ⟨B, hB⟩ : ∃ B, B = w.heap.size := ⟨_, rfl⟩
  have HB : Hid (B = w.heap.size) := hB
  clear hB hX
  go_enter Tryd.func22, Tryd.ntmps22
  go_wp2_with fail
  go_loopw [4, 5] (fun v i wr => QuoteRel s w B v i wr) (fun _ i _ => s.size - (intOf i).toNat)
  case atStart =>
    refine ⟨0, [34], by omega, rfl, by simp, by simp, ⟨rfl, .inr ⟨w.heap.size, 1, #[.int .u8 34], rfl, by rw [HB.out]; exact Nat.le_refl _, heap_alloc_new w _, by simp, by unfold maxLen; omega, rfl, rfl⟩⟩, (Below.refl _ _).alloc (by rw [HB.out]; exact Nat.le_refl _) _⟩
  case round =>
    obtain ⟨k, outs, hk, rfl, hout, hol, hown, hbel⟩ := hrel
    have HO : Hid (outs = 34 :: ((bytesN s).take k).flatMap pieceN) := hout
    have OW : Hid (wr.ownsRow B 5 1 u4 outs.length (nums outs)) := hown
    have BL : Hid (Below B w wr) := hbel
    have hbase : B ≤ wr.heap.size := by rw [HB.out]; exact hbel.size
    obtain ⟨n, hn⟩ : ∃ n, Hid (outs.length = n) := ⟨_, rfl⟩
    rw [hn.out] at OW hol
    have HBS : Hid (∀ o : Obj, B ≤ (wr.alloc o).heap.size) := fun o => Nat.le_trans hbase (by show _ ≤ (wr.heap.push _).size; rw [Array.size_push]; omega)
    clear hout hown hbel
    by_cases hlt : k < s.size
    · obtain ⟨c, hc⟩ : ∃ c, (s[k]'hlt).toNat = c := ⟨_, rfl⟩
      have hc256 : c < 256 := by rw [← hc]; exact UInt8.toNat_lt _
      have HN : Hid (34 :: ((bytesN s).take (k + 1)).flatMap pieceN = outs ++ pieceN c) := by
        unfold Hid; rw [take_next s k c hlt hc, HO.out]; simp
      by_cases h1 : c = 34 ∨ c = 92
      · have HP : Hid (pieceN c = [92, c]) := by unfold Hid pieceN; rw [if_pos h1]
        have hd : ((c : Int) == 34 || (c : Int) == 92) = true := by rcases h1 with rfl | rfl <;> rfl
        rcases h1 with rfl | rfl
        all_goals
          go_wp2_with (at_builtin; refine wpList_appB rfl (.tmp 28) (.tmp 30) rfl B u4 n outs rfl (OW.out.alloc _) [92, _] 2 2 rfl wr.heap.size rfl _ _ (heap_alloc_new wr _) rfl (by omega) (HBS.out _) ?_; intro v1 w1 own1 bel1)
          go_roundw
          case rel =>
            refine ⟨k + 1, _, by omega, by go_num, HN.out.symm, ?_, ?_, (BL.out.alloc hbase _).trans bel1⟩
            · rw [HP.out, List.length_append, hn.out]; simp; omega
            · rw [HP.out, List.length_append, hn.out]; exact own1
          case measure => simp [intOf]; omega
      have e34 : ((c : Int) == 34) = false := by simp; omega
      have e92 : ((c : Int) == 92) = false := by simp; omega
      by_cases h2 : c = 10
      · subst h2
        have HP : Hid (pieceN 10 = [92, 110]) := rfl
        go_wp2_with (at_builtin; refine wpList_appB rfl (.tmp 35) (.tmp 36) rfl B u4 n outs rfl (OW.out.alloc _) [92, 110] 2 2 rfl wr.heap.size rfl _ _ (heap_alloc_new wr _) rfl (by omega) (HBS.out _) ?_; intro v1 w1 own1 bel1)
        go_roundw
        case rel =>
          refine ⟨k + 1, _, by omega, by go_num, HN.out.symm, ?_, ?_, (BL.out.alloc hbase _).trans bel1⟩
          · rw [HP.out, List.length_append, hn.out]; simp; omega
          · rw [HP.out, List.length_append, hn.out]; exact own1
        case measure => simp [intOf]; omega
      by_cases h3 : c = 9
      · subst h3
        have HP : Hid (pieceN 9 = [92, 116]) := rfl
        go_wp2_with (at_builtin; refine wpList_appB rfl (.tmp 41) (.tmp 42) rfl B u4 n outs rfl (OW.out.alloc _) [92, 116] 2 2 rfl wr.heap.size rfl _ _ (heap_alloc_new wr _) rfl (by omega) (HBS.out _) ?_; intro v1 w1 own1 bel1)
        go_roundw
        case rel =>
          refine ⟨k + 1, _, by omega, by go_num, HN.out.symm, ?_, ?_, (BL.out.alloc hbase _).trans bel1⟩
          · rw [HP.out, List.length_append, hn.out]; simp; omega
          · rw [HP.out, List.length_append, hn.out]; exact own1
        case measure => simp [intOf]; omega
      by_cases h4 : c = 13
      · subst h4
        have HP : Hid (pieceN 13 = [92, 114]) := rfl
        go_wp2_with (at_builtin; refine wpList_appB rfl (.tmp 47) (.tmp 48) rfl B u4 n outs rfl (OW.out.alloc _) [92, 114] 2 2 rfl wr.heap.size rfl _ _ (heap_alloc_new wr _) rfl (by omega) (HBS.out _) ?_; intro v1 w1 own1 bel1)
        go_roundw
        case rel =>
          refine ⟨k + 1, _, by omega, by go_num, HN.out.symm, ?_, ?_, (BL.out.alloc hbase _).trans bel1⟩
          · rw [HP.out, List.length_append, hn.out]; simp; omega
          · rw [HP.out, List.length_append, hn.out]; exact own1
        case measure => simp [intOf]; omega
      have e10 : ((c : Int) == 10) = false := by simp; omega
      have e9 : ((c : Int) == 9) = false := by simp; omega
      have e13 : ((c : Int) == 13) = false := by simp; omega
      by_cases h5 : c < 32 ∨ c = 127
      · have HP : Hid (pieceN c = [92, 120, hexC (c / 16), hexC (c % 16)]) := by unfold Hid pieceN; rw [if_neg h1, if_neg h2, if_neg h3, if_neg h4, if_pos h5]
        have hd5 : (decide ((c : Int) < 32) || ((c : Int) == 127)) = true := by rcases h5 with h5 | h5 <;> simp <;> omega
        rcases h5 with h5 | h5
        · have e32 : (c : Int) < 32 := by omega
          obtain ⟨q, hq⟩ : ∃ q, c / 16 = q := ⟨_, rfl⟩
          obtain ⟨r, hr⟩ : ∃ r, c % 16 = r := ⟨_, rfl⟩
          have hq16 : q < 16 := by omega
          have hr16 : r < 16 := by omega
          have hwq : IntKind.u8.wrap ((c : Int) / 16) = (q : Int) := by rw [IntKind.wrap_u8]; omega
          have hwr : (c : Int).tmod 16 = (r : Int) := by rw [Int.tmod_eq_emod_of_nonneg (by omega)]; omega
          have hdq := digit_at q hq16
          have hdr := digit_at r hr16
          obtain ⟨D1, hD1⟩ : ∃ D, Hid (hexC q = D) := ⟨_, rfl⟩
          obtain ⟨D2, hD2⟩ : ∃ D, Hid (hexC r = D) := ⟨_, rfl⟩
          rw [hD1.out] at hdq
          rw [hD2.out] at hdr
          have HQR : Hid (c / 16 = q ∧ c % 16 = r) := ⟨hq, hr⟩
          have hqi : (q : Int) < 16 := by omega
          have hri : (r : Int) < 16 := by omega
          have OWD : Hid (wr.drew.ownsRow B 5 1 u4 n (nums outs)) := OW.out
          have HBD : Hid (∀ o : Obj, B ≤ (wr.drew.alloc o).heap.size) := fun o => HBS.out o
          obtain ⟨i8, hi8, hz0, hz1, hz2⟩ := info_parts info8
          have HI : Hid (Tryd.prog.info? 5 = some i8 ∧ i8.zero = some (.int .u8 0) ∧ i8.size = 1 ∧ i8.bytes = 1) := ⟨hi8, hz0, hz1, hz2⟩
          have h1c : Hid (∀ u ∈ nums [92, 120, D1, D2], u.oneCell' = true) := by
            intro u hu; simp only [nums, List.mem_map] at hu; obtain ⟨c', _, rfl⟩ := hu; rfl
          have hbn : Hid (n + 4 ≤ 8388608) := by unfold Hid; omega
          clear h1 h2 h3 h4 hd5 hq hr hi8 hz0 hz1 hz2
          go_wp2_with fail
          go_region_law ((refine step_append_lies _ (by rfl) (.tmp 57) (.tmp 66) 27 (by rfl) B 5 i8 (.int .u8 0) 1 1 Tryd.underlying27 HI.out.1 HI.out.2.1 HI.out.2.2.1 HI.out.2.2.2 rfl (by omega) u4 n (nums outs) (by rfl) (OWD.out.alloc _) ⟨wr.heap.size, 0, none⟩ 4 4 (nums [92, 120, D1, D2]) (by rfl) (by rw [nums_length]; rfl) (World.news_of_block (heap_alloc_new wr.drew _)) h1c.out (by omega) (by have := hbn.out; unfold maxLen; omega) (by have := hbn.out; omega) (HBD.out _) _ rfl ?_; intro g cap w1 own1 gr1 hat hlt2))
          all_goals
            go_wp2
            go_roundw
            case rel =>
              refine ⟨k + 1, _, by omega, by go_num, HN.out.symm, ?_, ?_, ?_⟩
              · rw [HP.out, List.length_append, hn.out]; simp; omega
              · rw [HP.out, List.length_append, hn.out, HQR.out.1, HQR.out.2, hD1.out, hD2.out, nums_append]; exact own1
              · have hb1 : Below B w (wr.drew.alloc (.cells #[.int .u8 92, .int .u8 120, .int .u8 (D1 : Int), .int .u8 (D2 : Int)] 5)) := (show Below B w wr.drew from ⟨BL.out.os, BL.out.tape, BL.out.output, BL.out.size, BL.out.block⟩).alloc hbase _
                exact hb1.grown gr1 (HBD.out _) fun k hk => (OW.out.lt k hk).1
            case measure => simp [intOf]; omega
        · have e32 : ¬ (c : Int) < 32 := by omega
          have e127 : ((c : Int) == 127) = true := by simp; omega
          obtain ⟨q, hq⟩ : ∃ q, c / 16 = q := ⟨_, rfl⟩
          obtain ⟨r, hr⟩ : ∃ r, c % 16 = r := ⟨_, rfl⟩
          have hq16 : q < 16 := by omega
          have hr16 : r < 16 := by omega
          have hwq : IntKind.u8.wrap ((c : Int) / 16) = (q : Int) := by rw [IntKind.wrap_u8]; omega
          have hwr : (c : Int).tmod 16 = (r : Int) := by rw [Int.tmod_eq_emod_of_nonneg (by omega)]; omega
          have hdq := digit_at q hq16
          have hdr := digit_at r hr16
          obtain ⟨D1, hD1⟩ : ∃ D, Hid (hexC q = D) := ⟨_, rfl⟩
          obtain ⟨D2, hD2⟩ : ∃ D, Hid (hexC r = D) := ⟨_, rfl⟩
          rw [hD1.out] at hdq
          rw [hD2.out] at hdr
          have HQR : Hid (c / 16 = q ∧ c % 16 = r) := ⟨hq, hr⟩
          have hqi : (q : Int) < 16 := by omega
          have hri : (r : Int) < 16 := by omega
          have OWD : Hid (wr.drew.ownsRow B 5 1 u4 n (nums outs)) := OW.out
          have HBD : Hid (∀ o : Obj, B ≤ (wr.drew.alloc o).heap.size) := fun o => HBS.out o
          obtain ⟨i8, hi8, hz0, hz1, hz2⟩ := info_parts info8
          have HI : Hid (Tryd.prog.info? 5 = some i8 ∧ i8.zero = some (.int .u8 0) ∧ i8.size = 1 ∧ i8.bytes = 1) := ⟨hi8, hz0, hz1, hz2⟩
          have h1c : Hid (∀ u ∈ nums [92, 120, D1, D2], u.oneCell' = true) := by
            intro u hu; simp only [nums, List.mem_map] at hu; obtain ⟨c', _, rfl⟩ := hu; rfl
          have hbn : Hid (n + 4 ≤ 8388608) := by unfold Hid; omega
          clear h1 h2 h3 h4 h5 hd5 hq hr hi8 hz0 hz1 hz2
          go_wp2_with fail
          go_region_law ((refine step_append_lies _ (by rfl) (.tmp 57) (.tmp 66) 27 (by rfl) B 5 i8 (.int .u8 0) 1 1 Tryd.underlying27 HI.out.1 HI.out.2.1 HI.out.2.2.1 HI.out.2.2.2 rfl (by omega) u4 n (nums outs) (by rfl) (OWD.out.alloc _) ⟨wr.heap.size, 0, none⟩ 4 4 (nums [92, 120, D1, D2]) (by rfl) (by rw [nums_length]; rfl) (World.news_of_block (heap_alloc_new wr.drew _)) h1c.out (by omega) (by have := hbn.out; unfold maxLen; omega) (by have := hbn.out; omega) (HBD.out _) _ rfl ?_; intro g cap w1 own1 gr1 hat hlt2))
          all_goals
            go_wp2
            go_roundw
            case rel =>
              refine ⟨k + 1, _, by omega, by go_num, HN.out.symm, ?_, ?_, ?_⟩
              · rw [HP.out, List.length_append, hn.out]; simp; omega
              · rw [HP.out, List.length_append, hn.out, HQR.out.1, HQR.out.2, hD1.out, hD2.out, nums_append]; exact own1
              · have hb1 : Below B w (wr.drew.alloc (.cells #[.int .u8 92, .int .u8 120, .int .u8 (D1 : Int), .int .u8 (D2 : Int)] 5)) := (show Below B w wr.drew from ⟨BL.out.os, BL.out.tape, BL.out.output, BL.out.size, BL.out.block⟩).alloc hbase _
                exact hb1.grown gr1 (HBD.out _) fun k hk => (OW.out.lt k hk).1
            case measure => simp [intOf]; omega
      · have HP : Hid (pieceN c = [c]) := by unfold Hid pieceN; rw [if_neg h1, if_neg h2, if_neg h3, if_neg h4, if_neg h5]
        have e32 : ¬ (c : Int) < 32 := by omega
        have e127 : ((c : Int) == 127) = false := by simp; omega
        clear h1 h2 h3 h4 h5
        go_wp2_with (at_builtin; refine wpList_appB rfl (.tmp 17) (.tmp 19) rfl B u4 n outs rfl (OW.out.alloc _) [c] 1 1 rfl wr.heap.size rfl _ _ (heap_alloc_new wr _) rfl (by omega) (HBS.out _) ?_; intro v1 w1 own1 bel1)
        go_roundw
        case rel =>
          refine ⟨k + 1, _, by omega, by go_num, HN.out.symm, ?_, ?_, (BL.out.alloc hbase _).trans bel1⟩
          · rw [HP.out, List.length_append, hn.out]; simp; omega
          · rw [HP.out, List.length_append, hn.out]; exact own1
        case measure => simp [intOf]; omega
    · have hks : k = s.size := by omega
      have HF : Hid (strN (outs ++ [34]) = X) := by
        unfold Hid; rw [← HX.out, HO.out, hks, ← bytesN_length, List.take_length]; rfl
      subst hks
      go_wp2_with (at_builtin; refine wpList_appB rfl (.tmp 68) (.tmp 69) rfl B u4 n outs rfl (OW.out.alloc _) [34] 1 1 rfl wr.heap.size rfl _ _ (heap_alloc_new wr _) rfl (by omega) (HBS.out _) ?_; intro v1 w1 own1 bel1; have hcv := conv_own (xs := outs ++ [34]) (by rw [List.length_append, hn.out]; exact own1); rw [HF.out] at hcv)
      go_ret
      exact ⟨rfl, by rw [← HB.out]; exact (BL.out.alloc hbase _).trans bel1⟩
end Go.Proofs.YteeoakbafbnkhaaDoor
